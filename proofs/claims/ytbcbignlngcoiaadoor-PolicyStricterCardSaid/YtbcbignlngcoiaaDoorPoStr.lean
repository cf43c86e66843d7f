/- Package policy: Stricter. -/
import Derived.Test.YtbcbignlngcoiaaDoorPoOf
namespace Go.Proofs.YtbcbignlngcoiaaDoor
open Go.RowKit

set_option maxHeartbeats 4000000 in
set_option maxRecDepth 100000 in
theorem postrict_any (w : World) (a b c x y z : Int) :
    Calls Tryd.prog 7 #[.agg #[.int .i64 a, .int .i64 b, .int .i64 c], .agg #[.int .i64 x, .int .i64 y, .int .i64 z]] w fun e w' => e = .returned (.agg #[.int .i64 (lessP a x), .int .i64 (lessP b y), .int .i64 (lessP c z)]) ∧ Below w.heap.size w w' := by
  have HS : Hid (∀ W p q, Calls Tryd.prog 12 #[.int .i64 p, .int .i64 q] W fun e w' => e = .returned (.int .i64 (lessP p q)) ∧ w' = W) := Lib.hid fun W p q => postricter_any W p q
  go_enter Tryd.func7, Tryd.ntmps7
  go_upto_region 1 with fail
  refine wp_name fun W1 hW1 => ?_
  obtain ⟨P, hP⟩ : ∃ P, P = w.heap.size := ⟨_, rfl⟩
  have e2 : (w.alloc (.cells #[.int .i64 a, .int .i64 b, .int .i64 c] 23)).heap.size = P + 1 := by rw [hP]; simp
  have e3 : ((w.alloc (.cells #[.int .i64 a, .int .i64 b, .int .i64 c] 23)).alloc (.cells #[.int .i64 x, .int .i64 y, .int .i64 z] 23)).heap.size = P + 1 + 1 := by rw [hP]; simp
  have HP : Hid (PolAt W1 P a b c) := Lib.hid (by rw [hW1.out, hP]; exact ((PolAt.new w a b c).old _).old _)
  have HQ : Hid (PolAt W1 (P + 1) x y z) := Lib.hid (by rw [hW1.out, ← e2]; exact (PolAt.new _ x y z).old _)
  have HR : Hid (PolAt W1 (P + 1 + 1) 0 0 0) := Lib.hid (by rw [hW1.out, ← e3]; exact PolAt.new _ 0 0 0)
  have HB1 : Hid (Below w.heap.size w W1) := Lib.hid (by rw [hW1.out]; exact (((Below.refl _ _).alloc (Nat.le_refl _) _).alloc (by simp) _).alloc (by simp; omega) _)
  have HE := Lib.hid hP
  rw [← hP]
  obtain ⟨c0, c1, c2, -, -, -⟩ := HP.out.cells
  obtain ⟨d0, d1, d2, -, -, -⟩ := HQ.out.cells
  clear hW1 hP e2 e3
  go_upto_region 1 with fail
  go_still_tail 16, (by kernel_rfl)
  still_call (HS.out _ _ _)
  repeat still_step
  still_call (HS.out _ _ _)
  repeat still_step
  still_call (HS.out _ _ _)
  repeat still_step
  refine wpStill_nil ?_
  change wpList _ _ _ _ _ W1.drew
  have HR2 := Lib.hid HR.out.drew
  have HB2 := Lib.hid (below_drew HB1.out)
  generalize W1.drew = W2 at *
  clear c0 c1 c2 d0 d1 d2
  obtain ⟨z0, z1, z2, f0, f1, f2⟩ := HR2.out.cells
  go_wp2
  refine bodyPost_ret (ret_pol (Q := P + 1 + 1) rfl rfl (HR2.out.set _ _ _)) rfl ?_
  exact ⟨rfl, HB2.out.trans ((setPol_only _ _ _ _ _).below HB2.out.size (fun k hk => by rw [hk, HE.out]; omega))⟩
end Go.Proofs.YtbcbignlngcoiaaDoor
