/- The document's Right, walked. -/
import Derived.Test.YthbdchleppbidaaGreatMP
import Derived.Test.YthbdchleppbidaaGreatML
import Derived.Deep.DeepCutAuto
import Derived.StillTailTactics
import Derived.Handy
import Derived.Deep.CutBlock
namespace Go.Proofs.YthbdchleppbidaaGreat
open Go.RowKit

theorem ret_boolP {x y : Bool} (h : x = y) : Ending.returned (.bool x) = .returned (.bool y) := by rw [h]
theorem rp_ne {c : Int} (h : (c != 0) = true) : c ≠ 0 := by simpa using h
theorem rp_eq {c : Int} (h : (c != 0) = false) : c = 0 := by simpa using h
set_option maxHeartbeats 4000000 in
set_option maxRecDepth 100000 in
theorem lpright_any (w : World) (a b c : Int) :
    Calls Tryz.prog 14 #[.agg #[.int .i64 a, .int .i64 b, .int .i64 c]] w fun e w' => e = .returned (.bool (rightP a b c)) ∧ Below w.heap.size w w' := by
  have HR : Hid (rightP a b c = decide (RightP a b c)) := Lib.hid rfl
  go_enter Tryz.func14, Tryz.ntmps14
  go_upto_region 1 with fail
  refine wp_name fun W1 hW1 => ?_
  obtain ⟨P, hP⟩ : ∃ P, P = w.heap.size := ⟨_, rfl⟩
  have HP : Hid (PolAt W1 P a b c) := Lib.hid (by rw [hW1.out, hP]; exact PolAt.new w a b c)
  have HB1 : Hid (Below w.heap.size w W1) := Lib.hid (by rw [hW1.out]; exact (Below.refl _ _).alloc (Nat.le_refl _) _)
  rw [← hP]
  obtain ⟨c0, c1, c2, -, -, -⟩ := HP.out.cells
  clear hW1 hP
  go_upto_region 2 with (go_quiet (fail))
  go_upto_block 0 with fail
  refine wp_name fun W2 hW2 => ?_
  have eN : (W1.drewN nq).heap.size = W1.heap.size := by rw [drewN_heap]
  obtain ⟨Q, hQ⟩ : ∃ Q, Q = W1.heap.size := ⟨_, rfl⟩
  have hq : W2.heap[Q]? = some (.cells #[.int .i64 a, .int .i64 b, .int .i64 c] 2 (0, 0)) := by rw [hW2.out, hQ, ← eN]; exact heap_alloc_new _ _
  obtain ⟨d0, d1, d2, -, -, -⟩ := cells3 hq
  have HB2 : Hid (Below w.heap.size w W2) := Lib.hid (by rw [hW2.out]; exact HB1.out.trans ((only_drewN (fun _ => False) _ nq).below HB1.out.size (fun _ h => h.elim) |>.alloc (by rw [eN]; exact HB1.out.size) _))
  rw [← hQ]
  clear hW2 hQ hq eN c0 c1 c2 HP HB1
  go_wp2
  go_rounds 4
  all_goals go_ret
  all_goals refine ⟨ret_boolP ?_, HB2.out⟩
  all_goals rw [HR.out]
  all_goals (try (have hx := rp_ne (c := c) (by assumption)))
  all_goals (try (have hy := rp_eq (c := c) (by assumption)))
  all_goals (first
    | exact (decide_eq_false (by unfold RightP; omega)).symm
    | exact (decide_eq_true (by unfold RightP; omega)).symm
    | (rw [Bool.eq_iff_iff, Bool.or_eq_true, beq_iff_eq, decide_eq_true_eq, decide_eq_true_eq]; unfold RightP; omega))
end Go.Proofs.YthbdchleppbidaaGreat
