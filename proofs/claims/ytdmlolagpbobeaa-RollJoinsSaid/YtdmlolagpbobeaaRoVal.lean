/- Package roll: valued, told. -/
import Derived.Test.YtdmlolagpbobeaaRoP
import Derived.Test.YtdmlolagpbobeaaNumAddC
import Derived.Test.YtdmlolagpbobeaaGenOpC
import Derived.Deep.DeepCutAuto
import Derived.StillTailTactics
import Derived.Lib.MinMax
namespace Go.Proofs.Ytdmlolagpbobeaa
open Go.RowKit

set_option maxHeartbeats 2000000 in
theorem rovalued_any (w : World) (t : Ag) :
    Calls Try.prog 22 #[agV t] w fun e w' => e = .returned (.bool (decide (0 < t.n))) ∧ Below w.heap.size w w' := by
  have HB : Hid (Below w.heap.size w (w.alloc (.cells #[.int .i64 t.at_, .int .i64 t.n, .int .i64 t.s, .int .i64 t.lo, .int .i64 t.hi] 25))) := Lib.hid ((Below.refl _ _).alloc (Nat.le_refl _) _)
  unfold agV
  go_enter Try.func22, Try.ntmps22
  go_wp2
  go_ret
  exact ⟨rfl, HB.out⟩
/-- two variables just made -/
theorem two_new (w : World) (t u : Ag) {W : World} (hW : W = (w.alloc (.cells #[.int .i64 t.at_, .int .i64 t.n, .int .i64 t.s, .int .i64 t.lo, .int .i64 t.hi] 25)).alloc (.cells #[.int .i64 u.at_, .int .i64 u.n, .int .i64 u.s, .int .i64 u.lo, .int .i64 u.hi] 25)) :
    AgAt W w.heap.size t ∧ AgAt W (w.heap.size + 1) u ∧ Below w.heap.size w W := by
  subst hW
  refine ⟨(AgAt.new w t).old _, ?_, ((Below.refl _ _).alloc (Nat.le_refl _) _).alloc (by simp) _⟩
  have h := AgAt.new (w.alloc (.cells #[.int .i64 t.at_, .int .i64 t.n, .int .i64 t.s, .int .i64 t.lo, .int .i64 t.hi] 25)) u
  rw [World.size_alloc] at h
  exact h
theorem three_new (w : World) (t u x : Ag) {W : World} (hW : W = ((w.alloc (.cells #[.int .i64 t.at_, .int .i64 t.n, .int .i64 t.s, .int .i64 t.lo, .int .i64 t.hi] 25)).alloc (.cells #[.int .i64 u.at_, .int .i64 u.n, .int .i64 u.s, .int .i64 u.lo, .int .i64 u.hi] 25)).alloc (.cells #[.int .i64 x.at_, .int .i64 x.n, .int .i64 x.s, .int .i64 x.lo, .int .i64 x.hi] 25)) :
    AgAt W w.heap.size t ∧ AgAt W (w.heap.size + 1) u ∧ AgAt W (w.heap.size + 1 + 1) x ∧ Below w.heap.size w W := by
  obtain ⟨W1, hW1⟩ : ∃ W1, W1 = (w.alloc (.cells #[.int .i64 t.at_, .int .i64 t.n, .int .i64 t.s, .int .i64 t.lo, .int .i64 t.hi] 25)).alloc (.cells #[.int .i64 u.at_, .int .i64 u.n, .int .i64 u.s, .int .i64 u.lo, .int .i64 u.hi] 25) := ⟨_, rfl⟩
  obtain ⟨h1, h2, h3⟩ := two_new w t u hW1
  have hs : W1.heap.size = w.heap.size + 1 + 1 := by rw [hW1]; simp [World.size_alloc]
  rw [← hW1] at hW
  subst hW
  have h := AgAt.new W1 x
  rw [hs] at h
  exact ⟨h1.old _, h2.old _, h, h3.alloc h3.size _⟩
set_option maxHeartbeats 4000000 in
set_option maxRecDepth 100000 in
theorem rotold_any (w : World) (t : Ag) :
    Calls Try.prog 20 #[agV t] w fun e w' => e = .returned (.tuple #[if 0 < t.n then agV t else agV zeroAg, .bool (decide (0 < t.n))]) ∧ Below w.heap.size w w' := by
  have HV : Hid (∀ W, Calls Try.prog 22 #[.agg #[.int .i64 t.at_, .int .i64 t.n, .int .i64 t.s, .int .i64 t.lo, .int .i64 t.hi]] W fun e w' => e = .returned (.bool (decide (0 < t.n))) ∧ Below W.heap.size W w') := Lib.hid fun W => rovalued_any W t
  obtain ⟨R, hR⟩ : ∃ R, R = (if 0 < t.n then agV t else agV zeroAg) := ⟨_, rfl⟩
  rw [← hR]
  have HRR := Lib.hid hR
  clear hR
  unfold agV
  go_enter Try.func20, Try.ntmps20
  go_upto_region 1 with fail
  refine wp_name fun W1 hW1 => ?_
  obtain ⟨N, hN⟩ : ∃ N, N = w.heap.size := ⟨_, rfl⟩
  obtain ⟨h1, h2, h3⟩ := two_new w t zeroAg hW1.out
  have HN := Lib.hid hN
  rw [← hN] at h1 h2 ⊢
  have H1 := Lib.hid h1
  have H2 := Lib.hid h2
  have H3 := Lib.hid h3
  obtain ⟨c0, c1, c2, c3, c4, -, -, -, -, -⟩ := h1.cells
  clear h1 h2 h3 hW1 hN
  go_wp2_with fail
  refine (HV.out W1).mono ?_
  rintro e W2 ⟨rfl, hb⟩
  have HT2 := Lib.hid (H1.out.keep hb)
  have HU2 := Lib.hid (H2.out.keep hb)
  have HB2 := Lib.hid (H3.out.trans (hb.mono H3.out.size))
  clear hb c0 c1 c2 c3 c4 H1 H2 H3
  dsimp only
  obtain ⟨c0, c1, c2, c3, c4, -, -, -, -, -⟩ := HT2.out.cells
  obtain ⟨d0, d1, d2, d3, d4, f0, f1, f2, f3, f4⟩ := HU2.out.cells
  by_cases hn : 0 < t.n
  · have tn : decide (0 < t.n) = true := decide_eq_true hn
    have e1 : Hid (R = agV t) := Lib.hid (by rw [HRR.out, if_pos hn])
    clear hn
    go_wp2
    refine bodyPost_ret (ret_ag2 (Q := N + 1) (t := t) rfl rfl (setAg_at HU2.out t)) rfl ?_
    exact ⟨by rw [e1.out, tn]; rfl, HB2.out.trans ((setAg_only W2 (N + 1) t).below HB2.out.size (fun k hk => by have := HN.out; omega))⟩
  · have tn : decide (0 < t.n) = false := decide_eq_false hn
    have e1 : Hid (R = agV zeroAg) := Lib.hid (by rw [HRR.out, if_neg hn])
    clear hn
    go_wp2
    refine bodyPost_ret (ret_ag2 (Q := N + 1) (t := zeroAg) rfl rfl (setAg_at HU2.out zeroAg)) rfl ?_
    exact ⟨by rw [e1.out, tn]; rfl, HB2.out.trans ((setAg_only W2 (N + 1) zeroAg).below HB2.out.size (fun k hk => by have := HN.out; omega))⟩
end Go.Proofs.Ytdmlolagpbobeaa
