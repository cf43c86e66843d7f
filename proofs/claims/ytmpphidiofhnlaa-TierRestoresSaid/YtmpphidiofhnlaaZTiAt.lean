/- Package tier: is, held, Mark, New, Points. -/
import Derived.Test.YtmpphidiofhnlaaZTiSit
import Derived.Test.YtmpphidiofhnlaaMS
namespace Go.Proofs.Ytmpphidiofhnlaa
open Go.RowKit

set_option maxHeartbeats 4000000 in
theorem tiis_any (w : World) (t : Int) :
    Calls Try.prog 46 #[.int .i64 t] w fun e w' => e = .returned (.bool (decide (0 ≤ t) && decide (t < 3))) ∧ w' = w := by
  by_cases ha : 0 ≤ t
  · have da : decide (0 ≤ t) = true := decide_eq_true ha
    by_cases hb : t < 3
    · have db : decide (t < 3) = true := decide_eq_true hb
      go_enter Try.func46, Try.ntmps46
      go_wp2
      go_ret
      exact ⟨by rw [da, db]; rfl, rfl⟩
    · have db : decide (t < 3) = false := decide_eq_false hb
      go_enter Try.func46, Try.ntmps46
      go_wp2
      go_ret
      exact ⟨rfl, rfl⟩
  · have da : decide (0 ≤ t) = false := decide_eq_false ha
    go_enter Try.func46, Try.ntmps46
    go_wp2
    go_ret
    exact ⟨rfl, rfl⟩
def heldV (t : Int) (vm vl : Value) : Value := if t = 1 then vm else if t = 2 then vl else .slice none 0 0
set_option maxHeartbeats 4000000 in
theorem tiheld_any {w : World} {p sp : Nat} {v vm vl : Value} {s : Stk} (h : TSit w p sp v vm vl s) {t : Int} (h0 : -9223372036854775808 ≤ t) (h1 : t ≤ 9223372036854775807) :
    Calls Try.prog 43 #[.pointer (some ⟨p, 0, none⟩), .int .i64 t] w fun e w' => e = .returned (heldV t vm vl) ∧ w' = w := by
  have HI := Lib.hid (tiis_any w t)
  obtain ⟨c0, c1, c2, c3, c4, c5, c6⟩ := h.cells
  clear h
  by_cases hr : 0 ≤ t ∧ t < 3
  · rw [decide_eq_true hr.1, decide_eq_true hr.2] at HI
    have ht : t = 0 ∨ t = 1 ∨ t = 2 := by omega
    clear h0 h1 hr
    rcases ht with rfl | rfl | rfl
    all_goals
      go_enter Try.func43, Try.ntmps43
      go_wp2_with fail
      refine HI.out.mono ?_
      rintro e w2 ⟨rfl, hw⟩; replace hw := hw.symm; subst hw
      dsimp only
      go_wp2
      go_ret
      exact ⟨rfl, rfl⟩
  · have hE : Hid (heldV t vm vl = .slice none 0 0) := Lib.hid (by unfold heldV; rw [if_neg (by omega), if_neg (by omega)])
    have hF : (decide (0 ≤ t) && decide (t < 3)) = false := by
      by_cases ha : 0 ≤ t
      · rw [decide_eq_false (show ¬ t < 3 by omega), Bool.and_false]
      · rw [decide_eq_false ha, Bool.false_and]
    rw [hF] at HI
    clear hF hr h0 h1
    go_enter Try.func43, Try.ntmps43
    go_wp2_with fail
    refine HI.out.mono ?_
    rintro e w2 ⟨rfl, hw⟩; replace hw := hw.symm; subst hw
    dsimp only
    go_wp2
    go_ret
    exact ⟨by rw [hE.out]; rfl, rfl⟩
theorem tiheld_none (w : World) (t : Int) : Calls Try.prog 43 #[.pointer none, .int .i64 t] w fun e w' => e = .returned (.slice none 0 0) ∧ w' = w := by
  go_enter Try.func43, Try.ntmps43
  go_wp2
  go_ret
  exact ⟨rfl, rfl⟩
set_option maxHeartbeats 4000000 in
theorem timark_any {w : World} {p sp : Nat} {v vm vl : Value} {s : Stk} (h : TSit w p sp v vm vl s) {t : Int} (h0 : -9223372036854775808 ≤ t) (h1 : t ≤ 9223372036854775807) :
    Calls Try.prog 21 #[.pointer (some ⟨p, 0, none⟩), .int .i64 t] w fun e w' => e = .returned (.int .i64 (if t = 1 then s.mm else if t = 2 then s.ml else 0)) ∧ w' = w := by
  have HI := Lib.hid (tiis_any w t)
  obtain ⟨c0, c1, c2, c3, c4, c5, c6⟩ := h.cells
  obtain ⟨M, hM⟩ : ∃ M, M = (if t = 1 then s.mm else if t = 2 then s.ml else 0) := ⟨_, rfl⟩
  rw [← hM]
  clear h
  by_cases hr : 0 ≤ t ∧ t < 3
  · rw [decide_eq_true hr.1, decide_eq_true hr.2] at HI
    have ht : t = 0 ∨ t = 1 ∨ t = 2 := by omega
    clear h0 h1 hr
    rcases ht with rfl | rfl | rfl
    all_goals
      have HM := Lib.hid hM
      clear hM
      go_enter Try.func21, Try.ntmps21
      go_wp2_with fail
      refine HI.out.mono ?_
      rintro e w2 ⟨rfl, hw⟩; replace hw := hw.symm; subst hw
      dsimp only
      go_wp2
      go_ret
      exact ⟨by rw [HM.out]; rfl, rfl⟩
  · have hE : Hid (M = 0) := Lib.hid (by rw [hM, if_neg (by omega), if_neg (by omega)])
    have hF : (decide (0 ≤ t) && decide (t < 3)) = false := by
      by_cases ha : 0 ≤ t
      · rw [decide_eq_false (show ¬ t < 3 by omega), Bool.and_false]
      · rw [decide_eq_false ha, Bool.false_and]
    rw [hF] at HI
    clear hF hr h0 h1 hM
    go_enter Try.func21, Try.ntmps21
    go_wp2_with fail
    refine HI.out.mono ?_
    rintro e w2 ⟨rfl, hw⟩; replace hw := hw.symm; subst hw
    dsimp only
    go_wp2
    go_ret
    exact ⟨by rw [hE.out]; rfl, rfl⟩
set_option maxHeartbeats 4000000 in
theorem tinew_any (w : World) : Calls Try.prog 26 #[] w fun e w' => ∃ p sp, e = .returned (.pointer (some ⟨p, 0, none⟩)) ∧ TSit w' p sp (.slice none 0 0) (.slice none 0 0) (.slice none 0 0) newS ∧ w.heap.size ≤ p ∧ w.heap.size ≤ sp ∧ Below w.heap.size w w' := by
  have HN := Lib.hid (senew_any w)
  go_enter Try.func26, Try.ntmps26
  go_wp2_with fail
  refine HN.out.mono ?_
  rintro e W2 ⟨rfl, hs, hb⟩
  have HS := Lib.hid hs
  have HB := Lib.hid hb
  clear hs hb
  dsimp only
  obtain ⟨N, hN⟩ : ∃ N, N = w.heap.size := ⟨_, rfl⟩
  have HNN := Lib.hid hN
  rw [← hN] at HS HB ⊢
  clear hN HN
  go_wp2
  go_ret
  refine ⟨W2.heap.size, N, rfl, ⟨heap_alloc_new W2 _, HS.out.keep ((Below.refl _ W2).alloc (Nat.le_refl _) _), AgRow.nil _ _, AgRow.nil _ _, (by intro k hk; cases hk), GoodT.new⟩, HB.out.size, by rw [HNN.out]; exact Nat.le_refl _, by have h1 := HB.out; rw [HNN.out] at h1 ⊢; exact h1.alloc h1.size _⟩
set_option maxHeartbeats 4000000 in
theorem tipoints_any {w : World} {p sp : Nat} {v vm vl : Value} {s : Stk} (h : TSit w p sp v vm vl s) (a b : Int) :
    Calls Try.prog 17 #[.pointer (some ⟨p, 0, none⟩), .agg #[.int .i64 a, .int .i64 b]] w fun e w' => ∃ v', e = .returned v' ∧ PtRowB w.heap.size w' v' (getL s.raw a b) ∧ Below w.heap.size w w' := by
  have HG : Hid (∀ W, Below w.heap.size w W → Calls Try.prog 32 #[.pointer (some ⟨sp, 0, none⟩), .agg #[.int .i64 a, .int .i64 b]] W fun e w' => ∃ v', e = .returned v' ∧ PtRowB W.heap.size w' v' (getL s.raw a b) ∧ Below W.heap.size W w') := Lib.hid fun W hb => seget_any (h.ser.keep hb) a b
  obtain ⟨c0, -, -, -, -, -, -⟩ := h.cells
  obtain ⟨G, hG⟩ : ∃ G, G = getL s.raw a b := ⟨_, rfl⟩
  rw [← hG] at HG ⊢
  clear hG h
  go_enter Try.func17, Try.ntmps17
  go_upto_region 3 with fail
  refine wp_name fun W1 hW1 => ?_
  obtain ⟨P, hP⟩ : ∃ P, P = w.heap.size := ⟨_, rfl⟩
  have hb1 : Below w.heap.size w W1 := by rw [hW1.out]; exact (Below.refl _ _).alloc (Nat.le_refl _) _
  have hR1 : RgAt W1 P a b := by rw [hW1.out, hP]; exact RgAt.new w a b
  have HG1 := Lib.hid (HG.out _ (below_drew hb1))
  have hc1 : W1.cell? ⟨P, 0, none⟩ = some (.int .i64 a) ∧ W1.cell? ⟨P, 1, none⟩ = some (.int .i64 b) ∧ W1.cell? ⟨p, 0, none⟩ = some (.pointer (some ⟨sp, 0, none⟩)) := ⟨hR1.cells.1, hR1.cells.2.1, (hb1.cell (p := ⟨p, 0, none⟩) (cell_lt c0)).trans c0⟩
  have HC := Lib.hid hc1
  have HB1 := Lib.hid hb1
  rw [← hP]
  clear hW1 hb1 hP hR1 hc1 HG c0
  go_region_held3 (fun w' => w'.cell? ⟨P, 0, none⟩ = some (.int .i64 a) ∧ w'.cell? ⟨P, 1, none⟩ = some (.int .i64 b) ∧ w'.cell? ⟨p, 0, none⟩ = some (.pointer (some ⟨sp, 0, none⟩))) (first | exact HC.out | exact HC2.out) ((go_at_call 32; refine (HG1.out).mono ?_; rintro e W2 ⟨v2, rfl, hr2, hb2⟩; have HC2 : Hid (W2.cell? ⟨P, 0, none⟩ = some (.int .i64 a) ∧ W2.cell? ⟨P, 1, none⟩ = some (.int .i64 b) ∧ W2.cell? ⟨p, 0, none⟩ = some (.pointer (some ⟨sp, 0, none⟩))) := Lib.hid ⟨(hb2.cell (p := ⟨P, 0, none⟩) (cell_lt HC.out.1)).trans HC.out.1, (hb2.cell (p := ⟨P, 1, none⟩) (cell_lt HC.out.2.1)).trans HC.out.2.1, (hb2.cell (p := ⟨p, 0, none⟩) (cell_lt HC.out.2.2)).trans HC.out.2.2⟩; have HB2 : Hid (Below w.heap.size w W2) := Lib.hid (HB1.out.trans ((below_drew (Below.refl w.heap.size W1)).trans (hb2.mono HB1.out.size))); have HR2 : Hid (PtRowB w.heap.size W2 v2 G) := Lib.hid (hr2.base HB1.out.size); clear hb2 hr2))
  go_wp2_with fail
  go_ret
  exact ⟨_, rfl, HR2.out, HB2.out⟩
end Go.Proofs.Ytmpphidiofhnlaa
