/- The product of nums, walked: the whole number's, saturated to 64 bits. -/
import Derived.Test.YtfblnijoojhkeaaDoorNumAdd
import Derived.Lib.Hide
namespace Go.Proofs.YtfblnijoojhkeaaDoor
open Go.RowKit

theorem mul_in {a b : Int} (h : wrap64 (a * b) = a * b) : sat (a * b) = a * b := by
  refine sat_in ?_ ?_ <;> (rw [← h]; unfold wrap64; omega)
theorem mul_out {a b : Int} (h : ¬wrap64 (a * b) = a * b) : a * b < -9223372036854775808 ∨ 9223372036854775807 < a * b := by
  unfold wrap64 at h; omega
theorem mul_same {a b : Int} (h : a < 0 ↔ b < 0) : 0 ≤ a * b := by
  by_cases h1 : a < 0
  · exact Int.mul_nonneg_of_nonpos_of_nonpos (by omega) (by have := h.1 h1; omega)
  · exact Int.mul_nonneg (by omega) (by omega)
theorem mul_other {a b : Int} (h : ¬(a < 0 ↔ b < 0)) : a * b ≤ 0 := by
  by_cases h1 : a < 0
  · exact Int.mul_nonpos_of_nonpos_of_nonneg (by omega) (by omega)
  · exact Int.mul_nonpos_of_nonneg_of_nonpos (by omega) (by omega)

section
variable {a b : Int} (ha : -9223372036854775808 ≤ a) (ha' : a ≤ 9223372036854775807) (hb : -9223372036854775808 ≤ b) (hb' : b ≤ 9223372036854775807)
include ha ha' hb hb'

/-- a product is in range just if dividing gives it back -/
theorem mul_back (h0 : ¬a = 0) (h2 : ¬a = -1) : wrap64 ((wrap64 (a * b)).tdiv a) = b ↔ wrap64 (a * b) = a * b := by
  have hlo : -9223372036854775808 ≤ wrap64 (a * b) := by unfold wrap64; omega
  have hhi : wrap64 (a * b) ≤ 9223372036854775807 := by unfold wrap64; omega
  have hm : ∃ k : Int, a * b = wrap64 (a * b) + k * 18446744073709551616 := ⟨(a * b + 9223372036854775808) / 18446744073709551616, by unfold wrap64; omega⟩
  constructor
  · intro h
    generalize wrap64 (a * b) = p at *
    obtain ⟨k, hk⟩ := hm
    by_cases h1 : a = 1
    · subst h1
      rw [Int.one_mul] at hk ⊢; omega
    · have hq : -4611686018427387904 ≤ p.tdiv a ∧ p.tdiv a ≤ 4611686018427387904 := by
        have h3 : (p.tdiv a).natAbs = p.natAbs / a.natAbs := Int.natAbs_tdiv p a
        have h4 : p.natAbs / a.natAbs ≤ p.natAbs / 2 := Nat.div_le_div_left (by omega) (by decide)
        omega
      rw [show wrap64 (p.tdiv a) = p.tdiv a by unfold wrap64; omega] at h
      have h5 := Int.mul_tdiv_add_tmod p a
      have h6 : (p.tmod a).natAbs < a.natAbs := by rw [Int.natAbs_tmod]; exact Nat.mod_lt _ (by omega)
      rw [h] at h5
      have : k = 0 := by omega
      subst this; omega
  · intro h
    rw [h, Int.mul_tdiv_cancel_left _ h0]
    unfold wrap64; omega
theorem mul_keep (h0 : ¬a = 0) (h2 : ¬a = -1) (h : (wrap64 ((wrap64 (a * b)).tdiv a) != b) = false) : wrap64 (a * b) = sat (a * b) := by
  have h3 := (mul_back ha ha' hb hb' h0 h2).1 (by simpa using h)
  rw [mul_in h3, h3]
theorem mul_hi (h0 : ¬a = 0) (h2 : ¬a = -1) (hs : 0 ≤ a * b) (h : (wrap64 ((wrap64 (a * b)).tdiv a) != b) = true) : 9223372036854775807 = sat (a * b) := by
  have h3 := mul_out (fun h3 => by have := (mul_back ha ha' hb hb' h0 h2).2 h3; simp [this] at h)
  exact (sat_over (by omega)).symm
theorem mul_lo (h0 : ¬a = 0) (h2 : ¬a = -1) (hs : a * b ≤ 0) (h : (wrap64 ((wrap64 (a * b)).tdiv a) != b) = true) : -9223372036854775808 = sat (a * b) := by
  have h3 := mul_out (fun h3 => by have := (mul_back ha ha' hb hb' h0 h2).2 h3; simp [this] at h)
  exact (sat_under (by omega)).symm

set_option maxHeartbeats 400000 in
theorem mul_any (w : World) :
    Calls Tryd.prog 14 #[.int .i64 a, .int .i64 b] w fun e w' => e = .returned (.int .i64 (sat (a * b))) ∧ w = w' := by
  by_cases h0 : a = 0
  · subst h0
    go_enter Tryd.func14, Tryd.ntmps14
    go_wp2
    go_ret
    exact ⟨ret_i64 (by rw [Int.zero_mul]; decide), rfl⟩
  · by_cases h1 : b = 0
    · subst h1
      go_enter Tryd.func14, Tryd.ntmps14
      go_wp2
      go_ret
      exact ⟨ret_i64 (by rw [Int.mul_zero]; decide), rfl⟩
    · by_cases h2 : a = -1
      · subst h2
        go_enter Tryd.func14, Tryd.ntmps14
        go_wp2_with (go_at_call 12; refine (neg_any hb hb' _).mono ?_; rintro e w' ⟨rfl, rfl⟩)
        go_ret
        exact ⟨ret_i64 (by rw [Int.neg_one_mul]), rfl⟩
      · go_enter Tryd.func14, Tryd.ntmps14
        go_wp2_with (go_at_call 26; refine (bound_any _ _).mono ?_; rintro e w' ⟨rfl, rfl⟩)
        all_goals go_ret
        · simp_all
        · exact ⟨ret_i64 (mul_hi ha ha' hb hb' h0 h2 (mul_same (by assumption)) ‹_›), rfl⟩
        · exact ⟨ret_i64 (mul_lo ha ha' hb hb' h0 h2 (mul_other (by assumption)) ‹_›), rfl⟩
        · exact ⟨ret_i64 (mul_keep ha ha' hb hb' h0 h2 ‹_›), rfl⟩
end
end Go.Proofs.YtfblnijoojhkeaaDoor
