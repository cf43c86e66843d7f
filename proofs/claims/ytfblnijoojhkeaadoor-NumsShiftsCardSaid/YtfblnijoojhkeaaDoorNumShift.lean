/- Shift of nums, walked: times 2 to a power, saturated; or divided by it, rounded down. -/
import Derived.Test.YtfblnijoojhkeaaDoorNumAdd
import Derived.Lib.Hide
namespace Go.Proofs.YtfblnijoojhkeaaDoor
open Go.RowKit

/-- a shifted number -/
def shiftOf (a b : Int) : Int := if b < 0 then a / 2 ^ (min (-b) 63).toNat else sat (a * 2 ^ (min b 63).toNat)

theorem shl_back {a : Int} {n : Nat} (hn : n ≤ 63) : wrap64 (a * 2 ^ n) / 2 ^ n = a ↔ wrap64 (a * 2 ^ n) = a * 2 ^ n := by
  have hp : (2 : Int) ^ n ≠ 0 := Int.pow_ne_zero (by decide)
  constructor
  · intro h
    have hm : ∃ k : Int, wrap64 (a * 2 ^ n) = a * 2 ^ n + k * 18446744073709551616 := ⟨-((a * 2 ^ n + 9223372036854775808) / 18446744073709551616), by unfold wrap64; omega⟩
    obtain ⟨k, hk⟩ := hm
    have e : (18446744073709551616 : Int) = 2 ^ (64 - n) * 2 ^ n := by
      rw [← Int.pow_add, show 64 - n + n = 64 by omega]; decide
    rw [hk, e, ← Int.mul_assoc, ← Int.add_mul, Int.mul_ediv_cancel _ hp] at h
    have h3 : k * 2 ^ (64 - n) = 0 := by omega
    rw [hk, e, ← Int.mul_assoc, h3]; omega
  · intro h
    rw [h, Int.mul_ediv_cancel _ hp]
theorem shl_keep {a : Int} {n : Nat} (hn : n ≤ 63) (h : (wrap64 (a * 2 ^ n) / 2 ^ n != a) = false) : wrap64 (a * 2 ^ n) = sat (a * 2 ^ n) := by
  have h3 := (shl_back hn).1 (by simpa using h)
  rw [h3, sat_in (by rw [← h3]; unfold wrap64; omega) (by rw [← h3]; unfold wrap64; omega)]
theorem shl_out {a : Int} {n : Nat} (hn : n ≤ 63) (h : (wrap64 (a * 2 ^ n) / 2 ^ n != a) = true) : a * 2 ^ n < -9223372036854775808 ∨ 9223372036854775807 < a * 2 ^ n := by
  have h3 : ¬ wrap64 (a * 2 ^ n) = a * 2 ^ n := fun h3 => by have := (shl_back hn).2 h3; simp [this] at h
  unfold wrap64 at h3; omega
theorem shl_under {a : Int} {n : Nat} (hn : n ≤ 63) (h : (wrap64 (a * 2 ^ n) / 2 ^ n != a) = true) (hs : a < 0) : -9223372036854775808 = sat (a * 2 ^ n) := by
  have h2 : a * 2 ^ n ≤ 0 := Int.mul_nonpos_of_nonpos_of_nonneg (by omega) (Int.le_of_lt (Int.pow_pos (by decide)))
  exact (sat_under (by have := shl_out hn h; omega)).symm
theorem shl_over {a : Int} {n : Nat} (hn : n ≤ 63) (h : (wrap64 (a * 2 ^ n) / 2 ^ n != a) = true) (hs : 0 ≤ a) : 9223372036854775807 = sat (a * 2 ^ n) := by
  have h2 : 0 ≤ a * 2 ^ n := Int.mul_nonneg hs (Int.le_of_lt (Int.pow_pos (by decide)))
  exact (sat_over (by have := shl_out hn h; omega)).symm

set_option maxHeartbeats 800000 in
theorem shift_any {a b : Int} (_ha : -9223372036854775808 ≤ a) (_ha' : a ≤ 9223372036854775807) (hb : -9223372036854775808 ≤ b) (hb' : b ≤ 9223372036854775807) (w : World) :
    Calls Tryd.prog 15 #[.int .i64 a, .int .i64 b] w fun e w' => e = .returned (.int .i64 (shiftOf a b)) ∧ w = w' := by
  by_cases h1 : b < -63
  · go_enter Tryd.func15, Tryd.ntmps15
    go_wp2
    go_ret
    exact ⟨ret_i64 (by unfold shiftOf; rw [if_pos (by omega), show min (-b) 63 = 63 by omega]; rfl), rfl⟩
  · by_cases h2 : b < 0
    · go_enter Tryd.func15, Tryd.ntmps15
      go_wp2
      go_ret
      exact ⟨ret_i64 (by unfold shiftOf; rw [if_pos (by omega), show min (-b) 63 = -b by omega]), rfl⟩
    · by_cases h3 : b ≤ 63
      · have hn : b.toNat ≤ 63 := by omega
        have he : sat (a * 2 ^ b.toNat) = shiftOf a b := by unfold shiftOf; rw [if_neg (by omega), show min b 63 = b by omega]
        go_enter Tryd.func15, Tryd.ntmps15
        go_wp2_with (go_at_call 26; refine (bound_any _ _).mono ?_; rintro e w' ⟨rfl, rfl⟩)
        all_goals go_ret
        · exact ⟨ret_i64 ((shl_under hn ‹_› (by omega)).trans he), rfl⟩
        · exact ⟨ret_i64 ((shl_over hn ‹_› (by omega)).trans he), rfl⟩
        · exact ⟨ret_i64 ((shl_keep hn ‹_›).trans he), rfl⟩
      · have he : sat (a * 2 ^ 63) = shiftOf a b := by unfold shiftOf; rw [if_neg (by omega), show min b 63 = 63 by omega]; rfl
        have H := Lib.hid he; clear he
        go_enter Tryd.func15, Tryd.ntmps15
        go_wp2_with (go_at_call 26; refine (bound_any _ _).mono ?_; rintro e w' ⟨rfl, rfl⟩)
        all_goals go_ret
        · exact ⟨ret_i64 ((shl_under (by decide) ‹_› (by omega)).trans H.out), rfl⟩
        · exact ⟨ret_i64 ((shl_over (by decide) ‹_› (by omega)).trans H.out), rfl⟩
        · exact ⟨ret_i64 ((shl_keep (by decide) ‹_›).trans H.out), rfl⟩
end Go.Proofs.YtfblnijoojhkeaaDoor
