/- NumsMuls walked: the cases that are left. -/
import Derived.Test.YtfblnijoojhkeaaDoorNumsMulsA
namespace Go.Proofs.YtfblnijoojhkeaaDoor
open Go.RowKit

set_option maxHeartbeats 1000000 in
theorem numsMuls_al {b : Int} (hb : -9223372036854775808 ≤ b) (hb' : b ≤ 9223372036854775807) (b0 : ¬b = 0) (w : World) (hl : StepsLaid w) :
    Calls Tryd.prog 4 #[.int .i64 (-9223372036854775808), .int .i64 b] w fun e w' => e = .returned (.bool true) ∧ w = w' := by
  have z0 : (b == 0) = false := by rw [beq_eq_false_iff_ne]; exact b0
  by_cases b1 : b = 1
  · subst b1
    have e1 : sat (-9223372036854775808) = -9223372036854775808 := by decide
    go_enter Tryd.func4, Tryd.ntmps4
    go_wp2_with (first | (go_at_call 9; refine (lives01 _ hl).mono ?_; rintro e w' ⟨rfl, rfl⟩) | (go_at_call 14; refine (mul_any (by omega) (by omega) (by omega) (by omega) _).mono ?_; rintro e w' ⟨rfl, rfl⟩))
    all_goals
      go_ret
      exact ⟨rfl, rfl⟩
  · have o0 : (b == 1) = false := by rw [beq_eq_false_iff_ne]; exact b1
    by_cases bn : b < 0
    · have e1 : sat (-9223372036854775808 * b) = 9223372036854775807 := sat_over (by omega)
      go_enter Tryd.func4, Tryd.ntmps4
      go_wp2_with (first | (go_at_call 9; refine (lives01 _ hl).mono ?_; rintro e w' ⟨rfl, rfl⟩) | (go_at_call 14; refine (mul_any (by omega) (by omega) (by omega) (by omega) _).mono ?_; rintro e w' ⟨rfl, rfl⟩))
      all_goals
        go_ret
        exact ⟨rfl, rfl⟩
    · have sb : decide (b < 0) = false := by simpa using bn
      have e1 : sat (-9223372036854775808 * b) = -9223372036854775808 := sat_under (by omega)
      go_enter Tryd.func4, Tryd.ntmps4
      go_wp2_with (first | (go_at_call 9; refine (lives01 _ hl).mono ?_; rintro e w' ⟨rfl, rfl⟩) | (go_at_call 14; refine (mul_any (by omega) (by omega) (by omega) (by omega) _).mono ?_; rintro e w' ⟨rfl, rfl⟩))
      all_goals
        go_ret
        exact ⟨rfl, rfl⟩

set_option maxHeartbeats 1000000 in
theorem numsMuls_bl {a : Int} (ha : -9223372036854775808 ≤ a) (ha' : a ≤ 9223372036854775807) (a0 : ¬a = 0) (w : World) (hl : StepsLaid w) :
    Calls Tryd.prog 4 #[.int .i64 a, .int .i64 (-9223372036854775808)] w fun e w' => e = .returned (.bool true) ∧ w = w' := by
  have z0 : (a == 0) = false := by rw [beq_eq_false_iff_ne]; exact a0
  by_cases b1 : a = 1
  · subst b1
    have e1 : sat (-9223372036854775808) = -9223372036854775808 := by decide
    go_enter Tryd.func4, Tryd.ntmps4
    go_wp2_with (first | (go_at_call 9; refine (lives01 _ hl).mono ?_; rintro e w' ⟨rfl, rfl⟩) | (go_at_call 14; refine (mul_any (by omega) (by omega) (by omega) (by omega) _).mono ?_; rintro e w' ⟨rfl, rfl⟩))
    all_goals
      go_ret
      exact ⟨rfl, rfl⟩
  · have o0 : (a == 1) = false := by rw [beq_eq_false_iff_ne]; exact b1
    by_cases bn : a < 0
    · have e1 : sat (a * -9223372036854775808) = 9223372036854775807 := sat_over (by omega)
      go_enter Tryd.func4, Tryd.ntmps4
      go_wp2_with (first | (go_at_call 9; refine (lives01 _ hl).mono ?_; rintro e w' ⟨rfl, rfl⟩) | (go_at_call 14; refine (mul_any (by omega) (by omega) (by omega) (by omega) _).mono ?_; rintro e w' ⟨rfl, rfl⟩))
      all_goals
        go_ret
        exact ⟨rfl, rfl⟩
    · have sb : decide (a < 0) = false := by simpa using bn
      have e1 : sat (a * -9223372036854775808) = -9223372036854775808 := sat_under (by omega)
      go_enter Tryd.func4, Tryd.ntmps4
      go_wp2_with (first | (go_at_call 9; refine (lives01 _ hl).mono ?_; rintro e w' ⟨rfl, rfl⟩) | (go_at_call 14; refine (mul_any (by omega) (by omega) (by omega) (by omega) _).mono ?_; rintro e w' ⟨rfl, rfl⟩))
      all_goals
        go_ret
        exact ⟨rfl, rfl⟩

set_option maxHeartbeats 1000000 in
theorem numsMuls_walk {a b : Int} (ha : -9223372036854775808 ≤ a) (ha' : a ≤ 9223372036854775807) (hb : -9223372036854775808 ≤ b) (hb' : b ≤ 9223372036854775807) (w : World) (hl : StepsLaid w) :
    Calls Tryd.prog 4 #[.int .i64 a, .int .i64 b] w fun e w' => e = .returned (.bool true) ∧ w = w' := by
  by_cases a0 : a = 0
  · subst a0
    have e0 : sat (0 * b) = 0 := by rw [Int.zero_mul]; decide
    have e1 : sat 0 = 0 := by decide
    go_enter Tryd.func4, Tryd.ntmps4
    go_wp2_with (first | (go_at_call 9; refine (lives01 _ hl).mono ?_; rintro e w' ⟨rfl, rfl⟩) | (go_at_call 14; refine (mul_any (by omega) (by omega) (by omega) (by omega) _).mono ?_; rintro e w' ⟨rfl, rfl⟩))
    all_goals
      go_ret
      exact ⟨rfl, rfl⟩
  by_cases b0 : b = 0
  · subst b0
    have e0 : sat (a * 0) = 0 := by rw [Int.mul_zero]; decide
    have e1 : sat 0 = 0 := by decide
    have z0 : (a == 0) = false := by rw [beq_eq_false_iff_ne]; exact a0
    go_enter Tryd.func4, Tryd.ntmps4
    go_wp2_with (first | (go_at_call 9; refine (lives01 _ hl).mono ?_; rintro e w' ⟨rfl, rfl⟩) | (go_at_call 14; refine (mul_any (by omega) (by omega) (by omega) (by omega) _).mono ?_; rintro e w' ⟨rfl, rfl⟩))
    all_goals
      go_ret
      exact ⟨rfl, rfl⟩
  by_cases al : a = -9223372036854775808
  · subst al; exact numsMuls_al hb hb' b0 w hl
  by_cases bl : b = -9223372036854775808
  · subst bl; exact numsMuls_bl ha ha' a0 w hl
  by_cases an : a < 0 <;> by_cases bn : b < 0
  · have := numsMuls_nn (x := -a) (y := -b) (by omega) (by omega) (by omega) (by omega) w hl
    rwa [Int.neg_neg, Int.neg_neg] at this
  · have := numsMuls_np (x := -a) (y := b) (by omega) (by omega) (by omega) (by omega) w hl
    rwa [Int.neg_neg] at this
  · have := numsMuls_pn (x := a) (y := -b) (by omega) (by omega) (by omega) (by omega) w hl
    rwa [Int.neg_neg] at this
  · exact numsMuls_pp (by omega) (by omega) (by omega) (by omega) w hl
end Go.Proofs.YtfblnijoojhkeaaDoor
