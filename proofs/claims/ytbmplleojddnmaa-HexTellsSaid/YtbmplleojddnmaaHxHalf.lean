/- Package hex: a sign's half. -/
import Derived.Test.YtbmplleojddnmaaHxL
namespace Go.Proofs.Ytbmplleojddnmaa
open Go.RowKit

set_option maxHeartbeats 4000000 in
theorem hxhalf_any (w : World) {c : Nat} (hc : c < 256) :
    Calls Try.prog 12 #[.int .u8 (c : Int)] w fun e w' => e = .returned (.tuple #[.int .u8 (((halfB c).getD 0 : Nat) : Int), .bool (halfB c).isSome]) ∧ w' = w := by
  by_cases h1 : 48 ≤ c
  · have t1 : decide ((48 : Int) ≤ (c : Int)) = true := by simp only [decide_eq_true_eq]; omega
    by_cases h2 : c ≤ 57
    · have t2 : decide ((c : Int) ≤ 57) = true := by simp only [decide_eq_true_eq]; omega
      have e : halfB c = some (c - 48) := by unfold halfB; rw [if_pos ⟨h1, h2⟩]
      obtain ⟨x, hx⟩ : ∃ x, x = c - 48 := ⟨_, rfl⟩
      have e0 : (c : Int) - 48 = (x : Int) := by omega
      rw [e, ← hx]
      have hx10 : x < 10 := by omega
      clear e hx
      simp only [Option.getD_some, Option.isSome_some]
      go_enter Try.func12, Try.ntmps12
      repeat (first | go_values | go_skip | go_guarded | go_step | go_upon)
      go_ret2
      exact ⟨rfl, rfl⟩
    · have t2 : decide ((c : Int) ≤ 57) = false := by simp only [decide_eq_false_iff_not]; omega
      by_cases h3 : 97 ≤ c
      · have t3 : decide ((97 : Int) ≤ (c : Int)) = true := by simp only [decide_eq_true_eq]; omega
        by_cases h4 : c ≤ 102
        · have t4 : decide ((c : Int) ≤ 102) = true := by simp only [decide_eq_true_eq]; omega
          have e : halfB c = some (c - 87) := by unfold halfB; rw [if_neg (by omega), if_pos ⟨h3, h4⟩]
          obtain ⟨x, hx⟩ : ∃ x, x = c - 97 := ⟨_, rfl⟩
          have e0 : (c : Int) - 97 = (x : Int) := by omega
          have e1 : c - 87 = x + 10 := by omega
          rw [e, e1]
          have hx6 : x < 6 := by omega
          clear e hx e1
          simp only [Option.getD_some, Option.isSome_some]
          go_enter Try.func12, Try.ntmps12
          repeat (first | go_values | go_skip | go_guarded | go_step | go_upon)
          go_ret2
          exact ⟨rfl, rfl⟩
        · have t4 : decide ((c : Int) ≤ 102) = false := by simp only [decide_eq_false_iff_not]; omega
          have e : halfB c = none := by unfold halfB; rw [if_neg (by omega), if_neg (by omega)]
          rw [e]
          clear e
          simp only [Option.getD_none, Option.isSome_none]
          go_enter Try.func12, Try.ntmps12
          repeat (first | go_values | go_skip | go_guarded | go_step | go_upon)
          go_ret2
          exact ⟨rfl, rfl⟩
      · have t3 : decide ((97 : Int) ≤ (c : Int)) = false := by simp only [decide_eq_false_iff_not]; omega
        have e : halfB c = none := by unfold halfB; rw [if_neg (by omega), if_neg (by omega)]
        rw [e]
        clear e
        simp only [Option.getD_none, Option.isSome_none]
        go_enter Try.func12, Try.ntmps12
        repeat (first | go_values | go_skip | go_guarded | go_step | go_upon)
        go_ret2
        exact ⟨rfl, rfl⟩
  · have t1 : decide ((48 : Int) ≤ (c : Int)) = false := by simp only [decide_eq_false_iff_not]; omega
    have t3 : decide ((97 : Int) ≤ (c : Int)) = false := by simp only [decide_eq_false_iff_not]; omega
    have e : halfB c = none := by unfold halfB; rw [if_neg (by omega), if_neg (by omega)]
    rw [e]
    clear e
    simp only [Option.getD_none, Option.isSome_none]
    go_enter Try.func12, Try.ntmps12
    repeat (first | go_values | go_skip | go_guarded | go_step | go_upon)
    go_ret2
    exact ⟨rfl, rfl⟩
end Go.Proofs.Ytbmplleojddnmaa
