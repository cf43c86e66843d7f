/- Package name: of one byte. -/
import Derived.Test.YtphgkkdpdiiioaaNmL
namespace Go.Proofs.Ytphgkkdpdiiioaa
open Go.RowKit

set_option maxHeartbeats 2000000 in
theorem nmlet_any (w : World) {x : Nat} (_hx : x < 256) :
    Calls Try.prog 45 #[.int .u8 (x : Int)] w fun e w' => e = .returned (.bool (letN x)) ∧ w' = w := by
  by_cases h1 : 97 ≤ x
  · have t1 : decide ((97 : Int) ≤ (x : Int)) = true := by simp only [decide_eq_true_eq]; omega
    by_cases h2 : x ≤ 122
    · have t2 : decide ((x : Int) ≤ 122) = true := by simp only [decide_eq_true_eq]; omega
      rw [show letN x = true by simp [letN, h1, h2]]
      go_enter Try.func45, Try.ntmps45
      repeat (first | go_values | go_skip | go_guarded | go_step | go_upon)
      go_ret
      exact ⟨rfl, rfl⟩
    · have t2 : decide ((x : Int) ≤ 122) = false := by simp only [decide_eq_false_iff_not]; omega
      rw [show letN x = false by simp [letN]; omega]
      go_enter Try.func45, Try.ntmps45
      repeat (first | go_values | go_skip | go_guarded | go_step | go_upon)
      go_ret
      exact ⟨rfl, rfl⟩
  · have t1 : decide ((97 : Int) ≤ (x : Int)) = false := by simp only [decide_eq_false_iff_not]; omega
    rw [show letN x = false by simp [letN]; omega]
    go_enter Try.func45, Try.ntmps45
    repeat (first | go_values | go_skip | go_guarded | go_step | go_upon)
    go_ret
    exact ⟨rfl, rfl⟩
set_option maxHeartbeats 4000000 in
theorem nmfits_any (w : World) {x : Nat} (hx : x < 256) :
    Calls Try.prog 46 #[.int .u8 (x : Int)] w fun e w' => e = .returned (.bool (fitN x)) ∧ w' = w := by
  have HL := Lib.hid (nmlet_any w hx)
  have key : ∀ L : Bool, letN x = L → Calls Try.prog 46 #[.int .u8 (x : Int)] w fun e w' => e = .returned (.bool (fitN x)) ∧ w' = w := by
    intro L hL
    rw [hL] at HL
    cases L with
    | true =>
      rw [let_fit hL]
      clear hL
      go_enter Try.func46, Try.ntmps46
      repeat (first | go_values | go_skip | go_guarded | go_step | go_upon)
      refine HL.out.mono ?_
      rintro e w1 ⟨rfl, rfl⟩
      dsimp only
      repeat (first | go_values | go_skip | go_guarded | go_step | go_upon)
      go_ret
      exact ⟨rfl, rfl⟩
    | false =>
      have hF : fitN x = ((decide (48 ≤ x) && decide (x ≤ 57)) || decide (x = 45)) := by simp [fitN, hL]
      clear hL
      by_cases h0 : x = 45
      · have t0 : ((x : Int) == 45) = true := by simp; omega
        have t1 : decide ((48 : Int) ≤ (x : Int)) = false := by simp only [decide_eq_false_iff_not]; omega
        rw [show fitN x = true by rw [hF]; simp [h0]]
        clear hF h0
        go_enter Try.func46, Try.ntmps46
        repeat (first | go_values | go_skip | go_guarded | go_step | go_upon)
        refine HL.out.mono ?_
        rintro e w1 ⟨rfl, rfl⟩
        dsimp only
        repeat (first | go_values | go_skip | go_guarded | go_step | go_upon)
        go_ret
        exact ⟨rfl, rfl⟩
      · have t0 : ((x : Int) == 45) = false := by simp; omega
        by_cases h1 : 48 ≤ x
        · have t1 : decide ((48 : Int) ≤ (x : Int)) = true := by simp only [decide_eq_true_eq]; omega
          by_cases h2 : x ≤ 57
          · have t2 : decide ((x : Int) ≤ 57) = true := by simp only [decide_eq_true_eq]; omega
            rw [show fitN x = true by rw [hF]; simp [h1, h2]]
            clear hF
            go_enter Try.func46, Try.ntmps46
            repeat (first | go_values | go_skip | go_guarded | go_step | go_upon)
            refine HL.out.mono ?_
            rintro e w1 ⟨rfl, rfl⟩
            dsimp only
            repeat (first | go_values | go_skip | go_guarded | go_step | go_upon)
            go_ret
            exact ⟨rfl, rfl⟩
          · have t2 : decide ((x : Int) ≤ 57) = false := by simp only [decide_eq_false_iff_not]; omega
            rw [show fitN x = false by rw [hF]; simp; omega]
            clear hF
            go_enter Try.func46, Try.ntmps46
            repeat (first | go_values | go_skip | go_guarded | go_step | go_upon)
            refine HL.out.mono ?_
            rintro e w1 ⟨rfl, rfl⟩
            dsimp only
            repeat (first | go_values | go_skip | go_guarded | go_step | go_upon)
            go_ret
            exact ⟨rfl, rfl⟩
        · have t1 : decide ((48 : Int) ≤ (x : Int)) = false := by simp only [decide_eq_false_iff_not]; omega
          rw [show fitN x = false by rw [hF]; simp; omega]
          clear hF
          go_enter Try.func46, Try.ntmps46
          repeat (first | go_values | go_skip | go_guarded | go_step | go_upon)
          refine HL.out.mono ?_
          rintro e w1 ⟨rfl, rfl⟩
          dsimp only
          repeat (first | go_values | go_skip | go_guarded | go_step | go_upon)
          go_ret
          exact ⟨rfl, rfl⟩
  exact key _ rfl
end Go.Proofs.Ytphgkkdpdiiioaa
