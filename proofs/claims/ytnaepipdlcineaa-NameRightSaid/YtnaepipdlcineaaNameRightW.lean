/- NameRight, walked. -/
import Derived.Test.YtnaepipdlcineaaNmLives
namespace Go.Proofs.Ytnaepipdlcineaa
open Go.RowKit

set_option maxHeartbeats 4000000 in
theorem nameRight_walk (s : ByteArray) (_hs : s.size ≤ maxLen) (w : World) :
    Calls Try.prog 3 #[.string s] w fun e w' => e = .returned (.bool true) ∧ Below w.heap.size w w' := by
  by_cases h1 : s.size ≤ 100
  · have t1 : decide ((100 : Int) < (s.size : Int)) = false := by simp only [decide_eq_false_iff_not]; omega
    obtain ⟨R, hR⟩ : ∃ R, R = rightN (ordsOf s) := ⟨_, rfl⟩
    have HP : Hid (∀ W, Calls Try.prog 8 #[.string s] W fun e w' => e = .returned (.bool R) ∧ w' = W) := Lib.hid fun W => by rw [hR]; exact nmright_any W s (by unfold maxLen; omega)
    have HD : Hid (∀ W, Calls Try.prog 9 #[.string s] W fun e w' => e = .returned (.bool R) ∧ w' = W) := Lib.hid fun W => by rw [hR]; exact nmdoc_any W s (by omega)
    clear hR
    go_enter Try.func3, Try.ntmps3
    repeat (first | go_values | go_skip | go_guarded | go_step)
    refine (nmlives_any w).mono ?_
    rintro e w1 ⟨rfl, hb⟩
    have HB := Lib.hid hb
    clear hb
    dsimp only
    repeat (first | go_values | go_skip | go_guarded | go_step)
    refine (HP.out w1).mono ?_
    rintro e w2 ⟨rfl, rfl⟩
    dsimp only
    repeat (first | go_values | go_skip | go_guarded | go_step)
    refine (HD.out w2).mono ?_
    rintro e w3 ⟨rfl, rfl⟩
    dsimp only
    have tR : (R == R) = true := by simp
    repeat (first | go_values | go_skip | go_guarded | go_step | go_upon)
    go_ret
    exact ⟨by simp, HB.out⟩
  · have t1 : decide ((100 : Int) < (s.size : Int)) = true := by simp only [decide_eq_true_eq]; omega
    go_enter Try.func3, Try.ntmps3
    repeat (first | go_values | go_skip | go_guarded | go_step)
    refine (nmlives_any w).mono ?_
    rintro e w1 ⟨rfl, hb⟩
    have HB1 := Lib.hid hb
    clear hb
    dsimp only
    repeat (first | go_values | go_skip | go_guarded | go_step)
    refine (nmlives_any w1).mono ?_
    rintro e w2 ⟨rfl, hb⟩
    have HB2 := Lib.hid (HB1.out.trans (hb.mono HB1.out.size))
    clear hb
    dsimp only
    repeat (first | go_values | go_skip | go_guarded | go_step | go_upon)
    go_ret
    exact ⟨rfl, HB2.out⟩
end Go.Proofs.Ytnaepipdlcineaa
