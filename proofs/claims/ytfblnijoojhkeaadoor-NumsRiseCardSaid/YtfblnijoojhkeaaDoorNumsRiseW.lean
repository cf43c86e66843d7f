/- NumsRise walked: sums and products of a greater number aren't less; a sum is the same both ways. -/
import Derived.Test.YtfblnijoojhkeaaDoorNumLives
import Derived.Test.YtfblnijoojhkeaaDoorNumMul
namespace Go.Proofs.YtfblnijoojhkeaaDoor
open Go.RowKit

theorem sat_mono {x y : Int} (h : x ≤ y) : sat x ≤ sat y := by unfold sat; (repeat' split) <;> omega

section
variable {a b c : Int} (ha : -9223372036854775808 ≤ a) (ha' : a ≤ 9223372036854775807) (hb : -9223372036854775808 ≤ b) (hb' : b ≤ 9223372036854775807) (hc : -9223372036854775808 ≤ c) (hc' : c ≤ 9223372036854775807)
include ha ha' hb hb' hc hc'
set_option maxHeartbeats 1000000 in
theorem numsRise_walk (w : World) (hl : StepsLaid w) :
    Calls Tryd.prog 8 #[.int .i64 a, .int .i64 b, .int .i64 c] w fun e w' => e = .returned (.bool true) ∧ w = w' := by
  by_cases h1 : b < a
  · have g1 : sat (b + c) ≤ sat (a + c) := sat_mono (by omega)
    have g2 : sat (b - c) ≤ sat (a - c) := sat_mono (by omega)
    have g3 : sat (b + a) = sat (a + b) := by rw [Int.add_comm]
    have g4 : sat (b * a) = sat (a * b) := by rw [Int.mul_comm]
    by_cases h2 : c < 0
    · go_enter Tryd.func8, Tryd.ntmps8
      go_wp2_with (first | (go_at_call 9; refine (lives01 _ hl).mono ?_; rintro e w' ⟨rfl, rfl⟩) | (go_at_call 11; refine (add_any (by omega) (by omega) (by omega) (by omega) _).mono ?_; rintro e w' ⟨rfl, rfl⟩) | (go_at_call 13; refine (sub_any (by omega) (by omega) (by omega) (by omega) _).mono ?_; rintro e w' ⟨rfl, rfl⟩) | (go_at_call 14; refine (mul_any (by omega) (by omega) (by omega) (by omega) _).mono ?_; rintro e w' ⟨rfl, rfl⟩))
      go_ret
      exact ⟨rfl, rfl⟩
    · have g5 : sat (b * c) ≤ sat (a * c) := sat_mono (Int.mul_le_mul_of_nonneg_right (by omega) (by omega))
      go_enter Tryd.func8, Tryd.ntmps8
      go_wp2_with (first | (go_at_call 9; refine (lives01 _ hl).mono ?_; rintro e w' ⟨rfl, rfl⟩) | (go_at_call 11; refine (add_any (by omega) (by omega) (by omega) (by omega) _).mono ?_; rintro e w' ⟨rfl, rfl⟩) | (go_at_call 13; refine (sub_any (by omega) (by omega) (by omega) (by omega) _).mono ?_; rintro e w' ⟨rfl, rfl⟩) | (go_at_call 14; refine (mul_any (by omega) (by omega) (by omega) (by omega) _).mono ?_; rintro e w' ⟨rfl, rfl⟩))
      go_ret
      exact ⟨rfl, rfl⟩
  · have g1 : sat (a + c) ≤ sat (b + c) := sat_mono (by omega)
    have g2 : sat (a - c) ≤ sat (b - c) := sat_mono (by omega)
    have g3 : sat (a + b) = sat (b + a) := by rw [Int.add_comm]
    have g4 : sat (a * b) = sat (b * a) := by rw [Int.mul_comm]
    by_cases h2 : c < 0
    · go_enter Tryd.func8, Tryd.ntmps8
      go_wp2_with (first | (go_at_call 9; refine (lives01 _ hl).mono ?_; rintro e w' ⟨rfl, rfl⟩) | (go_at_call 11; refine (add_any (by omega) (by omega) (by omega) (by omega) _).mono ?_; rintro e w' ⟨rfl, rfl⟩) | (go_at_call 13; refine (sub_any (by omega) (by omega) (by omega) (by omega) _).mono ?_; rintro e w' ⟨rfl, rfl⟩) | (go_at_call 14; refine (mul_any (by omega) (by omega) (by omega) (by omega) _).mono ?_; rintro e w' ⟨rfl, rfl⟩))
      go_ret
      exact ⟨rfl, rfl⟩
    · have g5 : sat (a * c) ≤ sat (b * c) := sat_mono (Int.mul_le_mul_of_nonneg_right (by omega) (by omega))
      go_enter Tryd.func8, Tryd.ntmps8
      go_wp2_with (first | (go_at_call 9; refine (lives01 _ hl).mono ?_; rintro e w' ⟨rfl, rfl⟩) | (go_at_call 11; refine (add_any (by omega) (by omega) (by omega) (by omega) _).mono ?_; rintro e w' ⟨rfl, rfl⟩) | (go_at_call 13; refine (sub_any (by omega) (by omega) (by omega) (by omega) _).mono ?_; rintro e w' ⟨rfl, rfl⟩) | (go_at_call 14; refine (mul_any (by omega) (by omega) (by omega) (by omega) _).mono ?_; rintro e w' ⟨rfl, rfl⟩))
      go_ret
      exact ⟨rfl, rfl⟩
end
end Go.Proofs.YtfblnijoojhkeaaDoor
