/- The sum, the difference and the other sign of nums, walked: each is the whole number's, saturated to 64 bits. -/
import Derived.Test.YtfblnijoojhkeaaDoorRows
import Derived.WalkKit
import Derived.WalkSpells
import Derived.WalkLawsBesides
namespace Go.Proofs.YtfblnijoojhkeaaDoor
open Go.RowKit

/-- a whole number, saturated to 64 bits -/
def sat (x : Int) : Int := if x < -9223372036854775808 then -9223372036854775808 else if 9223372036854775807 < x then 9223372036854775807 else x

theorem ret_i64 {a b : Int} (h : a = b) : Ending.returned (.int .i64 a) = .returned (.int .i64 b) := by rw [h]

theorem sat_lo (x : Int) : -9223372036854775808 ≤ sat x := by unfold sat; (repeat' split) <;> omega
theorem sat_hi (x : Int) : sat x ≤ 9223372036854775807 := by unfold sat; (repeat' split) <;> omega
theorem sat_in {x : Int} (h : -9223372036854775808 ≤ x) (h' : x ≤ 9223372036854775807) : sat x = x := by unfold sat; (repeat' split) <;> omega
theorem sat_under {x : Int} (h : x ≤ -9223372036854775808) : sat x = -9223372036854775808 := by unfold sat; (repeat' split) <;> omega
theorem sat_over {x : Int} (h : 9223372036854775807 ≤ x) : sat x = 9223372036854775807 := by unfold sat; (repeat' split) <;> omega

set_option maxHeartbeats 400000 in
theorem bound_any (b : Bool) (w : World) :
    Calls Tryd.prog 26 #[.bool b] w fun e w' => e = .returned (.int .i64 (if b then -9223372036854775808 else 9223372036854775807)) ∧ w = w' := by
  cases b
  all_goals
    go_enter Tryd.func26, Tryd.ntmps26
    go_wp2
    go_ret
    exact ⟨rfl, rfl⟩

section
variable {a b : Int} (ha : -9223372036854775808 ≤ a) (ha' : a ≤ 9223372036854775807) (hb : -9223372036854775808 ≤ b) (hb' : b ≤ 9223372036854775807)
include ha ha' hb hb'
theorem add_keep (h : (!decide (a < wrap64 (a + b)) == decide (0 < b)) = false) : wrap64 (a + b) = sat (a + b) := by
  unfold sat; unfold wrap64 at *
  by_cases h1 : 0 < b <;> simp [h1] at h <;> (repeat' split) <;> omega
theorem add_under (h : (!decide (a < wrap64 (a + b)) == decide (0 < b)) = true) (h1 : b < 0) : -9223372036854775808 = sat (a + b) := by
  refine (sat_under ?_).symm; unfold wrap64 at *
  by_cases h1 : 0 < b <;> simp [h1] at h <;> omega
theorem add_over (h : (!decide (a < wrap64 (a + b)) == decide (0 < b)) = true) (h1 : 0 ≤ b) : 9223372036854775807 = sat (a + b) := by
  refine (sat_over ?_).symm; unfold wrap64 at *
  by_cases h1 : 0 < b <;> simp [h1] at h <;> omega
theorem sub_keep (h : (!decide (wrap64 (a - b) < a) == decide (0 < b)) = false) : wrap64 (a - b) = sat (a - b) := by
  unfold sat; unfold wrap64 at *
  by_cases h1 : 0 < b <;> simp [h1] at h <;> (repeat' split) <;> omega
theorem sub_under (h : (!decide (wrap64 (a - b) < a) == decide (0 < b)) = true) (h1 : 0 < b) : -9223372036854775808 = sat (a - b) := by
  refine (sat_under ?_).symm; unfold wrap64 at *
  by_cases h1 : 0 < b <;> simp [h1] at h <;> omega
theorem sub_over (h : (!decide (wrap64 (a - b) < a) == decide (0 < b)) = true) (h1 : b ≤ 0) : 9223372036854775807 = sat (a - b) := by
  refine (sat_over ?_).symm; unfold wrap64 at *
  by_cases h1 : 0 < b <;> simp [h1] at h <;> omega

set_option maxHeartbeats 400000 in
theorem add_any (w : World) :
    Calls Tryd.prog 11 #[.int .i64 a, .int .i64 b] w fun e w' => e = .returned (.int .i64 (sat (a + b))) ∧ w = w' := by
  go_enter Tryd.func11, Tryd.ntmps11
  go_wp2_with (go_at_call 26; refine (bound_any _ _).mono ?_; rintro e w' ⟨rfl, rfl⟩)
  all_goals go_ret
  · exact ⟨ret_i64 (add_under ha ha' hb hb' ‹_› (by omega)), rfl⟩
  · exact ⟨ret_i64 (add_over ha ha' hb hb' ‹_› (by omega)), rfl⟩
  · exact ⟨ret_i64 (add_keep ha ha' hb hb' ‹_›), rfl⟩

set_option maxHeartbeats 400000 in
theorem sub_any (w : World) :
    Calls Tryd.prog 13 #[.int .i64 a, .int .i64 b] w fun e w' => e = .returned (.int .i64 (sat (a - b))) ∧ w = w' := by
  go_enter Tryd.func13, Tryd.ntmps13
  go_wp2_with (go_at_call 26; refine (bound_any _ _).mono ?_; rintro e w' ⟨rfl, rfl⟩)
  all_goals go_ret
  · exact ⟨ret_i64 (sub_under ha ha' hb hb' ‹_› (by omega)), rfl⟩
  · exact ⟨ret_i64 (sub_over ha ha' hb hb' ‹_› (by omega)), rfl⟩
  · exact ⟨ret_i64 (sub_keep ha ha' hb hb' ‹_›), rfl⟩
end

set_option maxHeartbeats 400000 in
theorem neg_any {a : Int} (ha : -9223372036854775808 ≤ a) (ha' : a ≤ 9223372036854775807) (w : World) :
    Calls Tryd.prog 12 #[.int .i64 a] w fun e w' => e = .returned (.int .i64 (sat (-a))) ∧ w = w' := by
  go_enter Tryd.func12, Tryd.ntmps12
  go_wp2_with (go_at_call 13; refine (sub_any (by omega) (by omega) ha ha' _).mono ?_; rintro e w' ⟨rfl, rfl⟩)
  go_ret
  exact ⟨rfl, rfl⟩

end Go.Proofs.YtfblnijoojhkeaaDoor
