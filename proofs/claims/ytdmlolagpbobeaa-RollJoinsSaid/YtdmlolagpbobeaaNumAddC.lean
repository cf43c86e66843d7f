/- nums' sum, walked: the whole number's, saturated to 64 bits. -/
import Derived.Test.YtdmlolagpbobeaaCore
import Derived.Test.YtdmlolagpbobeaaSatL
namespace Go.Proofs.Ytdmlolagpbobeaa
open Go.RowKit

set_option maxHeartbeats 400000 in
theorem bound_any (b : Bool) (w : World) :
    Calls Try.prog 32 #[.bool b] w fun e w' => e = .returned (.int .i64 (if b then -9223372036854775808 else 9223372036854775807)) ∧ w = w' := by
  cases b
  all_goals
    go_enter Try.func32, Try.ntmps32
    go_wp2
    go_ret
    exact ⟨rfl, rfl⟩

section
variable {a b : Int} (ha : -9223372036854775808 ≤ a) (ha' : a ≤ 9223372036854775807) (hb : -9223372036854775808 ≤ b) (hb' : b ≤ 9223372036854775807)
include ha ha' hb hb'
theorem add_keep (h : (!decide (a < wrap64 (a + b)) == decide (0 < b)) = false) : wrap64 (a + b) = sat (a + b) := by
  unfold sat; unfold wrap64 at *
  by_cases h1 : 0 < b <;> simp [h1] at h <;> (repeat' split) <;> omega
theorem add_under (h : (!decide (a < wrap64 (a + b)) == decide (0 < b)) = true) (h1 : b < 0) : -9223372036854775808 = sat (a + b) := by
  refine (sat_under ?_).symm; unfold wrap64 at *
  by_cases h1 : 0 < b <;> simp [h1] at h <;> omega
theorem add_over (h : (!decide (a < wrap64 (a + b)) == decide (0 < b)) = true) (h1 : 0 ≤ b) : 9223372036854775807 = sat (a + b) := by
  refine (sat_over ?_).symm; unfold wrap64 at *
  by_cases h1 : 0 < b <;> simp [h1] at h <;> omega
set_option maxHeartbeats 400000 in
theorem add_any (w : World) :
    Calls Try.prog 27 #[.int .i64 a, .int .i64 b] w fun e w' => e = .returned (.int .i64 (sat (a + b))) ∧ w = w' := by
  go_enter Try.func27, Try.ntmps27
  go_wp2_with (go_at_call 32; refine (bound_any _ _).mono ?_; rintro e w' ⟨rfl, rfl⟩)
  all_goals go_ret
  · exact ⟨ret_i64 (add_under ha ha' hb hb' ‹_› (by omega)), rfl⟩
  · exact ⟨ret_i64 (add_over ha ha' hb hb' ‹_› (by omega)), rfl⟩
  · exact ⟨ret_i64 (add_keep ha ha' hb hb' ‹_›), rfl⟩

end
end Go.Proofs.Ytdmlolagpbobeaa
