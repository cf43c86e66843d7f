/- The law's own saturated sum. -/
import Derived.Test.YtdmlolagpbobeaaCore
import Derived.Test.YtdmlolagpbobeaaSatL
namespace Go.Proofs.Ytdmlolagpbobeaa
open Go.RowKit

set_option maxHeartbeats 400000 in
theorem sum01 {a b : Int} (ha : -9223372036854775808 ≤ a) (ha' : a ≤ 9223372036854775807) (hb : -9223372036854775808 ≤ b) (hb' : b ≤ 9223372036854775807) (w : World) :
    Calls Try.prog 14 #[.int .i64 a, .int .i64 b] w fun e w' => e = .returned (.int .i64 (sat (a + b))) ∧ w = w' := by
  go_enter Try.func14, Try.ntmps14
  go_wp2
  all_goals
    go_ret
    exact ⟨ret_i64 (by unfold sat; (repeat' split) <;> omega), rfl⟩
end Go.Proofs.Ytdmlolagpbobeaa
