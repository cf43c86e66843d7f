/- strings.Compare. -/
import Derived.Test.YtphgkkdpdiiioaaNmOrd
import Derived.Test.YtphgkkdpdiiioaaGenOp
import Derived.StillTailTactics
namespace Go.Proofs.Ytphgkkdpdiiioaa
open Go.RowKit

set_option maxHeartbeats 2000000 in
theorem nmcs_any (w : World) (s t : ByteArray) :
    Calls Try.prog 44 #[.string s, .string t] w fun e w' => e = .returned (.int .i64 (cmpT s t)) ∧ w' = w := by
  go_enter Try.func44, Try.ntmps44
  go_wp2
  rw [run_callFunc_extern Try.func51 (by kernel_rfl) (by kernel_rfl) (by kernel_rfl) (e := Extern.BytealgCompare.compare) (by kernel_rfl), Lib.run_compareString]
  simp only [Result.andThen]
  rw [Oper.upon_value]
  go_wp2
  go_ret
  exact ⟨rfl, rfl⟩
set_option maxHeartbeats 2000000 in
theorem nmcmp_any (w : World) (s t : ByteArray) :
    Calls Try.prog 34 #[.string s, .string t] w fun e w' => e = .returned (.int .i64 (cmpT s t)) ∧ w' = w := by
  have H := Lib.hid (nmcs_any w s t)
  go_enter Try.func34, Try.ntmps34
  go_wp2_with (go_at_call 44; refine H.out.mono ?_; rintro e w1 ⟨rfl, rfl⟩)
  go_ret
  exact ⟨rfl, rfl⟩
end Go.Proofs.Ytphgkkdpdiiioaa
