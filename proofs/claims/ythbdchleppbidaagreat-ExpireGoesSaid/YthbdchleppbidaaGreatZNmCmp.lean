/- strings.Compare. -/
import Derived.Test.YthbdchleppbidaaGreatMN
import Derived.Test.YthbdchleppbidaaGreatZGenOp
import Derived.StillTailTactics
namespace Go.Proofs.YthbdchleppbidaaGreat
open Go.RowKit

set_option maxRecDepth 100000 in
set_option maxHeartbeats 2000000 in
theorem nmcs_any (w : World) (s t : ByteArray) :
    Calls Tryz.prog 115 #[.string s, .string t] w fun e w' => e = .returned (.int .i64 (cmpT s t)) ∧ w' = w := by
  go_enter Tryz.func115, Tryz.ntmps115
  go_wp2
  rw [run_callFunc_extern Tryz.func134 (by kernel_rfl) (by kernel_rfl) (by kernel_rfl) (e := Extern.BytealgCompare.compare) (by kernel_rfl), Lib.run_compareString]
  simp only [Result.andThen]
  rw [Oper.upon_value]
  go_wp2
  go_ret
  exact ⟨rfl, rfl⟩
set_option maxRecDepth 100000 in
set_option maxHeartbeats 2000000 in
theorem nmcmp_any (w : World) (s t : ByteArray) :
    Calls Tryz.prog 85 #[.string s, .string t] w fun e w' => e = .returned (.int .i64 (cmpT s t)) ∧ w' = w := by
  have H := Lib.hid (nmcs_any w s t)
  go_enter Tryz.func85, Tryz.ntmps85
  go_wp2_with (go_at_call 115; refine H.out.mono ?_; rintro e w1 ⟨rfl, rfl⟩)
  go_ret
  exact ⟨rfl, rfl⟩
end Go.Proofs.YthbdchleppbidaaGreat
