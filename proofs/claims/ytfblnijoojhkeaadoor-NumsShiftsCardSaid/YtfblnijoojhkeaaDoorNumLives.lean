/- The chapter's example of nums holds; Sum, the law's own, walked. -/
import Derived.Test.YtfblnijoojhkeaaDoorNumAdd
import Derived.Test.YtfblnijoojhkeaaDoorNumFold
namespace Go.Proofs.YtfblnijoojhkeaaDoor
open Go.RowKit

set_option maxHeartbeats 400000 in
theorem lives01 (w : World) (hl : StepsLaid w) :
    Calls Tryd.prog 9 #[] w fun e w' => e = .returned (.bool true) ∧ w = w' := by
  have a0 : sat (9223372036854775807 + 1) = 9223372036854775807 := by decide
  have f0 : fold (-3) = 5 := by decide
  have w0 : wid 5 = 3 := by decide
  go_enter Tryd.func9, Tryd.ntmps9
  go_wp2_with (first | (go_at_call 11; refine (add_any (by decide) (by decide) (by decide) (by decide) _).mono ?_; rintro e w' ⟨rfl, rfl⟩) | (go_at_call 23; refine (fold_any (by decide) (by decide) _).mono ?_; rintro e w' ⟨rfl, rfl⟩) | (go_at_call 25; refine (width_any (x := 5) (by decide) _ hl).mono ?_; rintro e w' ⟨rfl, rfl⟩))
  go_ret
  exact ⟨rfl, rfl⟩

set_option maxHeartbeats 400000 in
theorem sum01 {a b : Int} (ha : -9223372036854775808 ≤ a) (ha' : a ≤ 9223372036854775807) (hb : -9223372036854775808 ≤ b) (hb' : b ≤ 9223372036854775807) (w : World) :
    Calls Tryd.prog 10 #[.int .i64 a, .int .i64 b] w fun e w' => e = .returned (.int .i64 (sat (a + b))) ∧ w = w' := by
  go_enter Tryd.func10, Tryd.ntmps10
  go_wp2
  all_goals
    go_ret
    exact ⟨ret_i64 (by unfold sat; (repeat' split) <;> omega), rfl⟩
end Go.Proofs.YtfblnijoojhkeaaDoor
