/- The law's own width of a tier. -/
import Derived.Test.YtdmlolagpbobeaaWiL
namespace Go.Proofs.Ytdmlolagpbobeaa
open Go.RowKit

/-- the law's own width -/
theorem lwidth_any (w : World) (t : Int) :
    Calls Try.prog 16 #[.int .i64 t] w fun e w' => e = .returned (.int .i64 (widthW t)) ∧ w' = w := by
  rcases width_four t with ⟨rfl, e⟩ | ⟨rfl, e⟩ | ⟨rfl, e⟩ | ⟨n0, n1, n2, e⟩
  · rw [e]
    go_enter Try.func16, Try.ntmps16
    go_wp2
    go_ret
    exact ⟨rfl, rfl⟩
  · rw [e]
    go_enter Try.func16, Try.ntmps16
    go_wp2
    go_ret
    exact ⟨rfl, rfl⟩
  · rw [e]
    go_enter Try.func16, Try.ntmps16
    go_wp2
    go_ret
    exact ⟨rfl, rfl⟩
  · rw [e]
    have t0 : (t == 0) = false := by simpa using n0
    have t1 : (t == 1) = false := by simpa using n1
    have t2 : (t == 2) = false := by simpa using n2
    go_enter Try.func16, Try.ntmps16
    go_wp2
    go_ret
    exact ⟨rfl, rfl⟩
end Go.Proofs.Ytdmlolagpbobeaa
