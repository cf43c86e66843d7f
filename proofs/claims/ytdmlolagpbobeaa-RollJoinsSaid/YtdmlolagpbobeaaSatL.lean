/- Numbers saturated to 64 bits, plainly. -/
import Derived.Test.YtdmlolagpbobeaaRows
namespace Go.Proofs.Ytdmlolagpbobeaa

/-- a whole number, saturated to 64 bits -/
def sat (x : Int) : Int := if x < -9223372036854775808 then -9223372036854775808 else if 9223372036854775807 < x then 9223372036854775807 else x

theorem sat_lo (x : Int) : -9223372036854775808 ≤ sat x := by unfold sat; (repeat' split) <;> omega
theorem sat_hi (x : Int) : sat x ≤ 9223372036854775807 := by unfold sat; (repeat' split) <;> omega
theorem sat_in {x : Int} (h : -9223372036854775808 ≤ x) (h' : x ≤ 9223372036854775807) : sat x = x := by unfold sat; (repeat' split) <;> omega
theorem sat_under {x : Int} (h : x ≤ -9223372036854775808) : sat x = -9223372036854775808 := by unfold sat; (repeat' split) <;> omega
theorem sat_over {x : Int} (h : 9223372036854775807 ≤ x) : sat x = 9223372036854775807 := by unfold sat; (repeat' split) <;> omega
end Go.Proofs.Ytdmlolagpbobeaa
