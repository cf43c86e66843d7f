/- Windows and ranges, plainly. -/
import Derived.Test.YtphgkkdpdiiioaaCore
namespace Go.Proofs.Ytphgkkdpdiiioaa
open Go.RowKit

/-- how many ticks a window of a tier has -/
def widthW (t : Int) : Int := if t = 0 then 1 else if t = 1 then 300 else if t = 2 then 3600 else 0
/-- has a tick a window of a tier? -/
def hasW (t a : Int) : Bool := decide (0 < widthW t) && decide (0 ≤ a)
/-- where it begins -/
def startW (t a : Int) : Int := if hasW t a = true then a - a % widthW t else 0
/-- where it ends -/
def endW (t a : Int) : Int := if hasW t a = true then startW t a + min (widthW t) (9223372036854775807 - startW t a) else 0
def closedW (t a n : Int) : Bool := hasW t a && decide (startW t a < startW t n)
theorem width_four (t : Int) : (t = 0 ∧ widthW t = 1) ∨ (t = 1 ∧ widthW t = 300) ∨ (t = 2 ∧ widthW t = 3600) ∨ (t ≠ 0 ∧ t ≠ 1 ∧ t ≠ 2 ∧ widthW t = 0) := by
  unfold widthW
  by_cases h0 : t = 0
  · exact .inl ⟨h0, by rw [if_pos h0]⟩
  by_cases h1 : t = 1
  · exact .inr (.inl ⟨h1, by rw [if_neg h0, if_pos h1]⟩)
  by_cases h2 : t = 2
  · exact .inr (.inr (.inl ⟨h2, by rw [if_neg h0, if_neg h1, if_pos h2]⟩))
  · exact .inr (.inr (.inr ⟨h0, h1, h2, by rw [if_neg h0, if_neg h1, if_neg h2]⟩))
theorem width_range (t : Int) : 0 ≤ widthW t ∧ widthW t ≤ 3600 := by rcases width_four t with h | h | h | h <;> omega
theorem has_iff {t a : Int} : hasW t a = true ↔ 0 < widthW t ∧ 0 ≤ a := by unfold hasW; simp
theorem start_at {t a : Int} (h : 0 ≤ a) : startW t a = if widthW t = 0 then 0 else a - a % widthW t := by
  unfold startW hasW
  have := width_range t
  by_cases h0 : widthW t = 0
  · rw [if_neg (by simp [h0]), if_pos h0]
  · rw [if_pos (by simp; omega), if_neg h0]
theorem start_range (t : Int) {a : Int} (h : a ≤ 9223372036854775807) : 0 ≤ startW t a ∧ startW t a ≤ 9223372036854775807 := by
  by_cases ha : 0 ≤ a
  · rw [start_at ha]
    rcases width_four t with ⟨_, e⟩ | ⟨_, e⟩ | ⟨_, e⟩ | ⟨_, _, _, e⟩ <;> rw [e]
    · rw [if_neg (by decide)]; omega
    · rw [if_neg (by decide)]; omega
    · rw [if_neg (by decide)]; omega
    · rw [if_pos rfl]; omega
  · unfold startW hasW
    rw [if_neg (by simp; omega)]; omega

/-- the cells of a range -/
def rg (a b : Int) : Value := .agg #[.int .i64 a, .int .i64 b]
def rightR (a b : Int) : Bool := decide (0 ≤ a) && decide (a < b) && decide (b ≤ 1099511627777)
def inR (a b x : Int) : Bool := decide (a ≤ x) && decide (x < b)
def meetsR (a b c d : Int) : Bool := decide (max a c < min b d)
/-- what is cut of a range -/
def partR (a b : Int) : List (Int × Int) := if a < b then [(a, b)] else []
def cutR (a b c d : Int) : List (Int × Int) := if meetsR a b c d = true then partR a c ++ partR d b else partR a b
def cellsR (l : List (Int × Int)) : List Value := l.flatMap fun p => [.int .i64 p.1, .int .i64 p.2]
end Go.Proofs.Ytphgkkdpdiiioaa
