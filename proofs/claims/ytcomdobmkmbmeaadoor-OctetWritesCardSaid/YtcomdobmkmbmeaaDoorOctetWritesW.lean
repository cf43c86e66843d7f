/- OctetWrites at whatever slice of items. -/
import Derived.Test.YtcomdobmkmbmeaaDoorOctetWritesA
namespace Go.Proofs.YtcomdobmkmbmeaaDoor
open Go.RowKit

theorem octetWrites_walk {w : World} {a : Option Addr} {b off cap : Nat} {l : List Ot} (hm : l.length ≤ maxLen) (ha : l ≠ [] → a = some ⟨b, off, none⟩ ∧ b < w.heap.size) (hi : OtsAt w b off l)
    (hx : ∀ t ∈ l, t.fits) (hz : l = [] → b = 0) (hl : StepsLaid w) :
    Calls Tryd.prog 3 #[.slice a l.length cap] w fun e w' => e = .returned (.bool true) ∧ Below w.heap.size w w' := by
  by_cases h40 : l.length ≤ 40
  · refine octetWrites_some (fun h => (ha h).1) hx h40 w hi ?_ hl
    by_cases h : l = []
    · rw [hz h]; have := hl.lt; omega
    · exact (ha h).2
  · exact octetWrites_many (by omega) (by unfold maxLen at hm; omega) w hl
end Go.Proofs.YtcomdobmkmbmeaaDoor
