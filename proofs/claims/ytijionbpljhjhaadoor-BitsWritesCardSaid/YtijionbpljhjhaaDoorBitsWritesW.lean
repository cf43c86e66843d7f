/- BitsWrites at whatever slice of items. -/
import Derived.Test.YtijionbpljhjhaaDoorBitsWritesA
import Derived.Test.YtijionbpljhjhaaDoorOpenItems
namespace Go.Proofs.YtijionbpljhjhaaDoor
open Go.RowKit

theorem bitsWrites_walk {w : World} {a : Option Addr} {b off cap : Nat} {l : List It} (hm : l.length ≤ maxLen) (ha : l ≠ [] → a = some ⟨b, off, none⟩ ∧ b < w.heap.size) (hi : ItemsAt w b off l)
    (hx : ∀ t ∈ l, t.x < 18446744073709551616 ∧ -9223372036854775808 ≤ t.n ∧ t.n ≤ 9223372036854775807) (hz : l = [] → b = 0) (hl : StepsLaid w) :
    Calls Tryd.prog 3 #[.slice a l.length cap] w fun e w' => e = .returned (.bool true) ∧ Below w.heap.size w w' := by
  by_cases h60 : l.length ≤ 60
  · refine bitsWrites_some (fun h => (ha h).1) hx h60 w hi ?_ hl
    by_cases h : l = []
    · rw [hz h]; have := hl.lt; omega
    · exact (ha h).2
  · exact bitsWrites_many (by omega) (by unfold maxLen at hm; omega) w hl
end Go.Proofs.YtijionbpljhjhaaDoor
