/- BitsReads at whatever bytes and asks. -/
import Derived.Test.YtijionbpljhjhaaDoorOpenAsks
namespace Go.Proofs.YtijionbpljhjhaaDoor
open Go.RowKit

theorem bitsReads_walk {w : World} {ab a : Option Addr} {bb offb capb b off cap : Nat} {bs : List Nat} {l : List Ak} (hmb : bs.length ≤ maxLen) (hab : bs ≠ [] → ab = some ⟨bb, offb, none⟩ ∧ bb < w.heap.size) (hib : BytesAt w bb offb bs) (hxb : ∀ x ∈ bs, x < 256) (hzb : bs = [] → bb = 0) (hnb : bs = [] → ab = none → capb = 0)
    (hm : l.length ≤ maxLen) (ha : l ≠ [] → a = some ⟨b, off, none⟩ ∧ b < w.heap.size) (hi : AsksAt w b off l) (hx : ∀ t ∈ l, -9223372036854775808 ≤ t.n ∧ t.n ≤ 9223372036854775807) (hz : l = [] → b = 0) (hl : StepsLaid w) :
    Calls Tryd.prog 4 #[.slice ab bs.length capb, .slice a l.length cap] w fun e w' => e = .returned (.bool true) ∧ Below w.heap.size w w' := by
  have hp := hl.lt
  by_cases h60 : bs.length ≤ 60 ∧ l.length ≤ 60
  · refine bitsReads_some (fun h => (hab h).1) hnb (fun h => (ha h).1) hx hxb h60.1 h60.2 w hi hib ?_ ?_ hl
    · by_cases h : l = []
      · rw [hz h]; omega
      · exact (ha h).2
    · by_cases h : bs = []
      · rw [hzb h]; omega
      · exact (hab h).2
  · exact bitsReads_many (by omega) (by unfold maxLen at hmb; omega) (by unfold maxLen at hm; omega) w hl
end Go.Proofs.YtijionbpljhjhaaDoor
