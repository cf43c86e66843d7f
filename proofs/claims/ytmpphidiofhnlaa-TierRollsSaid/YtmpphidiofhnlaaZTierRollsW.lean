/- TierRolls, of the landed package. -/
import Derived.Test.YtmpphidiofhnlaaZTierRollsA
import Derived.Test.YtmpphidiofhnlaaZTierW
namespace Go.Proofs.Ytmpphidiofhnlaa
open Go.RowKit

theorem tierRolls_walk {w : World} {v : Value} {l : List Pt} {a b : Int} (hv : PLies w v l) (hfi : Fits v) (hf : ∀ p ∈ l, p.fits) (hm : l.length ≤ maxLen) (ha0 : 0 ≤ a) (ha1 : a ≤ 4294967295) (hb0 : 0 ≤ b) (hb1 : b ≤ 4294967295) :
    Calls Try.prog 5 #[v, .int .u32 a, .int .u32 b] w fun e w' => e = .returned (.bool true) ∧ Below w.heap.size w w' := tierRolls_over tierDoes hv hfi hf hm ha0 ha1 hb0 hb1
end Go.Proofs.Ytmpphidiofhnlaa
