/- TierForgets, of the landed package. -/
import Derived.Test.YtmpphidiofhnlaaZTierForgetsA
import Derived.Test.YtmpphidiofhnlaaZTierW
namespace Go.Proofs.Ytmpphidiofhnlaa
open Go.RowKit

theorem tierForgets_walk {w : World} {v0 v1 : Value} {L M : List TActL} {ra rb y : Int} (hv : TActsAt w v0 L) (hin : ∀ x ∈ L, x.In) (hm : L.length ≤ maxLen) (hv1 : TActsAt w v1 M) (hin1 : ∀ x ∈ M, x.In) (hm1 : M.length ≤ maxLen)
    (ha : -9223372036854775808 ≤ ra ∧ ra ≤ 9223372036854775807) (hb : -9223372036854775808 ≤ rb ∧ rb ≤ 9223372036854775807) (hy0 : -9223372036854775808 ≤ y) (hy1 : y ≤ 9223372036854775807) :
    Calls Try.prog 3 #[v0, v1, .agg #[.int .i64 ra, .int .i64 rb], .int .i64 y] w fun e w' => e = .returned (.bool true) ∧ Below w.heap.size w w' := tierForgets_over tierDoes hv hin hm hv1 hin1 hm1 ha hb hy0 hy1
end Go.Proofs.Ytmpphidiofhnlaa
