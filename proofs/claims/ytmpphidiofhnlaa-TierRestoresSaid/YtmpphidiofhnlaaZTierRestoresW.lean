/- TierRestores, of the landed package. -/
import Derived.Test.YtmpphidiofhnlaaZTierRestoresA
import Derived.Test.YtmpphidiofhnlaaZTiRestore
namespace Go.Proofs.Ytmpphidiofhnlaa
open Go.RowKit

theorem tierRestores_walk {w : World} {v0 v1 : Value} {L M : List TActL} {mk : Int} (hv : TActsAt w v0 L) (hin : ∀ x ∈ L, x.In) (hm : L.length ≤ maxLen) (hv1 : TActsAt w v1 M) (hin1 : ∀ x ∈ M, x.In) (hm1 : M.length ≤ maxLen)
    (hk0 : -9223372036854775808 ≤ mk) (hk1 : mk ≤ 9223372036854775807) :
    Calls Try.prog 4 #[v0, v1, .int .i64 mk] w fun e w' => e = .returned (.bool true) ∧ Below w.heap.size w w' := tierRestores_over tierDoes tierRest hv hin hm hv1 hin1 hm1 hk0 hk1
end Go.Proofs.Ytmpphidiofhnlaa
