/- ExpireNext, of the landed package. -/
import Derived.Test.YthbdchleppbidaaGreatZExpireNextA
import Derived.Test.YthbdchleppbidaaGreatZExSet
import Derived.Test.YthbdchleppbidaaGreatMM
namespace Go.Proofs.YthbdchleppbidaaGreat
open Go.RowKit

theorem expireNext_walk {w : World} {v0 : Value} {L : List TActL} {a b c : Int} (hv : TActsAt w v0 L) (hin : ∀ x ∈ L, x.In) (hm : L.length ≤ maxLen)
    (pa : -9223372036854775808 ≤ a ∧ a ≤ 9223372036854775807) (pb : -9223372036854775808 ≤ b ∧ b ≤ 9223372036854775807) (pc : -9223372036854775808 ≤ c ∧ c ≤ 9223372036854775807) :
    Calls Tryz.prog 5 #[v0, .agg #[.int .i64 a, .int .i64 b, .int .i64 c]] w fun e w' => e = .returned (.bool true) ∧ Below w.heap.size w w' :=
  expireNext_over tierM expireD exnext_any hv hin hm pa pb pc
end Go.Proofs.YthbdchleppbidaaGreat
