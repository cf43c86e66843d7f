/- ExpireHeld, of the landed package. -/
import Derived.Test.YthbdchleppbidaaGreatZExpireHeldA
import Derived.Test.YthbdchleppbidaaGreatZExSet
namespace Go.Proofs.YthbdchleppbidaaGreat
open Go.RowKit

theorem expireHeld_walk {w : World} {v0 v3 : Value} {L : List TActL} {T : List Int} {ra rb a b c : Int} (hv : TActsAt w v0 L) (hin : ∀ x ∈ L, x.In) (hm : L.length ≤ maxLen)
    (ha : -9223372036854775808 ≤ ra ∧ ra ≤ 9223372036854775807) (hb : -9223372036854775808 ≤ rb ∧ rb ≤ 9223372036854775807)
    (pa : -9223372036854775808 ≤ a ∧ a ≤ 9223372036854775807) (pb : -9223372036854775808 ≤ b ∧ b ≤ 9223372036854775807) (pc : -9223372036854775808 ≤ c ∧ c ≤ 9223372036854775807)
    (hv3 : TkLies w v3 T) (hin3 : ∀ x ∈ T, -9223372036854775808 ≤ x ∧ x ≤ 9223372036854775807) (hm3 : T.length ≤ maxLen) :
    Calls Tryz.prog 4 #[v0, .agg #[.int .i64 ra, .int .i64 rb], .agg #[.int .i64 a, .int .i64 b, .int .i64 c], v3] w fun e w' => e = .returned (.bool true) ∧ Below w.heap.size w w' :=
  expireHeld_over tierM expireD hv hin hm ha hb pa pb pc hv3 hin3 hm3
end Go.Proofs.YthbdchleppbidaaGreat
