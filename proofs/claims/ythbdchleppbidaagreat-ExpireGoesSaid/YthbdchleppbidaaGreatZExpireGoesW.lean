/- ExpireGoes, of the landed package. -/
import Derived.Test.YthbdchleppbidaaGreatZExpireGoesA
import Derived.Test.YthbdchleppbidaaGreatZExSet
namespace Go.Proofs.YthbdchleppbidaaGreat
open Go.RowKit

theorem expireGoes_walk {w : World} {v0 v1 : Value} {L : List TActL} {HH : List Hld} {a b c now : Int} (hv : TActsAt w v0 L) (hin : ∀ x ∈ L, x.In) (hm : L.length ≤ maxLen)
    (hv1 : HLies w v1 HH) (hin1 : ∀ x ∈ HH, x.In) (hm1 : HH.length ≤ maxLen)
    (pa : -9223372036854775808 ≤ a ∧ a ≤ 9223372036854775807) (pb : -9223372036854775808 ≤ b ∧ b ≤ 9223372036854775807) (pc : -9223372036854775808 ≤ c ∧ c ≤ 9223372036854775807)
    (n0 : -9223372036854775808 ≤ now) (n1 : now ≤ 9223372036854775807) (sr : ByteArray) (hsr : sr.size ≤ maxLen) :
    Calls Tryz.prog 3 #[v0, v1, .agg #[.int .i64 a, .int .i64 b, .int .i64 c], .int .i64 now, .string sr] w fun e w' => e = .returned (.bool true) ∧ Below w.heap.size w w' :=
  expireGoes_over tierM expireD hv hin hm hv1 hin1 hm1 pa pb pc n0 n1 hsr
end Go.Proofs.YthbdchleppbidaaGreat
