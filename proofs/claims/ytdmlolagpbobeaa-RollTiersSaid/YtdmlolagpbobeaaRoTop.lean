/- Package roll: Points and Aggs. -/
import Derived.Test.YtdmlolagpbobeaaRoGrpP
import Derived.Test.YtdmlolagpbobeaaRoGrpA
namespace Go.Proofs.Ytdmlolagpbobeaa
open Go.RowKit

set_option maxHeartbeats 4000000 in
theorem ropoints_any {w : World} {t : Int} (ht0 : -9223372036854775808 ≤ t) (ht1 : t ≤ 9223372036854775807) {v : Value} {l : List Pt} (hv : PLies w v l) (hfi : Fits v) (hf : ∀ p ∈ l, p.fits) (hl : l.length ≤ 1000000) :
    Calls Try.prog 15 #[.int .i64 t, v] w fun e w' => ∃ v', e = .returned v' ∧ AgRow w.heap.size w' v' (pointsR t l) ∧ Below w.heap.size w w' := by
  have H := Lib.hid (rogrpP_any ht0 ht1 hv hfi hf hl)
  obtain ⟨R, hR⟩ : ∃ R, R = pointsR t l := ⟨_, rfl⟩
  rw [← hR] at H ⊢
  clear hR hv hfi hf
  go_enter Try.func15, Try.ntmps15
  go_wp2_with fail
  refine (H.out).mono ?_
  rintro e W2 ⟨v', rfl, hr, hb⟩
  have HR := Lib.hid hr
  have HB := Lib.hid hb
  clear hr hb
  go_wp2
  go_ret
  exact ⟨_, rfl, HR.out, HB.out⟩
set_option maxHeartbeats 4000000 in
theorem roaggs_any {w : World} {t : Int} (ht0 : -9223372036854775808 ≤ t) (ht1 : t ≤ 9223372036854775807) {v : Value} {l : List Ag} (hv : ALies w v l) (hfi : Fits v) (hf : ∀ p ∈ l, p.fits) (hl : l.length ≤ 1000000) :
    Calls Try.prog 18 #[.int .i64 t, v] w fun e w' => ∃ v', e = .returned v' ∧ AgRow w.heap.size w' v' (aggsR t l) ∧ Below w.heap.size w w' := by
  have H := Lib.hid (rogrpA_any ht0 ht1 hv hfi hf hl)
  obtain ⟨R, hR⟩ : ∃ R, R = aggsR t l := ⟨_, rfl⟩
  rw [← hR] at H ⊢
  clear hR hv hfi hf
  go_enter Try.func18, Try.ntmps18
  go_wp2_with fail
  refine (H.out).mono ?_
  rintro e W2 ⟨v', rfl, hr, hb⟩
  have HR := Lib.hid hr
  have HB := Lib.hid hb
  clear hr hb
  go_wp2
  go_ret
  exact ⟨_, rfl, HR.out, HB.out⟩
end Go.Proofs.Ytdmlolagpbobeaa
