/- Size and Count. -/
import Derived.Test.YtdfefhoihpbldaaDoorChUnpack
namespace Go.Proofs.YtdfefhoihpbldaaDoor
open Go.RowKit

set_option maxHeartbeats 1000000 in
theorem csize_any {w : World} {v0 : Value} {l0 : List Pt} (hv : PLies w v0 l0) (hf : ∀ t ∈ l0, t.fits) (hn : l0.length ≤ 1000) (hl : StepsLaid w) :
    Calls Tryd.prog 10 #[v0] w fun e w' => e = .returned (.int .i64 ((packedS l0).length : Nat)) ∧ Below w.heap.size w w' := by
  obtain ⟨a, c, rfl⟩ := plies_slice hv
  have HV := Lib.hid hv
  have HL := Lib.hid hl
  have HF := Lib.hid hf
  clear hv hl hf
  go_enter Tryd.func10, Tryd.ntmps10
  go_wp2_with fail
  refine (cpack_any HV.out HF.out hn HL.out).mono ?_
  rintro e W1 ⟨v, rfl, hown, hb1⟩
  obtain ⟨a1, c1, rfl⟩ := own_slice hown
  have HB1 := Lib.hid hb1
  clear hown hb1
  go_wp2
  go_ret
  exact ⟨rfl, HB1.out⟩

set_option maxHeartbeats 1000000 in
theorem ccount_any {w : World} {v0 : Value} {bs : List Nat} (hv : Lies w v0 bs) (hb : ∀ x ∈ bs, x < 256) (hbig : bs.length ≤ 1000000) :
    Calls Tryd.prog 13 #[v0] w fun e w' => e = .returned (.tuple #[.int .i64 (countS bs).1, .int .i64 (countS bs).2]) ∧ Below w.heap.size w w' := by
  have HV := Lib.hid hv
  have HB := Lib.hid hb
  clear hv hb
  go_enter Tryd.func13, Tryd.ntmps13
  go_wp2_with fail
  refine (read_any HV.out (by omega)).mono ?_
  rintro e W1 ⟨R, rfl, hr1, hb1⟩
  have HR1 := Lib.hid hr1
  have HB1 := Lib.hid hb1
  have hz1 := hb1.size
  clear hr1 hb1
  go_wp2_with fail
  refine (get_at (n := 16) HR1.out HB.out hbig (by omega) (by omega)).mono ?_
  rintro e W2 ⟨⟨n, hn, rfl, hr2, hp2, hx2⟩ | ⟨he, rfl⟩, ho2⟩
  · have hc : countS bs = ((n : Int), 0) := by
      obtain ⟨h1, h2⟩ := getAt_ok hn
      unfold countS; rw [if_pos (by omega), ← h2]
    have hn16 : n < 65536 := by
      have h1 := (getAt_ok hn).2
      have h2 := valOf_lt bs 0 16
      omega
    have hz : IntKind.i64.wrap (n : Int) = n := by rw [IntKind.wrap_i64]; omega
    have HB2 := Lib.hid (HB1.out.trans (ho2.below (B := w.heap.size) hz1 (fun k hk => by have := HR1.out.1; omega)))
    have HC := Lib.hid hc
    clear hn hr2 ho2 hc
    go_wp2
    go_ret2
    exact ⟨by rw [HC.out]; rfl, HB2.out⟩
  · have hc : countS bs = (0, 4) := by
      obtain ⟨_, h2⟩ := getAt_err he
      unfold countS; rw [if_neg (by omega)]
    have HB2 := Lib.hid (HB1.out.trans (ho2.below (B := w.heap.size) hz1 (fun k hk => by have := HR1.out.1; omega)))
    have HC := Lib.hid hc
    clear he ho2 hc
    go_wp2
    go_ret2
    exact ⟨by rw [HC.out]; rfl, HB2.out⟩
end Go.Proofs.YtdfefhoihpbldaaDoor
