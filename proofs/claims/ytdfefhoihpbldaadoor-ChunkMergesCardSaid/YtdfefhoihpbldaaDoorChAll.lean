/- Two chunks merged, and all that the package does. -/
import Derived.Test.YtdfefhoihpbldaaDoorChJoin
namespace Go.Proofs.YtdfefhoihpbldaaDoor
open Go.RowKit

/-- what merging tells, of two chunks that are unpacked so -/
def MergeTells (w : World) (z1 z2 : Int) (la lb : List Pt) (e : Ending) (w' : World) : Prop := ∃ vm z ms, e = .returned (.tuple #[vm, .int .i64 z]) ∧ w'.ownsRow w.heap.size 5 1 vm ms.length (u8s ms) ∧ Below w.heap.size w w' ∧
      ((z1 ≠ 0 ∧ z = z1 ∧ ms = []) ∨ (z1 = 0 ∧ z2 ≠ 0 ∧ z = z2 ∧ ms = []) ∨ (z1 = 0 ∧ z2 = 0 ∧ z = 0 ∧ ∃ l, Merged la lb l ∧ ms = packB (chunkBits l)))
set_option maxHeartbeats 4000000 in
theorem cmerge_any {w : World} {v v' : Value} {bs cs : List Nat} (hv : Lies w v bs) (hv' : Lies w v' cs) (hb : ∀ x ∈ bs, x < 256) (hc : ∀ x ∈ cs, x < 256) (hlen : (unpackS bs).2.length + (unpackS cs).2.length ≤ 1000) (hbl : bs.length ≤ 1000000) (hcl : cs.length ≤ 1000000) (hl : StepsLaid w) :
    Calls Tryd.prog 15 #[v, v'] w (MergeTells w (unpackS bs).1 (unpackS cs).1 (unpackS bs).2 (unpackS cs).2) := by
  have HV := Lib.hid hv
  have HV' := Lib.hid hv'
  have HB := Lib.hid hb
  have HC := Lib.hid hc
  have HL := Lib.hid hl
  have hs0 := hl.lt
  obtain ⟨z1, hz1⟩ : ∃ z, (unpackS bs).1 = z := ⟨_, rfl⟩
  obtain ⟨z2, hz2⟩ : ∃ z, (unpackS cs).1 = z := ⟨_, rfl⟩
  obtain ⟨la, hla⟩ : ∃ l, (unpackS bs).2 = l := ⟨_, rfl⟩
  obtain ⟨lb, hlb⟩ : ∃ l, (unpackS cs).2 = l := ⟨_, rfl⟩
  have HU1 : Hid (unpackS bs = (z1, la)) := Lib.hid (by rw [← hz1, ← hla])
  have HU2 : Hid (unpackS cs = (z2, lb)) := Lib.hid (by rw [← hz2, ← hlb])
  rw [hla, hlb] at hlen
  rw [hz1, hz2, hla, hlb]
  clear hv hv' hb hc hl hz1 hz2 hla hlb
  go_enter Tryd.func15, Tryd.ntmps15
  go_wp2_with fail
  refine (cunpack_any HV.out HB.out hbl HL.out).mono ?_
  rw [HU1.out]
  rintro e W1 ⟨v1, rfl, hown1, hb1⟩
  simp only at hown1 ⊢
  have HB1 := Lib.hid hb1
  have HO1 := Lib.hid hown1
  have hzz1 := hb1.size
  have HL1 := Lib.hid (HL.out.keep hb1 hs0)
  have HV1 := Lib.hid (HV'.out.beyond hb1)
  clear hown1 hb1
  by_cases h0 : z1 = 0
  rotate_left
  · have t1 : (z1 != 0) = true := by simpa using h0
    go_wp2
    go_ret2
    exact ⟨.slice none 0 0, z1, [], rfl, World.ownsRow_nil _ _ _ _, HB1.out, .inl ⟨h0, rfl, rfl⟩⟩
  subst h0
  go_wp2_with fail
  refine (cunpack_any HV1.out HC.out hcl HL1.out).mono ?_
  rw [HU2.out]
  rintro e W2 ⟨v2, rfl, hown2, hb2⟩
  simp only at hown2 ⊢
  have hzz2 := hb2.size
  have HB2 : Hid (Below w.heap.size w W2) := Lib.hid (HB1.out.trans (hb2.mono hzz1))
  have HO2 := Lib.hid hown2
  have HO1' := Lib.hid (ownsRow_beyond HO1.out hb2)
  have HL2 := Lib.hid (HL.out.keep HB2.out hs0)
  clear hown2 hb2
  by_cases h0 : z2 = 0
  rotate_left
  · have t1 : (z2 != 0) = true := by simpa using h0
    go_wp2
    go_ret2
    exact ⟨.slice none 0 0, z2, [], rfl, World.ownsRow_nil _ _ _ _, HB2.out, .inr (.inl ⟨rfl, h0, rfl, rfl⟩)⟩
  subst h0
  obtain ⟨hr1, hf1, _, _⟩ := unpack_sound HB.out HU1.out
  obtain ⟨hr2, hf2, _, _⟩ := unpack_sound HC.out HU2.out
  have hmg := mergeL_merged hr1 hr2
  have hml := mergeL_le la lb
  have HMF : Hid (∀ t ∈ mergeL la lb, t.fits) := Lib.hid fun t ht => by
    rcases (hmg.2 t).1 ht with h | h
    · exact hf2 t h
    · exact hf1 t h.1
  have HMG := Lib.hid hmg
  have hright := (rises_iff _).2 hmg.1
  have HRI := Lib.hid hright
  have HSA := Lib.hid (srt_of hr1)
  clear hr1 hr2 hf1 hf2 hmg hright
  go_wp2_with fail
  refine (cjoin_any (plies_row HO1'.out) (want_row HO2.out) HSA.out (by omega)).mono ?_
  rintro e W3 ⟨v3, rfl, hown3, hb3⟩
  have HO3 := Lib.hid hown3
  have hzz3 := hb3.size
  have HB3 : Hid (Below w.heap.size w W3) := Lib.hid (HB2.out.trans (hb3.mono (by omega)))
  have HL3 := Lib.hid (HL.out.keep HB3.out hs0)
  clear hown3 hb3
  go_wp2_with fail
  refine (cpack_any (plies_row HO3.out) HMF.out (by omega) HL3.out).mono ?_
  rw [HRI.out]
  rintro e W4 ⟨v4, rfl, hown4, hb4⟩
  have HO4 := Lib.hid hown4
  have HB4 : Hid (Below w.heap.size w W4) := Lib.hid (HB3.out.trans (hb4.mono (by omega)))
  have HPS : Hid (packedS (mergeL la lb) = packB (chunkBits (mergeL la lb))) := Lib.hid (by rw [packedS, if_pos HRI.out])
  clear hown4 hb4
  go_wp2
  go_ret2
  exact ⟨v4, 0, packB (chunkBits (mergeL la lb)), rfl, by rw [← HPS.out]; exact row_base HO4.out (by omega), HB4.out, .inr (.inr ⟨rfl, rfl, rfl, mergeL la lb, HMG.out, rfl⟩)⟩

theorem chunkDoes : ChunkDoes where
  pack hv hf hn hl := cpack_any hv hf hn hl
  size hv hf hn hl := csize_any hv hf hn hl
  unpack hv hb hbig hl := cunpack_any hv hb hbig hl
  count hv hb hbig := ccount_any hv hb hbig
  merge hv hv' hb hc hlen h1 h2 hl := cmerge_any hv hv' hb hc hlen h1 h2 hl
end Go.Proofs.YtdfefhoihpbldaaDoor
