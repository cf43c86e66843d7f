/- ChunkCuts, walked. -/
import Derived.Test.YtdfefhoihpbldaaDoorChunkPacksA
import Derived.Test.YtdfefhoihpbldaaDoorApp
namespace Go.Proofs.YtdfefhoihpbldaaDoor
open Go.RowKit

/-- []byte of a text: where it lies -/
theorem bytes_of_text2 (w : World) (s : ByteArray) : ∃ W b cap, (convert 9 24 (.string s)).run Tryd.prog w = .ok (.slice (some ⟨b, 0, none⟩) s.size cap) W ∧ s.size ≤ cap ∧ Below w.heap.size w W ∧ BytesAt W b 0 (ordsOf s) := by
  refine ⟨Lib.bytesWorld w 5 s, w.heap.size, _, Lib.run_convert_string_bytes w 9 24 5 s Tryd.underlying9 Tryd.underlying24 Tryd.underlying5, grownCap_ge _ _ _ _, ⟨rfl, rfl, rfl, by rw [Lib.bytesWorld_size]; omega, fun k hk => Lib.bytesWorld_at_old w _ s k hk⟩, fun j hj => ?_⟩
  rw [ordsOf_length] at hj
  rw [Nat.zero_add, Lib.bytesWorld_cell w _ s j hj]
  congr 3
  have h2 : j < s.data.toList.length := by rw [Array.length_toList]; exact hj
  unfold ordsOf
  simp [List.getD, List.getElem?_map, List.getElem?_eq_getElem h2]
theorem wpList_bytes {ops : Array Oper} {rest : List Oper} {o : Oper} {a : Act} {w V : World} {Q : Exit → Act → World → Prop} {s : ByteArray} {v : Value} (hgd : o.guard = none) (x : Operand) (ho : o.op = .convert 9 24 x)
    (hx : a.eval x = .string s) (hrun : (convert 9 24 (.string s)).run Tryd.prog w = .ok v V) (hk : wpList Tryd.prog ops Q rest (a.put o.dst v) V) : wpList Tryd.prog ops Q (o :: rest) a w :=
  wpList_plain hgd fun K hK => by
    unfold Oper.wp execOp
    simp only [ho, hx, Sem.run_bind, Sem.run_pure, Result.andThen_ok, hrun]
    exact hK _ _ hk
theorem lies_take {w : World} {b cap m : Nat} {bs : List Nat} (hm : m ≤ bs.length) (hc : BytesAt w b 0 bs) : Lies w (.slice (some ⟨b, 0, none⟩) m cap) (bs.take m) := by
  refine .inr (.inr ⟨b, 0, cap, by rw [List.length_take, Nat.min_eq_left hm], fun j hj => ?_⟩)
  have hj' : j < m ∧ j < bs.length := by rw [List.length_take] at hj; omega
  rw [hc j hj'.2]; simp [List.getD, hj'.1]
theorem one_lies (w : World) (x : Nat) : Lies (w.alloc (.cells #[.int .u8 (x : Int)] 5)) (.slice (some ⟨w.heap.size, 0, none⟩) 1 1) [x] := by
  refine .inr (.inr ⟨w.heap.size, 0, 1, rfl, fun j hj => ?_⟩)
  obtain rfl : j = 0 := by simpa using hj
  rw [cell_of_row _ w.heap.size (0 + 0) _ _ _ (heap_alloc_new w _)]
  rfl
theorem BytesAt.beyond {w w' : World} {b off : Nat} {bs : List Nat} (h : BytesAt w b off bs) (hb : Below w.heap.size w w') : BytesAt w' b off bs := fun j hj => by
  have h1 := h j hj
  rw [← h1]; exact hb.cell (p := ⟨b, off + j, none⟩) (cell_lt h1)

set_option maxHeartbeats 4000000 in
theorem chunkCuts_some (D : ChunkDoes) {w : World} {v : Value} {l : List Pt} {at_ : Int} (hv : PLies w v l) (hf : ∀ t ∈ l, t.fits) (hn : l.length ≤ 60) (h0 : 0 ≤ at_) (h1 : at_ ≤ 65535) (hl : StepsLaid w) :
    Calls Tryd.prog 5 #[v, .int .u16 at_] w fun e w' => e = .returned (.bool true) ∧ Below w.heap.size w w' := by
  obtain ⟨i0, hi, hz0, hz1, hz2⟩ := info_parts infoU8
  obtain ⟨a, c, rfl⟩ := plies_slice hv
  have HL := Lib.hid hl
  have HD := Lib.hid D
  have HV := Lib.hid hv
  have HF := Lib.hid hf
  have hs0 := hl.lt
  have t0 : decide ((60 : Int) < l.length) = false := by simp; omega
  clear hl D hv hf
  go_enter Tryd.func5, Tryd.ntmps5
  go_wp2_with fail
  refine (lives04 HD.out _ HL.out).mono ?_
  rintro e W1 ⟨rfl, hb1⟩
  have HB1 := Lib.hid hb1
  have HL1 := Lib.hid (HL.out.keep hb1 hs0)
  have HV1 := Lib.hid (HV.out.beyond hb1)
  clear hb1
  go_wp2_with fail
  refine (right4_any HV1.out HF.out (by omega)).mono ?_
  rintro e W2 ⟨rfl, hb2⟩
  have HB2 := Lib.hid (HB1.out.trans (hb2.mono HB1.out.size))
  have HL2 := Lib.hid (HL1.out.below hb2)
  have HV2 := Lib.hid (HV1.out.beyond hb2)
  clear hb2
  obtain ⟨z, hz⟩ : ∃ z, rightZ l = z := ⟨_, rfl⟩
  rw [hz]
  have HZ := Lib.hid hz
  clear hz
  by_cases hz : z = 0
  · subst hz
    have HR := Lib.hid ((rises_iff l).1 HZ.out)
    have hcl := ptBits_le HR.out l.length (Nat.le_refl _)
    obtain ⟨bs, hbs⟩ : ∃ bs, packB (chunkBits l) = bs := ⟨_, rfl⟩
    have hplen : bs.length ≤ 100000 := by rw [← hbs, packB_length, chunkBits, List.length_append, numBits_length]; omega
    have hpos : 2 ≤ bs.length := by rw [← hbs, packB_length, chunkBits, List.length_append, numBits_length]; omega
    have hsm := packB_small (chunkBits l)
    rw [hbs] at hsm
    have HSM := Lib.hid hsm
    have HBS := Lib.hid hbs
    have HCUT := Lib.hid (fun m => unpack_cut HR.out HF.out (by omega) (m := m))
    have HMORE := Lib.hid (fun x => unpack_more HR.out HF.out (by omega) x)
    rw [hbs] at HCUT HMORE
    clear hcl hsm hbs
    go_wp2_with fail
    refine (bytes4_any HV2.out HF.out HR.out (by omega)).mono ?_
    rw [HBS.out]
    rintro e W3 ⟨rfl, hb3⟩
    have HB3 := Lib.hid (HB2.out.trans (hb3.mono HB2.out.size))
    have HL3 := Lib.hid (HL2.out.below hb3)
    clear hb3
    obtain ⟨V, bb, cap, hrun, hcap, hvb, hba⟩ := bytes_of_text2 W3 (strOf bs)
    rw [ords_strOf HSM.out] at hba
    rw [strOf_size] at hrun hcap
    have HRUN := Lib.hid hrun
    have HB4 := Lib.hid (HB3.out.trans (hvb.mono HB3.out.size))
    have HL4 := Lib.hid (HL3.out.below hvb)
    have HBA := Lib.hid hba
    obtain ⟨m, hm⟩ : ∃ m : Nat, at_ % (bs.length : Int) = (m : Int) := ⟨(at_ % (bs.length : Int)).toNat, (Int.toNat_of_nonneg (Int.emod_nonneg at_ (show (bs.length : Int) ≠ 0 by omega))).symm⟩
    have hm1 : m < bs.length := by have := Int.emod_lt_of_pos at_ (show (0 : Int) < bs.length by omega); rw [hm] at this; omega
    have hm2 : m ≤ cap := by omega
    have hm3 : m ≠ 0 ∨ m = 0 := by omega
    have hlen0 : ((bs.length : Int) == 0) = false := by rw [beq_eq_false_iff_ne]; omega
    have hlen1 : (bs.length : Int) ≠ 0 := by omega
    clear hrun hvb hba
    go_wp2_with (refine wpList_bytes rfl (.tmp 24) rfl rfl HRUN.out ?_)
    refine (HD.out.unpack (lies_take (m := m) (by omega) HBA.out) (fun x hx => HSM.out x (List.mem_of_mem_take hx)) (by rw [List.length_take]; omega) HL4.out).mono ?_
    rw [HCUT.out m hm1]
    rintro e W5 ⟨v5, rfl, hown5, hb5⟩
    obtain ⟨a5, c5, rfl⟩ := own_slice hown5
    have HB5 := Lib.hid (HB4.out.trans (hb5.mono HB4.out.size))
    have HL5 := Lib.hid (HL4.out.below hb5)
    have HBA5 := Lib.hid (HBA.out.beyond hb5)
    obtain ⟨x, hx⟩ : ∃ x : Nat, (x : Int) = at_ % 256 := ⟨(at_ % 256).toNat, by omega⟩
    have hx1 : x < 256 := by omega
    have hxw : IntKind.u8.wrap at_ = (x : Int) := by rw [IntKind.wrap_u8]; omega
    have hxw2 : at_ % 256 = (x : Int) := hx.symm
    have HLB : Hid (Lies (W5.alloc (.cells #[] 5)) (.slice (some ⟨bb, 0, none⟩) bs.length cap) bs) := Lib.hid (.inr (.inr ⟨bb, 0, cap, rfl, HBA5.out.beyond ((Below.refl _ _).alloc (Nat.le_refl _) _)⟩))
    clear hown5 hb5 hx
    go_wp2_with (first | (at_builtin; refine wpList_append_bytes _ rfl (.tmp 38) (.tmp 39) 24 rfl W5.heap.size 5 i0 Tryd.underlying24 hi hz0 hz1 hz2 _ 0 [] rfl (World.ownsRow_made W5 #[] 0 (Nat.le_refl _) (Nat.zero_le _) rfl) _ bs rfl HLB.out (by omega) (by simp) ?_; intro v6 W6 hown6 hgrow6 _; have HO6 : Hid (W6.ownsRow W5.heap.size 5 1 v6 bs.length (u8s bs)) := Lib.hid (by simpa using hown6); have HB6 := Lib.hid (((Below.refl W5.heap.size W5).alloc (Nat.le_refl _) _).grown hgrow6 (by simp) (by intro k hk; have h1 : some W5.heap.size = some k := hk; have h2 := Option.some.inj h1; omega)); clear hown6 hgrow6) | (at_builtin; refine wpList_append_bytes _ rfl (.tmp 40) (.tmp 43) 24 rfl W5.heap.size 5 i0 Tryd.underlying24 hi hz0 hz1 hz2 v6 bs.length (u8s bs) rfl (HO6.out.alloc _) (.slice (some ⟨W6.heap.size, 0, none⟩) 1 1) [x] rfl (one_lies W6 x) (show bs.length + 1 ≤ 1000000000000 by omega) (Nat.le_trans HB6.out.size (by simp)) ?_; intro v7 W7 hown7 hgrow7 _; have HO7 := Lib.hid hown7; have HB7 := Lib.hid ((HB6.out.alloc HB6.out.size (.cells #[.int .u8 (x : Int)] 5)).grown hgrow7 (Nat.le_trans HB6.out.size (by simp)) (fun k hk => (HO6.out.lt k hk).1)); clear hown7 hgrow7))
    have hsm8 : ∀ y ∈ bs ++ [x], y < 256 := fun y hy => by
      rcases List.mem_append.1 hy with h | h
      · exact HSM.out y h
      · obtain rfl : y = x := by simpa using h
        exact hx1
    have hl7 : Lies W7 v7 (bs ++ [x]) := ownsRow_lies (by rw [u8s_append]; exact HO7.out)
    refine (HD.out.unpack hl7 hsm8 (by simp; omega) (HL5.out.below HB7.out)).mono ?_
    rw [HMORE.out x]
    rintro e W8 ⟨v8, rfl, hown8, hb8⟩
    obtain ⟨a8, c8, rfl⟩ := own_slice hown8
    have HB8 := Lib.hid (HB5.out.trans ((HB7.out.trans (hb8.mono HB7.out.size)).mono HB5.out.size))
    clear hown8 hb8 hl7 hsm8
    go_wp2
    go_ret
    exact ⟨rfl, HB8.out⟩
  · have t1 : (z != 0) = true := by simpa using hz
    clear hz
    go_wp2_with fail
    refine (lives04 HD.out _ HL2.out).mono ?_
    rintro e W3 ⟨rfl, hb3⟩
    have HB3 := Lib.hid (HB2.out.trans (hb3.mono HB2.out.size))
    clear hb3
    go_wp2
    go_ret
    exact ⟨rfl, HB3.out⟩

set_option maxHeartbeats 1000000 in
theorem chunkCuts_walk (D : ChunkDoes) {w : World} {v : Value} {l : List Pt} (hv : PLies w v l) (hf : ∀ t ∈ l, t.fits) (hm : l.length ≤ maxLen) {at_ : Int} (h0 : 0 ≤ at_) (h1 : at_ ≤ 65535) (hl : StepsLaid w) :
    Calls Tryd.prog 5 #[v, .int .u16 at_] w fun e w' => e = .returned (.bool true) ∧ Below w.heap.size w w' := by
  by_cases hn : l.length ≤ 60
  · exact chunkCuts_some D hv hf hn h0 h1 hl
  · obtain ⟨a, c, rfl⟩ := plies_slice hv
    have hL := Lib.hid hl
    have HD := Lib.hid D
    have t0 : decide ((60 : Int) < l.length) = true := by simp; omega
    have hlen : l.length ≤ 9223372036854775807 := by unfold maxLen at hm; omega
    clear hl D hv hf hm
    go_enter Tryd.func5, Tryd.ntmps5
    go_wp2_with fail
    refine (lives04 HD.out _ hL.out).mono ?_
    rintro e W1 ⟨rfl, hb1⟩
    have HB1 := Lib.hid hb1
    have HL1 := Lib.hid (hL.out.keep hb1 hL.out.lt)
    clear hb1
    go_wp2_with fail
    refine (lives04 HD.out _ HL1.out).mono ?_
    rintro e W2 ⟨rfl, hb2⟩
    have HB2 := Lib.hid hb2
    clear hb2
    go_wp2
    go_ret
    exact ⟨rfl, HB1.out.trans (HB2.out.mono HB1.out.size)⟩
end Go.Proofs.YtdfefhoihpbldaaDoor
