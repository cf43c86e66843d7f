/- ChunkPacks, walked. -/
import Derived.Test.YtdfefhoihpbldaaDoorChunkUnpacksA
namespace Go.Proofs.YtdfefhoihpbldaaDoor
open Go.RowKit

theorem plies_slice {w : World} {v : Value} {l : List Pt} (h : PLies w v l) : ∃ a c, v = .slice a l.length c := by
  obtain ⟨a, b, off, c, h, _⟩ := h
  exact ⟨a, c, h⟩
theorem count_pack {l : List Pt} (hn : l.length ≤ 65535) : countS (packB (chunkBits l)) = (((l.length : Nat) : Int), (0 : Int)) := by
  have h1 : 16 ≤ (chunkBits l).length := by rw [chunkBits, List.length_append, numBits_length]; omega
  have h2 : valOf (packB (chunkBits l)) 0 16 = l.length := read_num (a := []) (c := ptBits l l.length) (x := l.length) (n := 16) (wid_le 16 (by omega))
  unfold countS
  rw [if_pos (by rw [packB_length]; omega), h2]

set_option maxHeartbeats 4000000 in
theorem chunkPacks_some (D : ChunkDoes) {w : World} {v : Value} {l : List Pt} (hv : PLies w v l) (hf : ∀ t ∈ l, t.fits) (hn : l.length ≤ 60) (hl : StepsLaid w) :
    Calls Tryd.prog 3 #[v] w fun e w' => e = .returned (.bool true) ∧ Below w.heap.size w w' := by
  obtain ⟨a, c, rfl⟩ := plies_slice hv
  have HL := Lib.hid hl
  have HD := Lib.hid D
  have HV := Lib.hid hv
  have HF := Lib.hid hf
  have hs0 := hl.lt
  have t0 : decide ((60 : Int) < l.length) = false := by simp; omega
  clear hl D hv hf
  go_enter Tryd.func3, Tryd.ntmps3
  go_wp2_with fail
  refine (lives04 HD.out _ HL.out).mono ?_
  rintro e W1 ⟨rfl, hb1⟩
  have HB1 := Lib.hid hb1
  have HL1 := Lib.hid (HL.out.keep hb1 hs0)
  have HV1 := Lib.hid (HV.out.beyond hb1)
  clear hb1
  go_wp2_with fail
  refine (HD.out.pack HV1.out HF.out (by omega) HL1.out).mono ?_
  rintro e W2 ⟨v2, rfl, hown, hb2⟩
  have HB2 := Lib.hid (HB1.out.trans (hb2.mono HB1.out.size))
  have HL2 := Lib.hid (HL1.out.below hb2)
  have HV2 := Lib.hid (HV1.out.beyond hb2)
  have HI2 := Lib.hid (ownsRow_lies hown)
  obtain ⟨a2, c2, rfl⟩ := own_slice hown
  clear hb2 hown
  go_wp2_with fail
  refine (right4_any HV2.out HF.out (by omega)).mono ?_
  rintro e W3 ⟨rfl, hb3⟩
  have HB3 := Lib.hid (HB2.out.trans (hb3.mono HB2.out.size))
  have HL3 := Lib.hid (HL2.out.below hb3)
  have HV3 := Lib.hid (HV2.out.beyond hb3)
  have HI3 := Lib.hid (HI2.out.beyond hb3)
  have hz3 := HB3.out.size
  clear hb3
  obtain ⟨z, hz⟩ : ∃ z, rightZ l = z := ⟨_, rfl⟩
  rw [hz]
  have HZ := Lib.hid hz
  clear hz
  by_cases h0 : z = 0
  · subst h0
    have hr := (rises_iff l).1 HZ.out
    have HR := Lib.hid hr
    have hps : packedS l = packB (chunkBits l) := by rw [packedS, if_pos HZ.out]
    have HPS := Lib.hid hps
    rw [hps] at HI3
    have hcl := ptBits_le hr l.length (Nat.le_refl _)
    have hplen : (packB (chunkBits l)).length ≤ 1000000 := by rw [packB_length, chunkBits, List.length_append, numBits_length]; omega
    have hq : ∀ W, Below W3.heap.size W3 W → ∀ dst, Tryd.prog.underlying dst = some .string → (convert 24 dst (.slice a2 (packB (chunkBits l)).length c2)).run Tryd.prog W = .ok (.string (strOf (packB (chunkBits l)))) W := fun W h => text_of (HI3.out.beyond h)
    obtain ⟨st, hst⟩ : ∃ st, strOf (packB (chunkBits l)) = st := ⟨_, rfl⟩
    rw [hst] at hq
    have HST := Lib.hid hst
    have HUP := Lib.hid (unpack_pack hr HF.out (by omega))
    have HCP := Lib.hid (count_pack (l := l) (by omega))
    have hsm := packB_small (chunkBits l)
    have HSM := Lib.hid hsm
    rw [hps]
    clear hst hr hps hcl hsm
    go_wp2_with fail
    refine wp_region_held_drew (S := fun w => Below W3.heap.size W3 w) (by kernel_rfl) ((Below.refl _ _).drew) (fun _ => ?_)
    refine anyH_take (i := 0) (some 40) (v := _) rfl rfl (by kernel_rfl) (by kernel_rfl) (by kernel_rfl) (fun _ _ _ h => h) (by rfl) ((Below.refl _ _).drew) (by intro w hSw; go_simp; try with_reducible rfl) ?_
    (try simp only [Act.put, List.setIfInBounds_toArray, List.set_cons_zero, List.set_cons_succ])
    refine anyH_take (i := 1) (some 41) (v := _) rfl rfl (by kernel_rfl) (by kernel_rfl) (by kernel_rfl) (fun _ _ _ h => h) (by rfl) ((Below.refl _ _).drew) (by intro w hSw; go_simp; try with_reducible rfl) ?_
    (try simp only [Act.put, List.setIfInBounds_toArray, List.set_cons_zero, List.set_cons_succ])
    refine anyH_take (i := 2) (some 42) (v := _) rfl rfl (by kernel_rfl) (by kernel_rfl) (by kernel_rfl) (fun _ _ _ h => h) (by rfl) ((Below.refl _ _).drew) (by intro w hSw; go_simp; try with_reducible rfl) ?_
    (try simp only [Act.put, List.setIfInBounds_toArray, List.set_cons_zero, List.set_cons_succ])
    refine anyH_take (i := 3) (some 43) (v := _) rfl rfl (by kernel_rfl) (by kernel_rfl) (by kernel_rfl) (fun _ _ _ h => h) (by rfl) ((Below.refl _ _).drew) (by intro w hSw; go_simp; try with_reducible rfl) ?_
    (try simp only [Act.put, List.setIfInBounds_toArray, List.set_cons_zero, List.set_cons_succ])
    refine anyH_take (i := 5) (some 45) (v := _) rfl rfl (by kernel_rfl) (by kernel_rfl) (by kernel_rfl) (fun _ _ _ h => h) (by rfl) ((Below.refl _ _).drew) (by intro w hSw; go_simp; try with_reducible rfl) ?_
    (try simp only [Act.put, List.setIfInBounds_toArray, List.set_cons_zero, List.set_cons_succ])
    refine anyH_take (i := 4) (some 44) (v := _) rfl rfl (by kernel_rfl) (by kernel_rfl) (by kernel_rfl) (fun _ _ _ h => h) (by rfl) ((Below.refl _ _).drew) (by intro w hSw; go_simp; try with_reducible rfl) ?_
    (try simp only [Act.put, List.setIfInBounds_toArray, List.set_cons_zero, List.set_cons_succ])
    refine wpAnyH_ready (rs := [6]) (by kernel_rfl) (by simp) (AllReadyH.cons rfl (fun K hK => ?_) AllReadyH.nil)
    go_simp
    (refine (bytes4_any (HV3.out.beyond ((Below.refl _ _).drew)) HF.out HR.out (by omega)).mono ?_; rw [HST.out]; rintro e W4 ⟨rfl, h4a⟩; have h4 : Below W3.heap.size W3 W4 := ((Below.refl _ _).drew).trans h4a; clear h4a)
    go_wp2_with fail
    refine hK.out _ _ (h4) (fun _ => ?_)
    clear hK K
    (try simp only [Act.put, List.setIfInBounds_toArray, List.set_cons_zero, List.set_cons_succ])
    refine anyH_take (i := 7) (some 47) (v := _) rfl rfl (by kernel_rfl) (by kernel_rfl) (by kernel_rfl) (fun _ _ _ h => h) (by rfl) (h4) (by intro w hSw; go_simp; try with_reducible rfl) ?_
    (try simp only [Act.put, List.setIfInBounds_toArray, List.set_cons_zero, List.set_cons_succ])
    refine anyH_take (i := 8) (some 48) (v := _) rfl rfl (by kernel_rfl) (by kernel_rfl) (by kernel_rfl) (fun _ _ _ h => h) (by rfl) (h4) (by intro w hSw; go_simp; try with_reducible rfl) ?_
    (try simp only [Act.put, List.setIfInBounds_toArray, List.set_cons_zero, List.set_cons_succ])
    refine anyH_take (i := 9) (some 49) (v := _) rfl rfl (by kernel_rfl) (by kernel_rfl) (by kernel_rfl) (fun _ _ _ h => h) (by rfl) (h4) (by intro w hSw; go_simp; try with_reducible rfl) ?_
    (try simp only [Act.put, List.setIfInBounds_toArray, List.set_cons_zero, List.set_cons_succ])
    refine anyH_take (i := 10) (some 50) (v := _) rfl rfl (by kernel_rfl) (by kernel_rfl) (by kernel_rfl) (fun _ _ _ h => h) (by rfl) (h4) (by intro w hSw; go_simp; try with_reducible rfl) ?_
    (try simp only [Act.put, List.setIfInBounds_toArray, List.set_cons_zero, List.set_cons_succ])
    refine anyH_take (i := 12) (some 52) (v := _) rfl rfl (by kernel_rfl) (by kernel_rfl) (by kernel_rfl) (fun _ _ _ h => h) (by rfl) (h4) (by intro w hSw; go_simp; try with_reducible rfl) ?_
    (try simp only [Act.put, List.setIfInBounds_toArray, List.set_cons_zero, List.set_cons_succ])
    refine anyH_take (i := 13) (some 53) (v := _) rfl rfl (by kernel_rfl) (by kernel_rfl) (by kernel_rfl) (fun _ _ _ h => h) (by rfl) (h4) (by intro w hSw; go_simp; try with_reducible rfl) ?_
    (try simp only [Act.put, List.setIfInBounds_toArray, List.set_cons_zero, List.set_cons_succ])
    refine wpAnyH_ready (rs := [11]) (by kernel_rfl) (by simp) (AllReadyH.cons rfl (fun K hK => ?_) AllReadyH.nil)
    go_simp
    (refine (HD.out.size (HV3.out.beyond h4) HF.out (by omega) (HL3.out.below h4)).mono ?_; rw [HPS.out]; rintro e W5 ⟨rfl, h5a⟩; have h5 : Below W3.heap.size W3 W5 := h4.trans (h5a.mono h4.size); clear h5a)
    go_wp2_with fail
    refine hK.out _ _ (h5) (fun _ => ?_)
    clear hK K
    (try simp only [Act.put, List.setIfInBounds_toArray, List.set_cons_zero, List.set_cons_succ])
    refine anyH_take (i := 14) (some 54) (v := _) rfl rfl (by kernel_rfl) (by kernel_rfl) (by kernel_rfl) (fun _ _ _ h => h) (by rfl) (h5) (by intro w hSw; go_simp; try with_reducible rfl) ?_
    (try simp only [Act.put, List.setIfInBounds_toArray, List.set_cons_zero, List.set_cons_succ])
    refine anyH_take (i := 15) (some 55) (v := _) rfl rfl (by kernel_rfl) (by kernel_rfl) (by kernel_rfl) (fun _ _ _ h => h) (by rfl) (h5) (by intro w hSw; go_simp; try with_reducible rfl) ?_
    (try simp only [Act.put, List.setIfInBounds_toArray, List.set_cons_zero, List.set_cons_succ])
    refine wpAnyH_done (by kernel_rfl) ?_ _
    clear hq
    have HB5 := Lib.hid (HB3.out.trans (h5.mono HB3.out.size))
    have HL5 := Lib.hid (HL3.out.below h5)
    have HV5 := Lib.hid (HV3.out.beyond h5)
    have HI5 := Lib.hid (HI3.out.beyond h5)
    clear h4 h5
    go_wp2_with fail
    refine (HD.out.unpack HI5.out HSM.out hplen HL5.out).mono ?_
    rw [HUP.out]
    rintro e W6 ⟨v6, rfl, hown6, hb6⟩
    have HPL6 := Lib.hid (plies_row hown6)
    obtain ⟨a6, c6, rfl⟩ := own_slice hown6
    have HB6 := Lib.hid (HB5.out.trans (hb6.mono HB5.out.size))
    have HV6 := Lib.hid (HV5.out.beyond hb6)
    have HI6 := Lib.hid (HI5.out.beyond hb6)
    clear hb6 hown6
    go_wp2_with fail
    refine (HD.out.count HI6.out HSM.out hplen).mono ?_
    rw [HCP.out]
    rintro e W7 ⟨rfl, hb7⟩
    have HB7 := Lib.hid (HB6.out.trans (hb7.mono HB6.out.size))
    have HV7 := Lib.hid (HV6.out.beyond hb7)
    have HPL7 := Lib.hid (HPL6.out.beyond hb7)
    clear hb7
    go_wp2_with fail
    refine (same4_any HPL7.out HV7.out (by omega) (by omega)).mono ?_
    rw [decide_eq_true rfl]
    rintro e W8 ⟨rfl, m, rfl⟩
    go_wp2
    go_ret
    exact ⟨rfl, HB7.out.trans ((only_drewN (fun _ => False) W7 m).below HB7.out.size (fun _ h => h.elim))⟩
  · have hps : packedS l = [] := by rw [packedS, if_neg (by rw [HZ.out]; exact h0)]
    have t1 : (z != 0) = true := by simpa using h0
    have HPS := Lib.hid hps
    rw [hps]
    clear hps h0
    go_wp2_with fail
    refine (HD.out.size HV3.out HF.out (by omega) HL3.out).mono ?_
    rw [HPS.out]
    rintro e W4 ⟨rfl, hb4⟩
    have HB4 := Lib.hid (HB3.out.trans (hb4.mono HB3.out.size))
    clear hb4
    go_wp2
    go_ret
    exact ⟨rfl, HB4.out⟩

set_option maxHeartbeats 1000000 in
theorem chunkPacks_walk (D : ChunkDoes) {w : World} {v : Value} {l : List Pt} (hv : PLies w v l) (hf : ∀ t ∈ l, t.fits) (hm : l.length ≤ maxLen) (hl : StepsLaid w) :
    Calls Tryd.prog 3 #[v] w fun e w' => e = .returned (.bool true) ∧ Below w.heap.size w w' := by
  by_cases hn : l.length ≤ 60
  · exact chunkPacks_some D hv hf hn hl
  · obtain ⟨a, c, rfl⟩ := plies_slice hv
    have hL := Lib.hid hl
    have HD := Lib.hid D
    have t0 : decide ((60 : Int) < l.length) = true := by simp; omega
    have hlen : l.length ≤ 9223372036854775807 := by unfold maxLen at hm; omega
    clear hl D hv hf hm
    go_enter Tryd.func3, Tryd.ntmps3
    go_wp2_with fail
    refine (lives04 HD.out _ hL.out).mono ?_
    rintro e W1 ⟨rfl, hb1⟩
    have HB1 := Lib.hid hb1
    have HL1 := Lib.hid (hL.out.keep hb1 hL.out.lt)
    clear hb1
    go_wp2_with fail
    refine (lives04 HD.out _ HL1.out).mono ?_
    rintro e W2 ⟨rfl, hb2⟩
    have HB2 := Lib.hid hb2
    clear hb2
    go_wp2
    go_ret
    exact ⟨rfl, HB1.out.trans (HB2.out.mono HB1.out.size)⟩
end Go.Proofs.YtdfefhoihpbldaaDoor
