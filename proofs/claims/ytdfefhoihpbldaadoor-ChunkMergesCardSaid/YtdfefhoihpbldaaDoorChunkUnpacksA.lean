/- ChunkUnpacks, walked. -/
import Derived.Test.YtdfefhoihpbldaaDoorChDoes
import Derived.Deep.RegionHeld3
namespace Go.Proofs.YtdfefhoihpbldaaDoor
open Go.RowKit

theorem lies_slice {w : World} {v : Value} {bs : List Nat} (h : Lies w v bs) : ∃ a c, v = .slice a bs.length c := by
  rcases h with ⟨rfl, rfl⟩ | ⟨a, c, rfl, rfl⟩ | ⟨b, off, c, rfl, _⟩ <;> exact ⟨_, _, rfl⟩
theorem Lies.beyond {w w' : World} {v : Value} {bs : List Nat} (h : Lies w v bs) (hb : Below w.heap.size w w') : Lies w' v bs := by
  rcases h with h | h | ⟨b, off, c, h, hc⟩
  · exact .inl h
  · exact .inr (.inl h)
  · refine .inr (.inr ⟨b, off, c, h, fun j hj => ?_⟩)
    have h1 := hc j hj
    rw [← h1]; exact hb.cell (p := ⟨b, off + j, none⟩) (cell_lt h1)
theorem ptBits_ge (l : List Pt) (k : Nat) : 14 * k ≤ (ptBits l k).length := by
  induction k with
  | zero => omega
  | succ k ih =>
    have h : 14 ≤ (bitsAt l k).length := by
      unfold bitsAt
      split
      · simp [headBits, numBits_length]
      · rw [nextBits, List.length_append, ownBits_length, ownBits_length]; omega
    rw [ptBits_succ, List.length_append]; omega

set_option maxHeartbeats 4000000 in
theorem chunkUnpacks_some (D : ChunkDoes) {w : World} {v : Value} {bs : List Nat} (hv : Lies w v bs) (hb : ∀ x ∈ bs, x < 256) (hn : bs.length ≤ 300) (hl : StepsLaid w) :
    Calls Tryd.prog 4 #[v] w fun e w' => e = .returned (.bool true) ∧ Below w.heap.size w w' := by
  obtain ⟨a, c, rfl⟩ := lies_slice hv
  have HL := Lib.hid hl
  have HD := Lib.hid D
  have HV := Lib.hid hv
  have HB := Lib.hid hb
  have hs0 := hl.lt
  have t0 : decide ((300 : Int) < bs.length) = false := by simp; omega
  clear hl D hv hb
  go_enter Tryd.func4, Tryd.ntmps4
  go_wp2_with fail
  refine (lives04 HD.out _ HL.out).mono ?_
  rintro e W1 ⟨rfl, hb1⟩
  have HB1 := Lib.hid hb1
  have HL1 := Lib.hid (HL.out.keep hb1 hs0)
  have HV1 := Lib.hid (HV.out.beyond hb1)
  clear hb1
  go_wp2_with fail
  refine (HD.out.unpack HV1.out HB.out (by omega) HL1.out).mono ?_
  rintro e W2 ⟨v2, rfl, hown, hb2⟩
  have HB2 := Lib.hid hb2
  have HV2 := Lib.hid (HV1.out.beyond hb2)
  have HE := Lib.hid (unpack_err (bs := bs))
  have HS := Lib.hid (fun (l : List Pt) (h : unpackS bs = (0, l)) => unpack_sound HB.out h)
  clear hb2
  obtain ⟨z, l, hzl⟩ : ∃ z l, unpackS bs = (z, l) := ⟨_, _, rfl⟩
  rw [hzl] at hown HE ⊢
  have HZL := Lib.hid hzl
  have he := HE.out
  simp only at hown he
  clear hzl HE
  obtain ⟨a2, c2, rfl⟩ := own_slice hown
  by_cases hz : z = 0
  · subst hz
    obtain ⟨hr, hf, hpk, hcl⟩ := HS.out l HZL.out
    have hge := ptBits_ge l l.length
    have hl1 : l.length ≤ 1000 := by rw [chunkBits, List.length_append, numBits_length] at hcl; omega
    have HPL := Lib.hid (plies_row hown)
    have HR := Lib.hid hr
    have HF := Lib.hid hf
    have hrz : rightZ l = 0 := (rises_iff l).2 hr
    have hq : ∀ W, Below W2.heap.size W2 W → ∀ dst, Tryd.prog.underlying dst = some .string → (convert 24 dst (.slice a bs.length c)).run Tryd.prog W = .ok (.string (strOf bs)) W := fun W h => text_of (HV2.out.beyond h)
    have hst : strOf (packB (chunkBits l)) = strOf bs := by rw [hpk]
    generalize strOf bs = st at *
    have HST := Lib.hid hst
    clear hst hown he hr hf hpk hcl hge HS HZL
    go_wp2_with fail
    refine wp_region_held_drew (S := fun w => Below W2.heap.size W2 w) (by kernel_rfl) ((Below.refl _ _).drew) (fun _ => ?_)
    refine anyH_take (i := 0) (some 35) (v := _) rfl rfl (by kernel_rfl) (by kernel_rfl) (by kernel_rfl) (fun _ _ _ h => h) (by rfl) ((Below.refl _ _).drew) (by intro w hSw; go_simp; try with_reducible rfl) ?_
    (try simp only [Act.put, List.setIfInBounds_toArray, List.set_cons_zero, List.set_cons_succ])
    refine wpAnyH_ready (rs := [1]) (by kernel_rfl) (by simp) (AllReadyH.cons rfl (fun K hK => ?_) AllReadyH.nil)
    go_simp
    (refine (right4_any (HPL.out.beyond ((Below.refl _ _).drew)) HF.out (by omega)).mono ?_; rintro e W3 ⟨rfl, h3a⟩; have h3 : Below W2.heap.size W2 W3 := ((Below.refl _ _).drew).trans h3a; clear h3a)
    go_wp2_with fail
    refine hK.out _ _ (h3) (fun _ => ?_)
    clear hK K
    (try simp only [Act.put, List.setIfInBounds_toArray, List.set_cons_zero, List.set_cons_succ])
    refine anyH_take (i := 2) (some 37) (v := _) rfl rfl (by kernel_rfl) (by kernel_rfl) (by kernel_rfl) (fun _ _ _ h => h) (by rfl) (h3) (by intro w hSw; go_simp; try with_reducible rfl) ?_
    (try simp only [Act.put, List.setIfInBounds_toArray, List.set_cons_zero, List.set_cons_succ])
    refine anyH_take (i := 3) (some 38) (v := _) rfl rfl (by kernel_rfl) (by kernel_rfl) (by kernel_rfl) (fun _ _ _ h => h) (by rfl) (h3) (by intro w hSw; go_simp; try with_reducible rfl) ?_
    (try simp only [Act.put, List.setIfInBounds_toArray, List.set_cons_zero, List.set_cons_succ])
    refine anyH_take (i := 4) (some 39) (v := _) rfl rfl (by kernel_rfl) (by kernel_rfl) (by kernel_rfl) (fun _ _ _ h => h) (by rfl) (h3) (by intro w hSw; go_simp; try with_reducible rfl) ?_
    (try simp only [Act.put, List.setIfInBounds_toArray, List.set_cons_zero, List.set_cons_succ])
    refine anyH_take (i := 6) (some 41) (v := _) rfl rfl (by kernel_rfl) (by kernel_rfl) (by kernel_rfl) (fun _ _ _ h => h) (by rfl) (h3) (by intro w hSw; go_simp; try with_reducible rfl) ?_
    (try simp only [Act.put, List.setIfInBounds_toArray, List.set_cons_zero, List.set_cons_succ])
    refine anyH_take (i := 7) (some 42) (v := _) rfl rfl (by kernel_rfl) (by kernel_rfl) (by kernel_rfl) (fun _ _ _ h => h) (by rfl) (h3) (by intro w hSw; go_simp; try with_reducible rfl) ?_
    (try simp only [Act.put, List.setIfInBounds_toArray, List.set_cons_zero, List.set_cons_succ])
    refine wpAnyH_ready (rs := [5]) (by kernel_rfl) (by simp) (AllReadyH.cons rfl (fun K hK => ?_) AllReadyH.nil)
    go_simp
    (refine (bytes4_any (HPL.out.beyond h3) HF.out HR.out (by omega)).mono ?_; rw [HST.out]; rintro e W4 ⟨rfl, h4a⟩; have h4 : Below W2.heap.size W2 W4 := h3.trans (h4a.mono h3.size); clear h4a)
    go_wp2_with fail
    refine hK.out _ _ (h4) (fun _ => ?_)
    clear hK K
    (try simp only [Act.put, List.setIfInBounds_toArray, List.set_cons_zero, List.set_cons_succ])
    refine anyH_take (i := 8) (some 43) (v := _) rfl rfl (by kernel_rfl) (by kernel_rfl) (by kernel_rfl) (fun _ _ _ h => h) (by rfl) (h4) (by intro w hSw; go_simp; try with_reducible rfl) ?_
    (try simp only [Act.put, List.setIfInBounds_toArray, List.set_cons_zero, List.set_cons_succ])
    refine anyH_take (i := 9) (some 44) (v := _) rfl rfl (by kernel_rfl) (by kernel_rfl) (by kernel_rfl) (fun _ _ _ h => h) (by rfl) (h4) (by intro w hSw; go_simp; try with_reducible rfl) ?_
    (try simp only [Act.put, List.setIfInBounds_toArray, List.set_cons_zero, List.set_cons_succ])
    refine anyH_take (i := 10) (some 2) (v := _) rfl rfl (by kernel_rfl) (by kernel_rfl) (by kernel_rfl) (fun _ _ _ h => h) (by rfl) (h4) (by intro w hSw; go_simp; try with_reducible rfl) ?_
    (try simp only [Act.put, List.setIfInBounds_toArray, List.set_cons_zero, List.set_cons_succ])
    refine wpAnyH_done (by kernel_rfl) ?_ _
    go_wp2
    go_ret
    exact ⟨rfl, HB1.out.trans ((HB2.out.trans (h4.mono HB2.out.size)).mono HB1.out.size)⟩
  · have he2 : l = [] ∧ (z = 4 ∨ z = 2 ∨ z = 3) := by
      rcases he with he | he
      · exact absurd he hz
      · exact he
    obtain ⟨rfl, hz2⟩ := he2
    clear he hown HS HZL hz
    rcases hz2 with rfl | rfl | rfl
    all_goals
      go_wp2
      go_ret
      exact ⟨rfl, HB1.out.trans (HB2.out.mono HB1.out.size)⟩

set_option maxHeartbeats 1000000 in
theorem chunkUnpacks_walk (D : ChunkDoes) {w : World} {v : Value} {bs : List Nat} (hv : Lies w v bs) (hb : ∀ x ∈ bs, x < 256) (hm : bs.length ≤ maxLen) (hl : StepsLaid w) :
    Calls Tryd.prog 4 #[v] w fun e w' => e = .returned (.bool true) ∧ Below w.heap.size w w' := by
  by_cases hn : bs.length ≤ 300
  · exact chunkUnpacks_some D hv hb hn hl
  · obtain ⟨a, c, rfl⟩ := lies_slice hv
    have hL := Lib.hid hl
    have HD := Lib.hid D
    have t0 : decide ((300 : Int) < bs.length) = true := by simp; omega
    have hlen : bs.length ≤ 9223372036854775807 := by unfold maxLen at hm; omega
    clear hl D hv hb hm
    go_enter Tryd.func4, Tryd.ntmps4
    go_wp2_with fail
    refine (lives04 HD.out _ hL.out).mono ?_
    rintro e W1 ⟨rfl, hb1⟩
    have HB1 := Lib.hid hb1
    have HL1 := Lib.hid (hL.out.keep hb1 hL.out.lt)
    clear hb1
    go_wp2_with fail
    refine (lives04 HD.out _ HL1.out).mono ?_
    rintro e W2 ⟨rfl, hb2⟩
    have HB2 := Lib.hid hb2
    clear hb2
    go_wp2
    go_ret
    exact ⟨rfl, HB1.out.trans (HB2.out.mono HB1.out.size)⟩
end Go.Proofs.YtdfefhoihpbldaaDoor
