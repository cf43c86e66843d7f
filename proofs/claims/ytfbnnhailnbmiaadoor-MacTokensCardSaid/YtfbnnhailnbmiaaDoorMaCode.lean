/- Package mac: the code of a key and bytes. -/
import Derived.Test.YtfbnnhailnbmiaaDoorMaDig
namespace Go.Proofs.YtfbnnhailnbmiaaDoor
open Go.RowKit

theorem splice_whole {α : Type} {l cs : List α} (h : l.length = cs.length) : splice l 0 cs = cs := by unfold splice; rw [List.take_zero, List.nil_append, Nat.zero_add, ← h, List.drop_length, List.append_nil]
theorem lies_arr {w : World} {P c : Nat} {t : TypeId} {l : List Nat} (h : Arr w P t (u8s l)) : Lies w (.slice (some ⟨P, 0, none⟩) l.length c) l := .inr (.inr ⟨P, 0, c, rfl, arr_bytes h⟩)

set_option maxHeartbeats 8000000 in
set_option maxRecDepth 1000000 in
theorem code_any {w : World} {vk v : Value} {key bs : List Nat} (hk : Lies w vk key) (hkf : Fits vk) (hkb : ∀ y ∈ key, y < 256) (hkn : key.length < 100000000) (hv : Lies w v bs) (hf : Fits v) (hb : ∀ y ∈ bs, y < 256) (hn : bs.length < 100000000) (htab : Tabs w) :
    Calls Tryd.prog 8 #[vk, v] w fun e w' => e = .returned (.agg (u8s (codeB key bs)).toArray) ∧ Below w.heap.size w w' := by
  obtain ⟨L, hL⟩ : ∃ L, L = u8s (codeB key bs) := ⟨_, rfl⟩
  obtain ⟨D, hD⟩ : ∃ D, D = u8s (digest (xorB 54 (keyB key) ++ bs)) := ⟨_, rfl⟩
  obtain ⟨B, hB⟩ : ∃ B, B = u8s (keyB key) := ⟨_, rfl⟩
  have hLz : L.toArray.size = 32 := by rw [hL]; simp [u8s_length, codeB_len]
  have hDz : D.toArray.size = 32 := by rw [hD]; simp [u8s_length, dig_len]
  have hBz : B.toArray.size = 64 := by rw [hB]; simp [u8s_length, keyB_len]
  have HLl : Hid ((u8s (List.replicate 32 0)).length = L.length) := Lib.hid (by rw [show L.length = 32 from hLz]; rfl)
  rw [← hL]
  have HI32 : Hid ((Tryd.prog.info? 25).map (·.size) = some L.toArray.size) := Lib.hid (by rw [hLz]; kernel_rfl)
  have HL1 : Hid (∀ u ∈ L, u.oneCell' = true) := Lib.hid (by rw [hL]; exact u8s_one _)
  have HD32 : Hid ((Tryd.prog.info? 25).map (·.size) = some D.toArray.size) := Lib.hid (by rw [hDz]; kernel_rfl)
  have HDAL : Hid (D.toArray.all (·.oneCell') = true) := Lib.hid (by rw [hD]; exact all_one (u8s_one _))
  have HDSZ : Hid ((u8s (List.replicate 32 0)).toArray.size = D.toArray.size) := Lib.hid (by rw [hDz]; rfl)
  have HI64 : Hid ((Tryd.prog.info? 34).map (·.size) = some B.toArray.size) := Lib.hid (by rw [hBz]; kernel_rfl)
  have HBAL : Hid (B.toArray.all (·.oneCell') = true) := Lib.hid (by rw [hB]; exact all_one (u8s_one _))
  have HBSZ : Hid ((u8s (List.replicate 64 0)).toArray.size = B.toArray.size) := Lib.hid (by rw [hBz]; rfl)
  have HFIL : Hid (∀ W, Below w.heap.size w W → Calls Tryd.prog 13 #[vk] W fun e w' => e = .returned (.agg B.toArray) ∧ Below W.heap.size W w') := Lib.hid fun W hW => by rw [hB]; exact filled_any (lies_keep hk hW) hkf hkb hkn (htab.keep hW)
  have HIN : Hid (∀ W, Below w.heap.size w W → Calls Tryd.prog 14 #[.agg B.toArray, .int .u8 54, v] W fun e w' => e = .returned (.agg D.toArray) ∧ Below W.heap.size W w') := Lib.hid fun W hW => by
    rw [hB, hD]; exact mdig_any (x := 54) (lies_keep hv hW) hf hb hn (by decide) (keyB_len key) (keyB_lt hkb) (htab.keep hW)
  have HOUT : Hid (∀ W P, Below w.heap.size w W → Arr W P 25 D → Calls Tryd.prog 14 #[.agg B.toArray, .int .u8 92, .slice (some ⟨P, 0, none⟩) 32 32] W fun e w' => e = .returned (.agg L.toArray) ∧ Below W.heap.size W w') := Lib.hid fun W P hW hA => by
    rw [hB, hL, codeB]
    refine mdig_any (x := 92) (bs := digest (xorB 54 (keyB key) ++ bs)) ?_ (fits_slice (Nat.le_refl _)) (dig_lt _) (by rw [dig_len]; decide) (by decide) (keyB_len key) (keyB_lt hkb) (htab.keep hW)
    have h := lies_arr (c := 32) (l := digest (xorB 54 (keyB key) ++ bs)) (by rw [← hD]; exact hA)
    rw [dig_len] at h
    exact h
  clear hL hD hB hLz hDz hBz hk hkf hkb hkn hv hf hb hn htab
  go_enter Tryd.func8, Tryd.ntmps8
  repeat (first | (refine wpList_alloc_zero rfl 25 rfl (u8s (List.replicate 32 0)) (by kernel_rfl) ?_) | (refine wpList_alloc_zero rfl 34 rfl (u8s (List.replicate 64 0)) (by kernel_rfl) ?_) | (go_at_call 13; refine calls_name ?_; intro W1 hW1; have HR1 := Lib.hid (show Arr W1 w.heap.size 25 (u8s (List.replicate 32 0)) by rw [hW1.out]; exact arr_new _ _ _); have HB1 := Lib.hid (show Below w.heap.size w W1 by rw [hW1.out]; exact (Below.refl _ _).alloc (Nat.le_refl _) _); clear hW1; refine (HFIL.out W1 HB1.out).mono ?_; rintro e W2 ⟨rfl, hb2⟩; have HR2 := Lib.hid (HR1.out.only (only_beyond (S := fun _ => False) hb2) (fun h => h)); have HB2 := Lib.hid (HB1.out.trans (hb2.mono HB1.out.size)); clear hb2; dsimp only) | (refine wpList_store_row rfl 34 (.tmp 5) (.tmp 8) rfl W2.heap.size B.toArray rfl rfl 34 (u8s (List.replicate 64 0)).toArray (arr_new W2 _ (u8s (List.replicate 64 0))) HI64.out HBSZ.out HBAL.out ?_; refine wpList_name ?_; intro W3 hW3; have HK3 := Lib.hid (show Arr W3 W2.heap.size 34 B by rw [hW3.out]; exact Arr.stored (arr_new W2 _ (u8s (List.replicate 64 0)))); have HB23 := Lib.hid (show Below W2.heap.size W2 W3 by rw [hW3.out]; exact below_setRow ((Below.refl _ _).alloc (Nat.le_refl _) _) (Nat.le_refl _) _); have HR3 := Lib.hid (HR2.out.only (only_beyond (S := fun _ => False) HB23.out) (fun h => h)); have HB3 := Lib.hid (HB2.out.trans (HB23.out.mono HB2.out.size)); clear hW3) | (refine wpList_load_row rfl 34 (.tmp 5) rfl W2.heap.size rfl 34 B.toArray (0, 0) _ HK3.out Tryd.underlying34 rfl HI64.out ?_) | (go_at_call 14; refine (HIN.out W3 HB3.out).mono ?_; rintro e W4 ⟨rfl, hb4⟩; have HR4 := Lib.hid (HR3.out.only (only_beyond (S := fun _ => False) hb4) (fun h => h)); have HK4 := Lib.hid (HK3.out.only (only_beyond (S := fun _ => False) hb4) (fun h => h)); have HB4 := Lib.hid (HB3.out.trans (hb4.mono HB3.out.size)); clear hb4; dsimp only) | (refine wpList_store_row rfl 25 (.tmp 6) (.tmp 11) rfl W4.heap.size D.toArray rfl rfl 25 (u8s (List.replicate 32 0)).toArray (arr_new W4 _ (u8s (List.replicate 32 0))) HD32.out HDSZ.out HDAL.out ?_; refine wpList_name ?_; intro W5 hW5; have HD5 := Lib.hid (show Arr W5 W4.heap.size 25 D by rw [hW5.out]; exact Arr.stored (arr_new W4 _ (u8s (List.replicate 32 0)))); have HB45 := Lib.hid (show Below W4.heap.size W4 W5 by rw [hW5.out]; exact below_setRow ((Below.refl _ _).alloc (Nat.le_refl _) _) (Nat.le_refl _) _); have HR5 := Lib.hid (HR4.out.only (only_beyond (S := fun _ => False) HB45.out) (fun h => h)); have HK5 := Lib.hid (HK4.out.only (only_beyond (S := fun _ => False) HB45.out) (fun h => h)); have HB5 := Lib.hid (HB4.out.trans (HB45.out.mono HB4.out.size)); clear hW5) | go_values | go_skip | go_guarded | go_step)
  refine wp_region_held_drew (S := fun _ => True) (by kernel_rfl) trivial (fun _ => ?_)
  refine anyH_take (i := 1) (some 13) (v := _) rfl rfl (by kernel_rfl) (by kernel_rfl) (by kernel_rfl) (fun _ _ _ h => h) (by rfl) trivial (by intro w hSw; go_simp; try with_reducible rfl) ?_
  (try simp only [Act.put, List.setIfInBounds_toArray, List.set_cons_zero, List.set_cons_succ])
  refine wpAnyH_ready (rs := [0]) (by kernel_rfl) (by simp) (AllReadyH.cons rfl (fun K hK => ?_) AllReadyH.nil)
  have hBl : (Tryd.prog.info? 34).map (·.size) = some B.length := HI64.out
  refine step_value rfl (run_load_part _ 34 (.tmp 5) rfl W2.heap.size 0 rfl B _ (fun j v hj => by rw [Nat.zero_add]; exact HK5.out.cell hj) Tryd.underlying34 rfl hBl) ?_
  refine hK.out _ _ trivial (fun _ => ?_)
  clear hK K
  (try simp only [Act.put, List.setIfInBounds_toArray])
  refine wpAnyH_ready (rs := [2]) (by kernel_rfl) (by simp) (AllReadyH.cons rfl (fun K hK => ?_) AllReadyH.nil)
  go_simp
  have HB5d : Below w.heap.size w W5.drew := HB5.out.drew
  refine (HOUT.out W5.drew W4.heap.size HB5d HD5.out).mono ?_
  rintro e W6 ⟨rfl, hb6⟩
  have HR6 := Lib.hid ((show Arr W5.drew w.heap.size 25 (u8s (List.replicate 32 0)) from HR5.out).only (only_beyond (S := fun _ => False) hb6) (fun h => h))
  have HB6 := Lib.hid (HB5d.trans (hb6.mono HB5d.size))
  clear hb6
  go_wp2_with fail
  refine hK.out _ _ trivial (fun _ => ?_)
  clear hK K
  (try simp only [Act.put, List.setIfInBounds_toArray, List.set_cons_zero, List.set_cons_succ])
  refine wpAnyH_ready (rs := [3]) (by kernel_rfl) (by simp) (AllReadyH.cons rfl (fun K hK => ?_) AllReadyH.nil)
  refine step_store_part rfl 25 (.tmp 4) (.tmp 14) rfl w.heap.size 0 L rfl rfl 25 (u8s (List.replicate 32 0)) HR6.out HI32.out (by rw [Nat.zero_add, HLl.out]; exact Nat.le_refl _) HL1.out rfl ?_
  rw [splice_whole HLl.out]
  refine hK.out _ _ trivial (fun _ => ?_)
  clear hK K
  (try simp only [Act.put, List.setIfInBounds_toArray, List.set_cons_zero, List.set_cons_succ])
  refine wpAnyH_done (by kernel_rfl) ?_ _
  repeat (first | go_values | go_skip | go_guarded | go_step | go_upon)
  (try simp only [Exit.inBlock, Exit.then])
  refine bodyPost_ret (results_cell_row rfl _ _ w.heap.size 25 L.toArray (0, 0) _ rfl (setRow_heap W6 w.heap.size _ L.toArray _ _ HR6.out) Tryd.underlying25 rfl HI32.out) rfl ?_
  exact ⟨rfl, below_setRow HB6.out (Nat.le_refl _) _⟩
end Go.Proofs.YtfbnnhailnbmiaaDoor
