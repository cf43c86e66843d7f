/- Package mac: a key as a block. -/
import Derived.Test.YtfbnnhailnbmiaaDoorHaDig
import Derived.Test.YtfbnnhailnbmiaaDoorMaL
import Derived.Test.YtfbnnhailnbmiaaDoorMaAt
namespace Go.Proofs.YtfbnnhailnbmiaaDoor
open Go.RowKit

theorem splice_key {k : List Nat} (_h : k.length ≤ 64) : splice (u8s (List.replicate 64 0)) 0 (u8s k) = u8s (k ++ List.replicate (64 - k.length) 0) := by
  unfold splice
  rw [List.take_zero, List.nil_append, Nat.zero_add, u8s_append]
  congr 1
  rw [u8s, u8s, ← List.map_drop, List.length_map, List.drop_replicate]
  rfl
theorem keyB_short {key : List Nat} (h : ¬ 64 < key.length) : key ++ List.replicate (64 - key.length) 0 = keyB key := by unfold keyB; rw [if_neg h]
theorem keyB_long {key : List Nat} (h : 64 < key.length) : digest key ++ List.replicate (64 - (digest key).length) 0 = keyB key := by unfold keyB; rw [if_pos h]
theorem arr_cells {w : World} {P : Nat} {t : TypeId} {l : List Value} (h : Arr w P t l) : w.heap[P]? = some (.cells l.toArray t (0, 0)) := h

set_option maxHeartbeats 4000000 in
set_option maxRecDepth 1000000 in
theorem filled_any {w : World} {v : Value} {key : List Nat} (hv : Lies w v key) (hf : Fits v) (hb : ∀ x ∈ key, x < 256) (hn : key.length < 100000000) (htab : Tabs w) :
    Calls Tryd.prog 13 #[v] w fun e w' => e = .returned (.agg (u8s (keyB key)).toArray) ∧ Below w.heap.size w w' := by
  obtain ⟨L, hL⟩ : ∃ L, L = u8s (keyB key) := ⟨_, rfl⟩
  have hLz : L.toArray.size = 64 := by rw [hL]; simp [u8s_length, keyB_len]
  rw [← hL]
  have HI64 : Hid ((Tryd.prog.info? 34).map (·.size) = some L.toArray.size) := Lib.hid (by rw [hLz]; kernel_rfl)
  have HAL64 : Hid (L.toArray.all (·.oneCell') = true) := Lib.hid (by rw [hL]; exact all_one (u8s_one _))
  have HSZ64 : Hid ((u8s (List.replicate 64 0)).toArray.size = L.toArray.size) := Lib.hid (by rw [hLz]; rfl)
  have HV := Lib.hid hv
  have HT := Lib.hid htab
  obtain ⟨a, c, rfl, hform⟩ := lies_form hv
  have HF := Lib.hid hform
  have HN := Lib.hid hn
  have HLq := Lib.hid hL
  by_cases hk : 64 < key.length
  · have t1 : decide (64 < (key.length : Int)) = true := by simp only [decide_eq_true_eq]; omega
    have tk : (64 : Int) < (key.length : Int) := by omega
    obtain ⟨D, hD⟩ : ∃ D, D = u8s (digest key) := ⟨_, rfl⟩
    have hDz : D.toArray.size = 32 := by rw [hD]; simp [u8s_length, dig_len]
    have HI32 : Hid ((Tryd.prog.info? 25).map (·.size) = some D.toArray.size) := Lib.hid (by rw [hDz]; kernel_rfl)
    have HAL32 : Hid (D.toArray.all (·.oneCell') = true) := Lib.hid (by rw [hD]; exact all_one (u8s_one _))
    have HSZ32 : Hid ((u8s (List.replicate 32 0)).toArray.size = D.toArray.size) := Lib.hid (by rw [hDz]; rfl)
    have HSP : Hid (splice (u8s (List.replicate 64 0)) 0 D = L) := Lib.hid (by rw [hD, hL, splice_key (by rw [dig_len]; omega), keyB_long hk])
    have HS : Hid (∀ W, Below w.heap.size w W → Calls Tryd.prog 20 #[.slice a key.length c] W fun e w' => e = .returned (.agg D.toArray) ∧ Below W.heap.size W w') := Lib.hid fun W hW => by rw [hD]; exact hsum_any (lies_keep HV.out hW) hf hb hn (HT.out.keep hW)
    have HD1 : Hid (∀ u ∈ D, u.oneCell' = true) := Lib.hid (by rw [hD]; exact u8s_one _)
    have hDl : D.length = 32 := by simpa using hDz
    obtain ⟨n, hnn⟩ : ∃ n, n = key.length := ⟨_, rfl⟩
    rw [← hnn] at t1 tk HS ⊢
    clear hv hf hb hn htab hform hL hLz hD hDz hnn HV HF HN HLq hk
    go_enter Tryd.func13, Tryd.ntmps13
    repeat (first | (refine wpList_alloc_zero rfl 34 rfl (u8s (List.replicate 64 0)) (by kernel_rfl) ?_) | (refine wpList_alloc_zero rfl 25 rfl (u8s (List.replicate 32 0)) (by kernel_rfl) ?_) | (go_at_call 20; refine calls_name ?_; intro W1 hW1; have HR1 := Lib.hid (show Arr W1 w.heap.size 34 (u8s (List.replicate 64 0)) by rw [hW1.out]; exact (arr_new w _ (u8s (List.replicate 64 0))).alloc _); have HK1 := Lib.hid (show Arr W1 (w.heap.size + 1) 34 (u8s (List.replicate 64 0)) by rw [hW1.out]; have h := arr_new (w.alloc (.cells (u8s (List.replicate 64 0)).toArray 34)) 34 (u8s (List.replicate 64 0)); simpa using h); have HB1 := Lib.hid (show Below w.heap.size w W1 by rw [hW1.out]; exact ((Below.refl _ _).alloc (Nat.le_refl _) _).alloc (by simp) _); clear hW1; refine (HS.out W1 HB1.out).mono ?_; rintro e W2 ⟨rfl, hb2⟩; have HR2 := Lib.hid (HR1.out.only (only_beyond (S := fun _ => False) hb2) (fun h => h)); have HK2 := Lib.hid (HK1.out.only (only_beyond (S := fun _ => False) hb2) (fun h => h)); have HB2 := Lib.hid (HB1.out.trans (hb2.mono HB1.out.size)); clear hb2; dsimp only) | (refine wpList_store_row rfl 25 (.tmp 4) (.tmp 9) rfl W2.heap.size D.toArray rfl rfl 25 (u8s (List.replicate 32 0)).toArray (arr_new W2 _ (u8s (List.replicate 32 0))) HI32.out HSZ32.out HAL32.out ?_; refine wpList_name ?_; intro W3 hW3; have HD3 := Lib.hid (show Arr W3 W2.heap.size 25 D by rw [hW3.out]; exact Arr.stored (arr_new W2 _ (u8s (List.replicate 32 0)))); have HB23 := Lib.hid (show Below W2.heap.size W2 W3 by rw [hW3.out]; exact below_setRow ((Below.refl _ _).alloc (Nat.le_refl _) _) (Nat.le_refl _) _); have HR3 := Lib.hid (HR2.out.only (only_beyond (S := fun _ => False) HB23.out) (fun h => h)); have HK3 := Lib.hid (HK2.out.only (only_beyond (S := fun _ => False) HB23.out) (fun h => h)); have HB3 := Lib.hid (HB2.out.trans (HB23.out.mono HB2.out.size)); clear hW3) | (refine wpList_copy_splice rfl (.tmp 11) (.tmp 12) 22 22 rfl 5 Tryd.underlying22 (by kernel_rfl) (some ⟨w.heap.size + 1, 0, none⟩) (some ⟨W2.heap.size, 0, none⟩) 64 64 32 32 (by rfl) (by rfl) (w.heap.size + 1) 0 (u8s (List.replicate 64 0)) 34 HK3.out D (hDl.trans (by decide)) (fun _ => ⟨rfl, _, rfl, fun j v hj => by rw [add_at, Nat.zero_add]; exact HD3.out.cell hj⟩) (by rw [u8s_length, List.length_replicate, hDl]; decide) HD1.out (w.heap.size + 1) W3 (Below.refl _ _) (Nat.le_refl _) ?_; intro W4 hW4 hB4; have HK4 := Lib.hid (show Arr W4 (w.heap.size + 1) 34 L by have h := hW4.out; rw [HSP.out] at h; exact h); have HR4 := Lib.hid (show Arr W4 w.heap.size 34 (u8s (List.replicate 64 0)) from (hB4.block w.heap.size (by omega)).trans HR3.out); have HB4 : Hid (Below w.heap.size w W4) := Lib.hid ((HB3.out).trans (hB4.mono (by omega))); clear hW4 hB4) | (refine wpList_load_row rfl 34 (.tmp 3) rfl (w.heap.size + 1) rfl 34 L.toArray (0, 0) _ HK4.out Tryd.underlying34 rfl HI64.out ?_) | (refine wpList_store_row rfl 34 (.tmp 2) (.tmp 14) rfl w.heap.size L.toArray rfl rfl 34 (u8s (List.replicate 64 0)).toArray HR4.out HI64.out HSZ64.out HAL64.out ?_) | go_values | go_skip | go_guarded | go_step | go_upon)
    (try simp only [Exit.inBlock, Exit.then])
    refine bodyPost_ret (results_cell_row rfl _ _ w.heap.size 34 L.toArray (0, 0) _ rfl (setRow_heap W4 w.heap.size _ L.toArray _ _ HR4.out) Tryd.underlying34 rfl HI64.out) rfl ?_
    exact ⟨rfl, below_setRow HB4.out (by omega) _⟩
  · have t1 : decide (64 < (key.length : Int)) = false := by simp only [decide_eq_false_iff_not]; omega
    have HSP : Hid (splice (u8s (List.replicate 64 0)) 0 (u8s key) = L) := Lib.hid (by rw [hL, splice_key (by omega), keyB_short hk])
    have HSRC : Hid (0 < (u8s key).length → ∃ ad, a = some ad ∧ ∀ j v, (u8s key)[j]? = some v → ∀ W, Below w.heap.size w W → W.cell? (ad.add j) = some v) := Lib.hid fun h0 => by
      obtain ⟨b, off, rfl, hby⟩ := hform (fun e => by rw [e] at h0; simp [u8s] at h0)
      refine ⟨_, rfl, fun j v hj W hW => ?_⟩
      have hjl : j < key.length := by have := (List.getElem?_eq_some_iff.1 hj).1; rwa [u8s_length] at this
      have hc := hby j hjl
      rw [add_at]
      rw [u8s_getD key j hjl] at hj
      rw [← hj, ← hc]
      exact hW.cell (p := ⟨b, off + j, none⟩) (cell_lt hc)
    obtain ⟨n, hnn⟩ : ∃ n, n = key.length := ⟨_, rfl⟩
    obtain ⟨D, hD⟩ : ∃ D, D = u8s key := ⟨_, rfl⟩
    have hDl : D.length = n := by rw [hD, hnn, u8s_length]
    have hn64 : n ≤ 64 := by omega
    have HD1 : Hid (∀ u ∈ D, u.oneCell' = true) := Lib.hid (by rw [hD]; exact u8s_one _)
    rw [← hD] at HSP HSRC
    rw [← hnn] at t1 ⊢
    obtain ⟨Z, hZ⟩ : ∃ Z, Z = (u8s (List.replicate 64 0)) := ⟨_, rfl⟩
    clear hv hf hb hn htab hform hL hLz hD hnn HV HF HN HLq hk
    go_enter Tryd.func13, Tryd.ntmps13
    repeat (first | (refine wpList_alloc_zero rfl 34 rfl (u8s (List.replicate 64 0)) (by kernel_rfl) ?_) | (refine wpList_alloc_zero rfl 25 rfl (u8s (List.replicate 32 0)) (by kernel_rfl) ?_) | (refine wpList_name ?_; intro W3 hW3; have HR3 := Lib.hid (show Arr W3 w.heap.size 34 (u8s (List.replicate 64 0)) by rw [hW3.out]; exact (arr_new w _ (u8s (List.replicate 64 0))).alloc _); have HK3 := Lib.hid (show Arr W3 (w.heap.size + 1) 34 (u8s (List.replicate 64 0)) by rw [hW3.out]; have h := arr_new (w.alloc (.cells (u8s (List.replicate 64 0)).toArray 34)) 34 (u8s (List.replicate 64 0)); simpa using h); have HB3 := Lib.hid (show Below w.heap.size w W3 by rw [hW3.out]; exact ((Below.refl _ _).alloc (Nat.le_refl _) _).alloc (by simp) _); clear hW3; refine wpList_copy_splice rfl (.tmp 11) (.tmp 12) 22 22 rfl 5 Tryd.underlying22 (by kernel_rfl) (some ⟨w.heap.size + 1, 0, none⟩) a 64 64 n c (by rfl) (by rfl) (w.heap.size + 1) 0 (u8s (List.replicate 64 0)) 34 HK3.out D (hDl.trans (Nat.min_eq_left hn64).symm) (fun h0 => ⟨rfl, by obtain ⟨ad, h1, h2⟩ := HSRC.out h0; exact ⟨ad, h1, fun j v hj => h2 j v hj _ HB3.out⟩⟩) (by rw [u8s_length, List.length_replicate, hDl]; omega) HD1.out (w.heap.size + 1) W3 (Below.refl _ _) (Nat.le_refl _) ?_; intro W4 hW4 hB4; have HK4 := Lib.hid (show Arr W4 (w.heap.size + 1) 34 L by have h := hW4.out; rw [HSP.out] at h; exact h); have HR4 := Lib.hid (show Arr W4 w.heap.size 34 (u8s (List.replicate 64 0)) from (hB4.block w.heap.size (by omega)).trans HR3.out); have HB4 : Hid (Below w.heap.size w W4) := Lib.hid ((HB3.out).trans (hB4.mono (by omega))); clear hW4 hB4) | (refine wpList_load_row rfl 34 (.tmp 3) rfl (w.heap.size + 1) rfl 34 L.toArray (0, 0) _ HK4.out Tryd.underlying34 rfl HI64.out ?_) | (refine wpList_store_row rfl 34 (.tmp 2) (.tmp 14) rfl w.heap.size L.toArray rfl rfl 34 (u8s (List.replicate 64 0)).toArray HR4.out HI64.out HSZ64.out HAL64.out ?_) | go_values | go_skip | go_guarded | go_step | go_upon)
    (try simp only [Exit.inBlock, Exit.then])
    refine bodyPost_ret (results_cell_row rfl _ _ w.heap.size 34 L.toArray (0, 0) _ rfl (setRow_heap W4 w.heap.size _ L.toArray _ _ HR4.out) Tryd.underlying34 rfl HI64.out) rfl ?_
    exact ⟨rfl, below_setRow HB4.out (by omega) _⟩
end Go.Proofs.YtfbnnhailnbmiaaDoor
