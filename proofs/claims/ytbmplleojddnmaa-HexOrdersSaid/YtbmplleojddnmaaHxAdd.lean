/- Package hex: a byte's two signs, appended. -/
import Derived.Test.YtbmplleojddnmaaHxL
namespace Go.Proofs.Ytbmplleojddnmaa
open Go.RowKit

theorem info_u8 : ∃ i, Try.prog.info? 5 = some i ∧ i.zero = some (.int .u8 0) ∧ i.size = 1 ∧ i.bytes = 1 := by
  have h := infoU8
  cases hi : Try.prog.info? 5 with
  | none => rw [hi] at h; simp at h
  | some i => rw [hi] at h; simp at h; exact ⟨i, rfl, h.1, h.2.1, h.2.2⟩

set_option maxHeartbeats 4000000 in
set_option maxRecDepth 1000000 in
theorem hxadd_any {w : World} {B : Nat} {v : Value} {n : Nat} {l : List Nat} {x : Nat} (hown : w.ownsRow B 5 1 v n (u8s l)) (hx256 : x < 256) (hn : n ≤ 1000000000) (hB : B ≤ w.heap.size) :
    Calls Try.prog 13 #[v, .int .u8 (x : Int)] w fun e w' => (∃ v', e = .returned v' ∧ w'.ownsRow B 5 1 v' (n + 2) (u8s (l ++ [signB (x / 16), signB (x % 16)]))) ∧ Below B w w' := by
  obtain ⟨iU, hiU, hzU, hsU, hbU⟩ := info_u8
  have HO := Lib.hid hown
  obtain ⟨p, hp⟩ : ∃ p, p = x / 16 := ⟨_, rfl⟩
  obtain ⟨q, hq⟩ : ∃ q, q = x % 16 := ⟨_, rfl⟩
  have e0 : (x : Int) / 16 = (p : Int) := by omega
  have e1 : bits .and .u8 (x : Int) 15 = (q : Int) := by rw [u8_and _ _ (by omega) (by omega) (by omega) (by omega), show (15 : Int).toNat = 15 from rfl, nat_mask4]; omega
  have hp16 : p < 16 := by omega
  have hq16 : q < 16 := by omega
  rw [← hp, ← hq]
  clear hp hq hown
  go_enter Try.func13, Try.ntmps13
  repeat (first | go_values | go_skip | go_guarded | go_step)
  refine wp_region_held_drew (S := fun _ => True) (by kernel_rfl) trivial (fun _ => ?_)
  refine anyH_take (i := 0) (some 5) (v := _) rfl rfl (by kernel_rfl) (by kernel_rfl) (by kernel_rfl) (fun _ _ _ h => h) (by rfl) trivial (by intro w hSw; go_simp; try with_reducible rfl) ?_
  (try simp only [Act.put, List.setIfInBounds_toArray, List.set_cons_zero, List.set_cons_succ])
  refine anyH_take (i := 1) (some 6) (v := _) rfl rfl (by kernel_rfl) (by kernel_rfl) (by kernel_rfl) (fun _ _ _ h => h) (by rfl) trivial (by intro w hSw; go_simp; try with_reducible rfl) ?_
  (try simp only [Act.put, List.setIfInBounds_toArray, List.set_cons_zero, List.set_cons_succ])
  refine anyH_take (i := 2) (some 7) (v := _) rfl rfl (by kernel_rfl) (by kernel_rfl) (by kernel_rfl) (fun _ _ _ h => h) (by rfl) trivial (by intro w hSw; go_simp; try with_reducible rfl) ?_
  (try simp only [Act.put, List.setIfInBounds_toArray, List.set_cons_zero, List.set_cons_succ])
  refine anyH_take (i := 4) (some 9) (v := _) rfl rfl (by kernel_rfl) (by kernel_rfl) (by kernel_rfl) (fun _ _ _ h => h) (by rfl) trivial (by intro w hSw; go_simp; try with_reducible rfl) ?_
  (try simp only [Act.put, List.setIfInBounds_toArray, List.set_cons_zero, List.set_cons_succ])
  refine anyH_take (i := 5) (some 10) (v := _) rfl rfl (by kernel_rfl) (by kernel_rfl) (by kernel_rfl) (fun _ _ _ h => h) (by rfl) trivial (by intro w hSw; go_simp; try with_reducible rfl) ?_
  (try simp only [Act.put, List.setIfInBounds_toArray, List.set_cons_zero, List.set_cons_succ])
  refine anyH_take (i := 3) (some 8) (v := .int .u8 ((signB p : Nat) : Int)) rfl rfl (by kernel_rfl) (by kernel_rfl) (by kernel_rfl) (fun _ _ _ h => h) (by rfl) trivial (fun w _ => run_hex_op w (.tmp 7) rfl p rfl hp16) ?_
  (try simp only [Act.put, List.setIfInBounds_toArray, List.set_cons_zero, List.set_cons_succ])
  refine anyH_take (i := 6) (some 11) (v := .int .u8 ((signB q : Nat) : Int)) rfl rfl (by kernel_rfl) (by kernel_rfl) (by kernel_rfl) (fun _ _ _ h => h) (by rfl) trivial (fun w _ => run_hex_op w (.tmp 10) rfl q rfl hq16) ?_
  (try simp only [Act.put, List.setIfInBounds_toArray, List.set_cons_zero, List.set_cons_succ])
  refine wpAnyH_ready (rs := [7]) (by kernel_rfl) (by simp) (AllReadyH.cons rfl (fun K hK => ?_) AllReadyH.nil)
  refine step_buildSlice rfl 22 5 2 #[(0, .tmp 8), (1, .tmp 11)] rfl #[.int .u8 ((signB p : Nat) : Int), .int .u8 ((signB q : Nat) : Int)] iU _ Try.underlying22 hiU hzU (by rw [hsU]; decide) (by rw [hsU]; decide) (by rw [hsU, Array.toList_map]; exact fill_two _ _ _) ?_
  refine hK.out _ _ trivial (fun _ => ?_)
  clear hK K
  (try simp only [Act.put, List.setIfInBounds_toArray])
  obtain ⟨wA, hwA⟩ : ∃ W, W = w.drew.alloc (.cells #[.int .u8 ((signB p : Nat) : Int), .int .u8 ((signB q : Nat) : Int)] 5) := ⟨_, rfl⟩
  obtain ⟨ga, hga⟩ : ∃ g, g = w.drew.heap.size := ⟨_, rfl⟩
  have HNW : Hid (∀ j u, (u8s [signB p, signB q])[j]? = some u → wA.cell? ((⟨ga, 0, none⟩ : Addr).add j) = some u) := Lib.hid fun j u hj => by
    rw [hwA, hga, add_at, cell_of_row _ w.drew.heap.size (0 + j) _ _ _ (heap_alloc_new w.drew _), Nat.zero_add]
    simpa [u8s] using hj
  have HOA : Hid (wA.ownsRow B 5 1 v n (u8s l)) := Lib.hid (by
    rw [hwA]; exact row_only (row_only HO.out (Only.drew (fun _ => False) w) (fun _ _ h => h)) (Only.alloc (fun _ => False) w.drew _) (fun _ _ h => h))
  have HBA : Hid (Below B w wA) := Lib.hid (by rw [hwA]; exact (Below.refl B w).drew.alloc hB _)
  have hBA : B ≤ wA.heap.size := Nat.le_trans hB HBA.out.size
  rw [← hwA, ← hga]
  clear hwA hga
  refine wpAnyH_ready (rs := [8]) (by kernel_rfl) (by simp) (AllReadyH.cons rfl (fun K hK => ?_) AllReadyH.nil)
  refine step_append_own3 wA rfl (.tmp 5) (.tmp 12) 22 rfl B 5 iU _ 1 1 Try.underlying22 hiU hzU hsU hbU rfl (by decide) v n _ rfl HOA.out _ 2 (u8s [signB p, signB q]) rfl (.inr ⟨⟨ga, 0, none⟩, 2, rfl, rfl, HNW.out⟩) (u8s_one _) (by unfold maxLen; omega) (by omega) hBA ?_
  intro v7 w7 hown hg
  have HO7 := Lib.hid (show w7.ownsRow B 5 1 v7 (n + 2) (u8s (l ++ [signB p, signB q])) by rw [u8s_append]; exact hown)
  have HB7 : Hid (Below B w w7) := Lib.hid (HBA.out.grown hg hBA (fun k hk => (HOA.out.lt k hk).1))
  clear hown hg
  refine hK.out _ _ trivial (fun _ => ?_)
  clear hK K
  (try simp only [Act.put])
  refine anyH_take (i := 9) (some 4) (v := _) rfl rfl (by kernel_rfl) (by kernel_rfl) (by kernel_rfl) (fun _ _ _ h => h) (by rfl) trivial (by intro w hSw; go_simp; try with_reducible rfl) ?_
  (try simp only [Act.put])
  refine wpAnyH_done (by kernel_rfl) ?_ _
  repeat (first | go_values | go_skip | go_guarded | go_step | go_upon)
  go_ret
  exact ⟨⟨_, rfl, HO7.out⟩, HB7.out⟩
end Go.Proofs.Ytbmplleojddnmaa
