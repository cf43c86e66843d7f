/- A new state, a copy of one, and what is none. -/
import Derived.Test.YthnnmndanaiggaaDoorHaStir
import Derived.Test.YthnnmndanaiggaaDoorHaSt
namespace Go.Proofs.YthnnmndanaiggaaDoor
open Go.RowKit

set_option maxHeartbeats 4000000 in
set_option maxRecDepth 1000000 in
theorem new_any (w : World) (htab : Tabs w) :
    Calls Tryd.prog 9 #[] w fun e w' => e = .returned (.pointer (some ⟨w.heap.size, 0, none⟩)) ∧ St w' w.heap.size [] ∧ Below w.heap.size w w' := by
  have HT := Lib.hid htab
  clear htab
  have HW : Hid (∀ j v, (u32s startH.words)[j]? = some v → w.cell? ⟨0, 0 + j, none⟩ = some v) := Lib.hid fun j v hv => by
    rw [Nat.zero_add]
    simp only [u32s, List.getElem?_map, Option.map_eq_some_iff] at hv
    obtain ⟨x, hx, rfl⟩ := hv
    exact HT.out.words j x hx
  go_enter Tryd.func9, Tryd.ntmps9
  repeat (first | (refine wpList_load_part rfl 39 (.global 0) rfl 0 0 rfl (u32s startH.words) _ HW.out Tryd.underlying39 rfl (by kernel_rfl) ?_) | (refine wpList_build_said rfl 48 #[(0, .tmp 1)] rfl (stCells startH.words (List.replicate 64 0) 0).toArray (by kernel_rfl) ?_) | go_values | go_skip | go_guarded | go_step)
  go_ret
  exact ⟨rfl, ⟨startH, List.replicate 64 0, arr_new w _ (stCells startH.words (List.replicate 64 0) 0), told_nil, by simp⟩, (Below.refl _ _).alloc (Nat.le_refl _) _⟩

set_option maxHeartbeats 4000000 in
set_option maxRecDepth 1000000 in
theorem copy_any {w : World} {P : Nat} {bs : List Nat} (h : St w P bs) :
    Calls Tryd.prog 12 #[.pointer (some ⟨P, 0, none⟩)] w fun e w' => e = .returned (.pointer (some ⟨w.heap.size, 0, none⟩)) ∧ St w' w.heap.size bs ∧ Below w.heap.size w w' := by
  obtain ⟨s, blk, harr, htold, hb⟩ := h
  obtain ⟨L, hL⟩ : ∃ L, L = stCells s.words blk bs.length := ⟨_, rfl⟩
  have hl : L.toArray.size = 73 := by rw [hL]; simp [stCells_length _ (show s.words.length = 8 from rfl) htold.len]
  have HI : Hid ((Tryd.prog.info? 48).map (·.size) = some L.toArray.size) := Lib.hid (by rw [hl]; kernel_rfl)
  have HALL : Hid (L.toArray.all (·.oneCell') = true) := Lib.hid (by
    rw [hL]; refine all_one fun u hu => ?_
    unfold stCells at hu
    rcases List.mem_append.1 hu with h | h
    · exact u32s_one _ u h
    · rcases List.mem_append.1 h with h | h
      · exact u8s_one _ u h
      · simp at h; subst h; rfl)
  have HSZ : Hid ((stCells (List.replicate 8 0) (List.replicate 64 0) 0).toArray.size = L.toArray.size) := Lib.hid (by rw [hl]; decide +kernel)
  rw [← hL] at harr
  have HA := Lib.hid harr
  have HL := Lib.hid hL
  have HTO := Lib.hid htold
  have HB := Lib.hid hb
  clear harr hL htold hb hl
  go_enter Tryd.func12, Tryd.ntmps12
  repeat (first | (refine wpList_load_row rfl 48 (.tmp 7) rfl P rfl 48 L.toArray (0, 0) _ HA.out Tryd.underlying48 rfl HI.out ?_) | (refine wpList_store_row rfl 48 (.tmp 3) (.tmp 8) rfl w.heap.size L.toArray rfl rfl 48 (stCells (List.replicate 8 0) (List.replicate 64 0) 0).toArray (arr_new w _ (stCells (List.replicate 8 0) (List.replicate 64 0) 0)) HI.out HSZ.out HALL.out ?_; refine wpList_name ?_; intro W1 hW1) | (refine wpList_alloc_zero rfl 48 rfl (stCells (List.replicate 8 0) (List.replicate 64 0) 0) (by kernel_rfl) ?_) | go_values | go_skip | go_guarded | go_step)
  go_ret
  exact ⟨rfl, ⟨s, blk, by rw [← HL.out, hW1.out]; exact setRow_heap _ _ _ _ _ _ (arr_new w _ (stCells (List.replicate 8 0) (List.replicate 64 0) 0)), HTO.out, HB.out⟩, by rw [hW1.out]; exact below_setRow ((Below.refl _ _).alloc (Nat.le_refl _) _) (Nat.le_refl _) _⟩

set_option maxHeartbeats 1000000 in
theorem copy_none (w : World) : Calls Tryd.prog 12 #[.pointer none] w fun e w' => e = .returned (.pointer none) ∧ w' = w := by
  go_enter Tryd.func12, Tryd.ntmps12
  go_wp2
  go_ret
  exact ⟨rfl, rfl⟩
set_option maxHeartbeats 1000000 in
theorem write_none (w : World) (v : Value) : Calls Tryd.prog 10 #[.pointer none, v] w fun e w' => e = .returned (.tuple #[]) ∧ w' = w := by
  go_enter Tryd.func10, Tryd.ntmps10
  go_wp2
  (try simp only [Exit.inBlock, Exit.then])
  refine bodyPost_ret (results_none rfl _ _ _) rfl ?_
  exact ⟨rfl, rfl⟩
end Go.Proofs.YthnnmndanaiggaaDoor
