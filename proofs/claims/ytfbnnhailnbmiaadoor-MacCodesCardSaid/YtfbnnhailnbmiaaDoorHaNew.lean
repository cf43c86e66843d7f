/- A new state, and what is written to none. -/
import Derived.Test.YtfbnnhailnbmiaaDoorHaStir
import Derived.Test.YtfbnnhailnbmiaaDoorHaSt
namespace Go.Proofs.YtfbnnhailnbmiaaDoor
open Go.RowKit

set_option maxHeartbeats 4000000 in
set_option maxRecDepth 1000000 in
theorem new_any (w : World) (htab : Tabs w) :
    Calls Tryd.prog 21 #[] w fun e w' => e = .returned (.pointer (some ⟨w.heap.size, 0, none⟩)) ∧ St w' w.heap.size [] ∧ Below w.heap.size w w' := by
  have HT := Lib.hid htab
  clear htab
  have HW : Hid (∀ j v, (u32s startH.words)[j]? = some v → w.cell? ⟨0, 0 + j, none⟩ = some v) := Lib.hid fun j v hv => by
    rw [Nat.zero_add]
    simp only [u32s, List.getElem?_map, Option.map_eq_some_iff] at hv
    obtain ⟨x, hx, rfl⟩ := hv
    exact HT.out.words j x hx
  go_enter Tryd.func21, Tryd.ntmps21
  repeat (first | (refine wpList_load_part rfl 50 (.global 0) rfl 0 0 rfl (u32s startH.words) _ HW.out Tryd.underlying50 rfl (by kernel_rfl) ?_) | (refine wpList_build_said rfl 59 #[(0, .tmp 1)] rfl (stCells startH.words (List.replicate 64 0) 0).toArray (by kernel_rfl) ?_) | go_values | go_skip | go_guarded | go_step)
  go_ret
  exact ⟨rfl, ⟨startH, List.replicate 64 0, arr_new w _ (stCells startH.words (List.replicate 64 0) 0), told_nil, by simp⟩, (Below.refl _ _).alloc (Nat.le_refl _) _⟩

set_option maxHeartbeats 1000000 in
theorem write_none (w : World) (v : Value) : Calls Tryd.prog 22 #[.pointer none, v] w fun e w' => e = .returned (.tuple #[]) ∧ w' = w := by
  go_enter Tryd.func22, Tryd.ntmps22
  go_wp2
  (try simp only [Exit.inBlock, Exit.then])
  refine bodyPost_ret (results_none rfl _ _ _) rfl ?_
  exact ⟨rfl, rfl⟩
end Go.Proofs.YtfbnnhailnbmiaaDoor
