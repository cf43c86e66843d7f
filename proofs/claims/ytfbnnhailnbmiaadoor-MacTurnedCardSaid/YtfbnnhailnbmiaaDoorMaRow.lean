/- The row that []byte of a text makes: its bytes may be changed. -/
import Derived.Test.YtfbnnhailnbmiaaDoorMaLives
namespace Go.Proofs.YtfbnnhailnbmiaaDoor
open Go.RowKit

/-- at g a row whose first bytes are l, none of them frozen -/
def MRow (w : World) (g : Nat) (l : List Nat) : Prop := ∃ cells fr, w.heap[g]? = some (.cells cells 5 fr) ∧ l.length ≤ cells.size ∧ l.length ≤ fr.1 ∧ ∀ j, j < l.length → cells[j]? = some (.int .u8 ((l.getD j 0 : Nat) : Int))
theorem text_row (w : World) (s : ByteArray) : ∃ W b cap, (convert 9 22 (.string s)).run Tryd.prog w = .ok (.slice (some ⟨b, 0, none⟩) s.size cap) W ∧ s.size ≤ cap ∧ Below w.heap.size w W ∧ w.heap.size ≤ b ∧ MRow W b (ordsOf s) := by
  have hsz : s.size ≤ (Lib.bytesCells w 5 s).size := by
    unfold Lib.bytesCells
    rw [Array.size_append, Array.size_map]
    exact Nat.le_add_right _ _
  refine ⟨Lib.bytesWorld w 5 s, w.heap.size, _, Lib.run_convert_string_bytes w 9 22 5 s Tryd.underlying9 Tryd.underlying22 Tryd.underlying5, grownCap_ge _ _ _ _, ⟨rfl, rfl, rfl, by rw [Lib.bytesWorld_size]; omega, fun k hk => Lib.bytesWorld_at_old w _ s k hk⟩, Nat.le_refl _, _, _, Lib.bytesWorld_at_new w 5 s, by rw [ordsOf_length]; exact hsz, by rw [ordsOf_length]; exact hsz, fun j hj => ?_⟩
  rw [ordsOf_length] at hj
  have hj2 : j < s.data.size := hj
  unfold Lib.bytesCells
  rw [Array.getElem?_append_left (by rw [Array.size_map]; exact hj2), Array.getElem?_map, Array.getElem?_eq_getElem hj2]
  simp only [ordsOf, List.getD, List.getElem?_map, Array.getElem?_toList, Array.getElem?_eq_getElem hj2, Option.map_some, Option.getD_some]
theorem MRow.cell {w : World} {g : Nat} {l : List Nat} (h : MRow w g l) {j : Nat} (hj : j < l.length) : w.cell? ⟨g, j, none⟩ = some (.int .u8 ((l.getD j 0 : Nat) : Int)) := by
  obtain ⟨cells, fr, h1, _, _, h4⟩ := h
  rw [cell_of_row w g j _ _ _ h1, h4 j hj]
theorem MRow.lies {w : World} {g cap : Nat} {l : List Nat} (h : MRow w g l) : Lies w (.slice (some ⟨g, 0, none⟩) l.length cap) l := .inr (.inr ⟨g, 0, cap, rfl, fun j hj => by rw [Nat.zero_add]; exact h.cell hj⟩)
theorem MRow.free {w : World} {g : Nat} {l : List Nat} (h : MRow w g l) {j : Nat} (hj : j < l.length) : w.frozen? ⟨g, j, none⟩ = false := by
  obtain ⟨cells, ⟨f1, f2⟩, h1, _, h3, _⟩ := h
  simp only [World.frozen?, h1]
  have : ¬ f1 ≤ j := by have : l.length ≤ f1 := h3; omega
  simp [this]
theorem MRow.set {w : World} {g : Nat} {l : List Nat} (h : MRow w g l) (i z : Nat) : MRow (w.setCell ⟨g, i, none⟩ (.int .u8 (z : Int))) g (l.set i z) := by
  obtain ⟨cells, fr, h1, h2, h3, h4⟩ := h
  refine ⟨cells.setIfInBounds i (.int .u8 (z : Int)), fr, ?_, by simpa using h2, by simpa using h3, fun j hj => ?_⟩
  · rw [setCell_eq_setRow w g i cells _ fr _ h1]
    exact setRow_heap _ _ _ _ _ _ h1
  · rw [List.length_set] at hj
    rw [Array.getElem?_setIfInBounds]
    by_cases hij : i = j
    · subst hij
      rw [if_pos rfl, if_pos (by omega)]
      simp [List.getD, hj]
    · rw [if_neg hij, h4 j hj]
      simp [List.getD, hij]
theorem MRow.lt {w : World} {g : Nat} {l : List Nat} (h : MRow w g l) : g < w.heap.size := by
  obtain ⟨cells, fr, h1, _⟩ := h
  exact (Array.getElem?_eq_some_iff.1 h1).1
theorem MRow.beyond {w w' : World} {g : Nat} {l : List Nat} (h : MRow w g l) (hb : Below w.heap.size w w') : MRow w' g l := by
  have h0 := h.lt
  obtain ⟨cells, fr, h1, h2⟩ := h
  exact ⟨cells, fr, (hb.block g h0).trans h1, h2⟩

/-- a token with one sign another is no name's -/
theorem turned_none {key nm : List Nat} {k z : Nat} (hk : k < 32) (hz : z ≠ (endB key nm).getD k 0) (hz2 : z ≠ 46) (m : List Nat) : (tokenB key nm).set (nm.length + 1 + k) z ≠ tokenB key m := by
  intro h
  have e : (tokenB key nm).set (nm.length + 1 + k) z = nm ++ 46 :: (endB key nm).set k z := by
    rw [tokenB, List.set_append, if_neg (by omega), show nm.length + 1 + k - nm.length = k + 1 by omega, List.set_cons_succ]
  rw [e] at h
  have hd : 46 ∉ (endB key nm).set k z := fun hm => by
    rcases List.mem_or_eq_of_mem_set hm with h1 | h1
    · exact endB_dot key nm h1
    · exact hz2 h1.symm
  obtain ⟨rfl, h2⟩ := dot_once h hd (endB_dot key m)
  have hl : k < (endB key nm).length := by rw [endB_len]; exact hk
  have h3 := congrArg (fun l => l.getD k 0) h2
  simp only [List.getD, List.getElem?_set_self hl, Option.getD_some] at h3
  exact hz h3
theorem token_at {key nm : List Nat} {k : Nat} : (tokenB key nm).getD (nm.length + 1 + k) 0 = (endB key nm).getD k 0 := by
  simp only [List.getD, tokenB]
  rw [List.getElem?_append_right (by omega), show nm.length + 1 + k - nm.length = k + 1 by omega, List.getElem?_cons_succ]
end Go.Proofs.YtfbnnhailnbmiaaDoor
