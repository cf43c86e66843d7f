/- What a state of the program holds: the words so far, a block, how many bytes. -/
import Derived.Test.YtfbnnhailnbmiaaDoorHaLaws
namespace Go.Proofs.YtfbnnhailnbmiaaDoor
open Go.RowKit

/-- the cells of a state -/
def stCells (ws blk : List Nat) (n : Nat) : List Value := u32s ws ++ (u8s blk ++ [.int .u64 (n : Int)])
theorem u32s_length (l : List Nat) : (u32s l).length = l.length := by simp [u32s]
theorem stCells_length {ws blk : List Nat} (n : Nat) (hw : ws.length = 8) (hb : blk.length = 64) : (stCells ws blk n).length = 73 := by simp [stCells, u32s_length, u8s_length, hw, hb]
theorem stCells_word {ws blk : List Nat} {n j : Nat} {v : Value} (h : (u32s ws)[j]? = some v) : (stCells ws blk n)[j]? = some v := by
  have hj := (List.getElem?_eq_some_iff.1 h).1
  rw [stCells, List.getElem?_append_left hj, h]
theorem stCells_byte {ws blk : List Nat} {n j : Nat} {v : Value} (hw : ws.length = 8) (h : (u8s blk)[j]? = some v) : (stCells ws blk n)[8 + j]? = some v := by
  have hj := (List.getElem?_eq_some_iff.1 h).1
  rw [stCells, List.getElem?_append_right (by rw [u32s_length]; omega), u32s_length, hw, show 8 + j - 8 = j by omega, List.getElem?_append_left hj, h]
theorem stCells_count {ws blk : List Nat} {n : Nat} (hw : ws.length = 8) (hb : blk.length = 64) : (stCells ws blk n)[72]? = some (.int .u64 (n : Int)) := by
  rw [stCells, List.getElem?_append_right (by rw [u32s_length]; omega), u32s_length, hw, List.getElem?_append_right (by rw [u8s_length]; omega), u8s_length, hb]; rfl
theorem stCells_set {ws blk : List Nat} {n m : Nat} (hw : ws.length = 8) (hb : blk.length = 64) : (stCells ws blk n).set 72 (.int .u64 (m : Int)) = stCells ws blk m := by
  unfold stCells
  rw [List.set_append, if_neg (by rw [u32s_length]; omega), List.set_append, if_neg (by rw [u32s_length, u8s_length]; omega), u32s_length, u8s_length, hw, hb]; rfl
theorem stCells_words {ws ws' blk : List Nat} {n : Nat} (hw : ws.length = 8) (hw' : ws'.length = 8) : splice (stCells ws blk n) 0 (u32s ws') = stCells ws' blk n := by
  unfold splice stCells
  rw [List.take_zero, List.nil_append, u32s_length, hw', List.drop_append, u32s_length, hw]
  simp [hw, u32s]
theorem stCells_block {ws blk p : List Nat} {n r : Nat} (hw : ws.length = 8) (hb : blk.length = 64) (hr : r + p.length ≤ 64) : splice (stCells ws blk n) (8 + r) (u8s p) = stCells ws (splice blk r p) n := by
  apply List.ext_getElem?
  intro k
  have hsl : (splice blk r p).length = 64 := by rw [length_splice _ _ _ (by omega), hb]
  rw [splice_at _ _ _ (by rw [stCells_length n hw hb]; omega), u8s_length]
  by_cases h1 : k < 8
  · rw [if_pos (by omega), stCells, stCells, List.getElem?_append_left (by rw [u32s_length]; omega), List.getElem?_append_left (by rw [u32s_length]; omega)]
  · have e : ∀ b : List Nat, (stCells ws b n)[k]? = (u8s b ++ [.int .u64 (n : Int)])[k - 8]? := fun b => by
      rw [stCells, List.getElem?_append_right (by rw [u32s_length]; omega), u32s_length, hw]
    rw [e, e]
    by_cases h2 : k - 8 < 64
    · rw [List.getElem?_append_left (by rw [u8s_length]; omega), List.getElem?_append_left (by rw [u8s_length]; omega), u8s_get, u8s_get, u8s_get, splice_at _ _ _ (by omega)]
      by_cases h3 : k - 8 < r
      · rw [if_pos (by omega), if_pos h3]
      · rw [if_neg (by omega), if_neg h3]
        by_cases h4 : k - 8 < r + p.length
        · rw [if_pos (by omega), if_pos h4, show k - (8 + r) = k - 8 - r by omega]
        · rw [if_neg (by omega), if_neg h4]
    · rw [if_neg (by omega), if_neg (by omega), List.getElem?_append_right (by rw [u8s_length]; omega), List.getElem?_append_right (by rw [u8s_length]; omega), u8s_length, u8s_length, hb, hsl]

/-! ### What was told -/
theorem foldB_left : ∀ (q : Nat) (s : Hs) (l m : List Nat), 64 * q ≤ l.length → foldB q s (l ++ m) = foldB q s l
  | 0, _, _, _, _ => rfl
  | q + 1, s, l, m, h => by
    rw [foldB, foldB, List.take_append_of_le_length (by omega), List.drop_append_of_le_length (by omega)]
    exact foldB_left q _ _ _ (by rw [List.length_drop]; omega)
structure Told (s : Hs) (blk bs : List Nat) : Prop where
  words : s = foldB (bs.length / 64) startH bs
  len : blk.length = 64
  byte : ∀ x ∈ blk, x < 256
  rest : blk.take (bs.length % 64) = bs.drop (64 * (bs.length / 64))
theorem Told.ok {s : Hs} {blk bs : List Nat} (h : Told s blk bs) : s.ok := by rw [h.words]; exact foldB_ok _ startH_ok _
theorem told_nil : Told startH (List.replicate 64 0) [] := ⟨rfl, by simp, fun x hx => by rw [(List.mem_replicate.1 hx).2]; decide, rfl⟩
theorem splice_byte {blk p : List Nat} {r : Nat} (hb : ∀ x ∈ blk, x < 256) (hp : ∀ x ∈ p, x < 256) : ∀ x ∈ splice blk r p, x < 256 := by
  intro x hx
  unfold splice at hx
  rcases List.mem_append.1 hx with h | h
  · exact hb x (List.mem_of_mem_take h)
  · rcases List.mem_append.1 h with h | h
    · exact hp x h
    · exact hb x (List.mem_of_mem_drop h)
theorem told_some {s : Hs} {blk bs p : List Nat} (h : Told s blk bs) (hp : ∀ x ∈ p, x < 256) (hr : bs.length % 64 + p.length < 64) : Told s (splice blk (bs.length % 64) p) (bs ++ p) := by
  have hq : (bs ++ p).length / 64 = bs.length / 64 := by rw [List.length_append]; omega
  have hm : (bs ++ p).length % 64 = bs.length % 64 + p.length := by rw [List.length_append]; omega
  have hl := h.len
  refine ⟨?_, by rw [length_splice _ _ _ (by omega), h.len], splice_byte h.byte hp, ?_⟩
  · rw [hq, foldB_left _ _ _ _ (by omega)]; exact h.words
  · rw [hq, hm, List.drop_append_of_le_length (by omega), ← h.rest]
    unfold splice
    rw [← List.append_assoc, List.take_append_of_le_length (by simp; omega)]
    apply List.take_of_length_le
    simp; omega
theorem told_full {s : Hs} {blk bs p : List Nat} (h : Told s blk bs) (hp : ∀ x ∈ p, x < 256) (hr : bs.length % 64 + p.length = 64) : Told (comp s (splice blk (bs.length % 64) p)) (splice blk (bs.length % 64) p) (bs ++ p) := by
  have hq : (bs ++ p).length / 64 = bs.length / 64 + 1 := by rw [List.length_append]; omega
  have hm : (bs ++ p).length % 64 = 0 := by rw [List.length_append]; omega
  have hl := h.len
  have hsp : splice blk (bs.length % 64) p = bs.drop (64 * (bs.length / 64)) ++ p := by
    unfold splice
    rw [hr, List.drop_of_length_le (by omega), List.append_nil, h.rest]
  refine ⟨?_, by rw [length_splice _ _ _ (by omega), h.len], splice_byte h.byte hp, ?_⟩
  · rw [hq, foldB_succ, foldB_left _ _ _ _ (by omega), ← h.words, hsp, List.drop_append_of_le_length (by omega), List.take_of_length_le (by simp; omega)]
  · rw [hq, hm, List.take_zero, List.drop_of_length_le (by rw [List.length_append]; omega)]

/-- at P a state that has been told bs -/
def St (w : World) (P : Nat) (bs : List Nat) : Prop := ∃ s blk, Arr w P 59 (stCells s.words blk bs.length) ∧ Told s blk bs ∧ (∀ x ∈ bs, x < 256)
theorem St.only {S : Nat → Prop} {w w' : World} {P : Nat} {bs : List Nat} (h : St w P bs) (ho : Only S w w') (hS : ¬ S P) : St w' P bs := by
  obtain ⟨s, blk, h1, h2⟩ := h
  exact ⟨s, blk, h1.only ho hS, h2⟩
theorem St.beyond {w w' : World} {P : Nat} {bs : List Nat} (h : St w P bs) (hb : Below w.heap.size w w') : St w' P bs := h.only (only_beyond (S := fun _ => False) hb) (fun h => h)
theorem St.lt {w : World} {P : Nat} {bs : List Nat} (h : St w P bs) : P < w.heap.size := by obtain ⟨s, blk, h1, _⟩ := h; exact h1.lt

set_option maxHeartbeats 2000000 in
theorem left_cell {w : World} {P n : Nat} (c1 : w.cell? ⟨P, 72, none⟩ = some (.int .u64 (n : Int))) (hn : n < 1000000000000) :
    Calls Tryd.prog 31 #[.pointer (some ⟨P, 0, none⟩)] w fun e w' => e = .returned (.int .i64 ((n % 64 : Nat) : Int)) ∧ w' = w := by
  have e1 : Int.tmod (n : Int) 64 = ((n % 64 : Nat) : Int) := by rw [Int.tmod_eq_emod_of_nonneg (by omega)]; omega
  go_enter Tryd.func31, Tryd.ntmps31
  go_wp2
  go_ret
  exact ⟨ret_i64 (by omega), rfl⟩
theorem left_any {w : World} {P : Nat} {bs : List Nat} (h : St w P bs) (hn : bs.length < 1000000000000) :
    Calls Tryd.prog 31 #[.pointer (some ⟨P, 0, none⟩)] w fun e w' => e = .returned (.int .i64 ((bs.length % 64 : Nat) : Int)) ∧ w' = w := by
  obtain ⟨s, blk, h1, h2, _⟩ := h
  exact left_cell (h1.cell (stCells_count (n := bs.length) (ws := s.words) rfl h2.len)) hn
end Go.Proofs.YtfbnnhailnbmiaaDoor
