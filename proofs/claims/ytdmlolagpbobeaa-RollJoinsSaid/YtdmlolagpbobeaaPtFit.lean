/- Points, and aggregates, that came in: their capacity holds their length; parts of them. No function of the program. -/
import Derived.Test.YtdmlolagpbobeaaPtRow
import Derived.Test.YtdmlolagpbobeaaAgAt
namespace Go.Proofs.Ytdmlolagpbobeaa
open Go.RowKit Go.Deep Go.ChangeShapes Go.WideShapes

theorem open_fits {H : Type} {enc : TypeId × Value → H} {W : World} {spare : Nat → Bool} {held : Bool} {v : Value} {d : DataW H} {ps : List MemPlace} {r : Reach} {b0 : Nat} {t e : TypeId} (ht : Try.prog.underlying t = some (.slice e)) (hval : Value.okWide Try.prog W r b0 t v)
    (hd : DataW.Trod enc Try.prog W 0 spare held t v d ps) : Fits v := by
  obtain ⟨a, len, cap, rfl⟩ := okWide_slice ht hval
  obtain ⟨fuel, hf⟩ := hd
  refine fits_slice ?_
  rcases open_slice ht hf with ⟨hcs, _⟩ | ⟨ad, len', cap', m, n, D, Pl, hcs, _, hl, hm, hmm, _, hel⟩
  · simp [Value.cells] at hcs
    omega
  · simp [Value.cells] at hcs
    obtain ⟨rfl, rfl, rfl⟩ := hcs
    first | exact hl | omega
theorem open_pts2 {H : Type} {enc : TypeId × Value → H} {W : World} {spare : Nat → Bool} {held : Bool} {v : Value} {d : DataW H} {ps : List MemPlace} {r : Reach} {b0 : Nat} (hval : Value.okWide Try.prog W r b0 22 v)
    (hd : DataW.Trod enc Try.prog W 0 spare held 22 v d ps) : ∃ l : List Pt, PLies W v l ∧ Fits v ∧ (∀ t ∈ l, t.fits) ∧ l.length ≤ maxLen := by
  obtain ⟨l, h1, h2, h3⟩ := open_pts hval hd
  exact ⟨l, h1, open_fits Try.underlying22 hval hd, h2, h3⟩
theorem open_aggs2 {H : Type} {enc : TypeId × Value → H} {W : World} {spare : Nat → Bool} {held : Bool} {v : Value} {d : DataW H} {ps : List MemPlace} {r : Reach} {b0 : Nat} (hval : Value.okWide Try.prog W r b0 34 v)
    (hd : DataW.Trod enc Try.prog W 0 spare held 34 v d ps) : ∃ l : List Ag, ALies W v l ∧ Fits v ∧ (∀ t ∈ l, t.fits) ∧ l.length ≤ maxLen := by
  obtain ⟨l, h1, h2, h3⟩ := open_aggs hval hd
  exact ⟨l, h1, open_fits Try.underlying34 hval hd, h2, h3⟩
theorem row_fits {w : World} {B s : Nat} {e : TypeId} {v : Value} {n : Nat} {xs : List Value} (h : w.ownsRow B e s v n xs) : Fits v := by
  rcases h.2 with ⟨rfl, h0⟩ | ⟨g, cap, cur, rfl, _, _, hnc, _⟩
  · exact fits_slice (by omega)
  · exact fits_slice hnc
/-! ### Parts -/
theorem part_len {α : Type} (l : List α) {i j : Nat} (hj : j ≤ l.length) : ((l.drop i).take (j - i)).length = j - i := by rw [List.length_take, List.length_drop]; omega
theorem pts_part {w : World} {b off : Nat} {l : List Pt} (h : PtsAt w b off l) {i j : Nat} (hj : j ≤ l.length) (c : Nat) : PLies w (.slice (some ⟨b, off + i * 2, none⟩) (j - i) c) ((l.drop i).take (j - i)) :=
  ⟨some ⟨b, off + i * 2, none⟩, b, off + i * 2, c, by rw [part_len l hj], fun _ => rfl, pts_take _ (pts_drop i h)⟩
theorem ags_drop {w : World} {g off : Nat} {x : List Ag} (j : Nat) (h : AgsAt w g off x) : AgsAt w g (off + j * 5) (x.drop j) := fun i t ht => by
  rw [List.getElem?_drop] at ht
  have h0 := h _ _ ht
  rw [show off + j * 5 + i * 5 = off + (j + i) * 5 by omega]
  exact h0
theorem ags_take {w : World} {g off : Nat} {x : List Ag} (j : Nat) (h : AgsAt w g off x) : AgsAt w g off (x.take j) := fun i t ht => by
  rw [List.getElem?_take] at ht
  split at ht
  · exact h _ _ ht
  · simp at ht
theorem ags_part {w : World} {b off : Nat} {l : List Ag} (h : AgsAt w b off l) {i j : Nat} (hj : j ≤ l.length) (c : Nat) : ALies w (.slice (some ⟨b, off + i * 5, none⟩) (j - i) c) ((l.drop i).take (j - i)) :=
  ⟨some ⟨b, off + i * 5, none⟩, b, off + i * 5, c, by rw [part_len l hj], fun _ => rfl, ags_take _ (ags_drop i h)⟩
theorem mem_part {α : Type} {l : List α} {i n : Nat} {x : α} (h : x ∈ (l.drop i).take n) : x ∈ l := List.mem_of_mem_drop (List.mem_of_mem_take h)
end Go.Proofs.Ytdmlolagpbobeaa
