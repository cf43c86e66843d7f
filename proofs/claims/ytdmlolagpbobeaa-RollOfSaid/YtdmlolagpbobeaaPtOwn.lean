/- Rows of points of one's own. No function of the program. -/
import Derived.Test.YtdmlolagpbobeaaPtRow
import Derived.Test.YtdmlolagpbobeaaGenOpC
import Derived.Maps.AppendAt
namespace Go.Proofs.Ytdmlolagpbobeaa
open Go.RowKit

/-- a row of points of one's own, at base B -/
def PtRowB (B : Nat) (w : World) (v : Value) (l : List Pt) : Prop := w.ownsRow B 31 2 v l.length (l.flatMap Pt.cells)
theorem PtRowB.keep {B : Nat} {w w' : World} {v : Value} {l : List Pt} (h : PtRowB B w v l) (hb : Below w.heap.size w w') : PtRowB B w' v l := ownsRow_beyond h hb
theorem PtRowB.base {B B' : Nat} {w : World} {v : Value} {l : List Pt} (h : PtRowB B w v l) (hB : B' ≤ B) : PtRowB B' w v l := row_base h hB
theorem PtRowB.plies {B : Nat} {w : World} {v : Value} {l : List Pt} (h : PtRowB B w v l) : PLies w v l := plies_row h
theorem PtRowB.nil (B : Nat) (w : World) : PtRowB B w (.slice none 0 0) [] := World.ownsRow_nil _ _ _ _
theorem PtRowB.opened {B : Nat} {w : World} {v : Value} {l : List Pt} (h : PtRowB B w v l) : (v = .slice none 0 0 ∧ l = []) ∨ ∃ g cap R, v = .slice (some ⟨g, 0, none⟩) l.length cap ∧ B ≤ g ∧ Arr w g 31 (l.flatMap Pt.cells ++ R) ∧ R.length = (cap - l.length) * 2 ∧ l.length ≤ cap ∧ cap ≤ maxLen := by
  rcases h.2 with ⟨rfl, h0⟩ | ⟨g, cap, cur, rfl, hb, hg, hnc, hcm, hcs, ht⟩
  · exact .inl ⟨rfl, List.length_eq_zero_iff.1 h0⟩
  · refine .inr ⟨g, cap, cur.toList.drop (l.length * 2), rfl, hb, ?_, ?_, hnc, hcm⟩
    · show _ = _
      rw [← ht, List.take_append_drop, Array.toArray_toList]; exact hg
    · rw [List.length_drop, Array.length_toList, hcs]; omega
theorem PtRowB.shut {B : Nat} {w : World} {g cap : Nat} {l : List Pt} {R : List Value} (hb : B ≤ g) (hg : Arr w g 31 (l.flatMap Pt.cells ++ R)) (hR : R.length = (cap - l.length) * 2) (hnc : l.length ≤ cap) (hcm : cap ≤ maxLen) : PtRowB B w (.slice (some ⟨g, 0, none⟩) l.length cap) l := by
  refine ⟨flatP_length l, .inr ⟨g, cap, _, rfl, hb, hg, hnc, hcm, ?_, ?_⟩⟩
  · rw [List.size_toArray, List.length_append, flatP_length, hR]; omega
  · rw [List.take_append, List.take_of_length_le (by rw [flatP_length]; omega), flatP_length, Nat.sub_self, List.take_zero, List.append_nil]
theorem PtRowB.far {B vb : Nat} {w : World} {v : Value} {l : List Pt} (h : PtRowB B w v l) (hvb : w.heap.size ≤ vb) : v.ownBlock ≠ some vb := fun e => by have := (h.lt _ e).2; omega
end Go.Proofs.Ytdmlolagpbobeaa
