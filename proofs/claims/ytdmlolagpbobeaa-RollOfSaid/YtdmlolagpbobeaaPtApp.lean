/- append of points to a row of one's own: where it lies, too. -/
import Derived.Test.YtdmlolagpbobeaaPtOwn
namespace Go.Proofs.Ytdmlolagpbobeaa
open Go.RowKit

/-- points to be appended: nil, or at a place -/
def SrcP (w : World) (y : Value) (bs : List Pt) : Prop := (y = .slice none 0 0 ∧ bs = []) ∨ ∃ ad c, y = .slice (some ad) bs.length c ∧ ∀ j u, (bs.flatMap Pt.cells)[j]? = some u → w.cell? (ad.add j) = some u
theorem PtRowB.src {B : Nat} {w : World} {v : Value} {l : List Pt} (h : PtRowB B w v l) : SrcP w v l := by
  rcases h.opened with ⟨rfl, rfl⟩ | ⟨g, cap, R, rfl, _, hg, _⟩
  · exact .inl ⟨rfl, rfl⟩
  · refine .inr ⟨_, cap, rfl, fun j u hu => ?_⟩
    rw [add_at, Nat.zero_add]
    exact hg.cell (by rw [List.getElem?_append_left (List.getElem?_eq_some_iff.1 hu).1]; exact hu)
theorem SrcP.keep {w w' : World} {y : Value} {bs : List Pt} (h : SrcP w y bs) (hb : Below w.heap.size w w') : SrcP w' y bs := by
  rcases h with h | ⟨ad, c, h1, h2⟩
  · exact .inl h
  · refine .inr ⟨ad, c, h1, fun j u hu => ?_⟩
    have h3 := h2 j u hu
    rw [← h3]
    exact World.cell?_of_block (w := w) (hb.block _ (cell_lt h3))
theorem wpList_append_pts {w : World} {ops : Array Oper} {rest : List Oper} {o : Oper} {a : Act} {Q : Exit → Act → World → Prop} (hgd : o.guard = none) (sl x : Operand)
    (ho : o.op = .call { callee := .builtin .append, args := #[sl, x], argTypes := #[22, 22] }) (B : Nat) (v : Value) (l : List Pt) (hs : a.eval sl = v) (hown : PtRowB B w v l)
    (y : Value) (bs : List Pt) (hx : a.eval x = y) (hsrc : SrcP w y bs) (hb : l.length + bs.length ≤ 1000000) (hB : B ≤ w.heap.size)
    (h : ∀ v' w', Hid (PtRowB B w' v' (l ++ bs)) → Hid (w.grownBy w' v.ownBlock) → wpList Try.prog ops Q rest (a.put o.dst v') w') : wpList Try.prog ops Q (o :: rest) a w := by
  obtain ⟨i0, hi, hz0, hz1, hz2⟩ := info_parts infoPt
  rcases hsrc with ⟨rfl, rfl⟩ | ⟨ad, c, rfl, hc⟩
  · refine wpList_append_own_none (P := Try.prog) hgd sl x 22 ho B 31 i0 2 Try.underlying22 hi v _ _ hs hown hx ?_
    exact h v w (by rw [List.append_nil]; exact hown) ⟨rfl, rfl, rfl, Nat.le_refl _, fun _ _ _ => rfl⟩
  · refine wpList_append_own_at _ hgd sl x 22 ho B 31 i0 (.agg #[.int .i64 0, .int .i64 0]) 2 16 Try.underlying22 hi hz0 hz1 hz2 rfl (by decide) _ _ _ hs hown ad bs.length c (bs.flatMap Pt.cells) hx (flatP_length bs) hc (flatP_one bs) (by unfold maxLen; omega) (by omega) hB ?_
    intro v' w' h1 h2 _ _
    refine h v' w' ?_ h2
    show w'.ownsRow B _ 2 v' (l ++ bs).length ((l ++ bs).flatMap Pt.cells)
    rw [List.length_append, List.flatMap_append]; exact h1
/-- what append gives, whatever operation asks for it -/
theorem app_pts {w : World} {B : Nat} {v y : Value} {l bs : List Pt} (ty : TypeId) (hown : PtRowB B w v l) (hsrc : SrcP w y bs) (hb : l.length + bs.length ≤ 1000000) (hB : B ≤ w.heap.size) :
    ∃ v' w', (Builtin.append_ #[22, 22] ty #[v, y]).run Try.prog w = .ok v' w' ∧ PtRowB B w' v' (l ++ bs) ∧ Below B w w' := by
  obtain ⟨i0, hi, hz0, hz1, hz2⟩ := info_parts infoPt
  rcases hsrc with ⟨rfl, rfl⟩ | ⟨ad, c, rfl, hc⟩
  · exact ⟨v, w, run_append_owned_none (P := Try.prog) (w := w) B 22 ty 31 i0 2 Try.underlying22 hi v _ _ hown, by rw [List.append_nil]; exact hown, Below.refl _ _⟩
  · obtain ⟨v', w', hr, h1, h2, _, _⟩ := run_append_own_at (P := Try.prog) (w := w) B 22 ty 31 i0 (.agg #[.int .i64 0, .int .i64 0]) 2 16 Try.underlying22 hi hz0 hz1 hz2 rfl (by decide) v _ _ hown ad bs.length c (bs.flatMap Pt.cells) (flatP_length bs) hc (flatP_one bs) (by unfold maxLen; omega) (by omega) hB
    refine ⟨v', w', hr, ?_, (Below.refl B w).grown h2 hB (fun b hb => (hown.lt b hb).1)⟩
    show w'.ownsRow B _ 2 v' (l ++ bs).length ((l ++ bs).flatMap Pt.cells)
    rw [List.length_append, List.flatMap_append]; exact h1
theorem own_emptyP (w : World) : PtRowB w.heap.size (w.alloc (.cells #[] 31)) (.slice (some ⟨w.heap.size, 0, none⟩) 0 0) [] := World.ownsRow_made w #[] 0 (Nat.le_refl _) (Nat.zero_le _) rfl
end Go.Proofs.Ytdmlolagpbobeaa
