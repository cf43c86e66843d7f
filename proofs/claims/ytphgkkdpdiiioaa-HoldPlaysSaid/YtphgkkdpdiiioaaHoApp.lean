/- append of holds to a row of one's own. -/
import Derived.Test.YtphgkkdpdiiioaaHoAll
import Derived.Maps.AppendAt
namespace Go.Proofs.Ytphgkkdpdiiioaa
open Go.RowKit

theorem flatH_length (l : List Hld) : (l.flatMap Hld.cells).length = l.length * 4 := by
  induction l with
  | nil => rfl
  | cons x l ih => rw [List.flatMap_cons, List.length_append, ih, List.length_cons]; simp [Hld.cells]; omega
theorem flatH_one (l : List Hld) : ∀ u ∈ l.flatMap Hld.cells, u.oneCell' = true := by
  intro u hu
  obtain ⟨x, _, hx⟩ := List.mem_flatMap.1 hu
  simp [Hld.cells] at hx
  rcases hx with rfl | rfl | rfl | rfl <;> rfl
theorem HoRow.opened {B : Nat} {w : World} {v : Value} {l : List Hld} (h : HoRow B w v l) : (v = .slice none 0 0 ∧ l = []) ∨ ∃ g cap R, v = .slice (some ⟨g, 0, none⟩) l.length cap ∧ B ≤ g ∧ Arr w g 30 (l.flatMap Hld.cells ++ R) ∧ R.length = (cap - l.length) * 4 ∧ l.length ≤ cap ∧ cap ≤ maxLen := by
  rcases h.2 with ⟨rfl, h0⟩ | ⟨g, cap, cur, rfl, hb, hg, hnc, hcm, hcs, ht⟩
  · exact .inl ⟨rfl, List.length_eq_zero_iff.1 h0⟩
  · refine .inr ⟨g, cap, cur.toList.drop (l.length * 4), rfl, hb, ?_, ?_, hnc, hcm⟩
    · show _ = _
      rw [← ht, List.take_append_drop, Array.toArray_toList]; exact hg
    · rw [List.length_drop, Array.length_toList, hcs]; omega
theorem HoRow.lies {B : Nat} {w : World} {v : Value} {l : List Hld} (h : HoRow B w v l) : HLies w v l := by
  rcases h.opened with ⟨rfl, rfl⟩ | ⟨g, cap, R, rfl, _, hg, _⟩
  · exact ⟨none, 0, 0, 0, rfl, fun h => absurd rfl h, fun i x h => by simp at h⟩
  · refine ⟨_, g, 0, cap, rfl, fun _ => rfl, fun i x hx j u hu => ?_⟩
    have hj : j < 4 := by have := (List.getElem?_eq_some_iff.1 hu).1; simpa [Hld.cells] using this
    have hi := (List.getElem?_eq_some_iff.1 hx).1
    rw [Nat.zero_add]
    exact hg.cell (by rw [List.getElem?_append_left (by rw [flatH_length]; omega), flat_four hx hj]; exact hu)
/-- holds to be appended: nil, or at a place -/
def SrcH (w : World) (y : Value) (bs : List Hld) : Prop := (y = .slice none 0 0 ∧ bs = []) ∨ ∃ ad c, y = .slice (some ad) bs.length c ∧ ∀ j u, (bs.flatMap Hld.cells)[j]? = some u → w.cell? (ad.add j) = some u
theorem SrcH.keep {w w' : World} {y : Value} {bs : List Hld} (h : SrcH w y bs) (hb : Below w.heap.size w w') : SrcH w' y bs := by
  rcases h with h | ⟨ad, c, h1, h2⟩
  · exact .inl h
  · refine .inr ⟨ad, c, h1, fun j u hu => ?_⟩
    have h3 := h2 j u hu
    rw [← h3]
    exact World.cell?_of_block (w := w) (hb.block _ (cell_lt h3))
theorem srcH_one (W : World) (h : Hld) : SrcH (W.alloc (.cells #[.string h.name, .string h.ser, .int .i64 h.a, .int .i64 h.b] 30)) (.slice (some ⟨W.heap.size, 0, none⟩) 1 1) [h] :=
  .inr ⟨_, 1, rfl, fun j u hu => by simpa using four_ho W h.name h.ser h.a h.b j u (by simpa [Hld.cells] using hu)⟩
theorem app_hos {w : World} {B : Nat} {v y : Value} {l bs : List Hld} (ty : TypeId) (hown : HoRow B w v l) (hsrc : SrcH w y bs) (hb : l.length + bs.length ≤ 1000000) (hB : B ≤ w.heap.size) :
    ∃ v' w', (Builtin.append_ #[28, 28] ty #[v, y]).run Try.prog w = .ok v' w' ∧ HoRow B w' v' (l ++ bs) ∧ w.grownBy w' v.ownBlock ∧ (v'.ownBlock = v.ownBlock ∨ v'.ownBlock = some w.heap.size) := by
  obtain ⟨i0, hi, hz0, hz1, hz2⟩ := infoHo_parts
  rcases hsrc with ⟨rfl, rfl⟩ | ⟨ad, c, rfl, hc⟩
  · exact ⟨v, w, run_append_owned_none (P := Try.prog) (w := w) B 28 ty 30 i0 4 Try.underlying28 hi v _ _ hown, by rw [List.append_nil]; exact hown, ⟨rfl, rfl, rfl, Nat.le_refl _, fun _ _ _ => rfl⟩, .inl rfl⟩
  · obtain ⟨v', w', hr, h1, h2, _, h3⟩ := run_append_own_at (P := Try.prog) (w := w) B 28 ty 30 i0 (.agg #[.string ⟨#[]⟩, .string ⟨#[]⟩, .int .i64 0, .int .i64 0]) 4 48 Try.underlying28 hi hz0 hz1 hz2 rfl (by decide) v _ _ hown ad bs.length c (bs.flatMap Hld.cells) (flatH_length bs) hc (flatH_one bs) (by unfold maxLen; omega) (by omega) hB
    refine ⟨v', w', hr, ?_, h2, h3⟩
    show w'.ownsRow B _ 4 v' (l ++ bs).length ((l ++ bs).flatMap Hld.cells)
    rw [List.length_append, List.flatMap_append]; exact h1
theorem wpList_append_hos {w : World} {ops : Array Oper} {rest : List Oper} {o : Oper} {a : Act} {Q : Exit → Act → World → Prop} (hgd : o.guard = none) (sl x : Operand)
    (ho : o.op = .call { callee := .builtin .append, args := #[sl, x], argTypes := #[28, 28] }) (B : Nat) (v : Value) (l : List Hld) (hs : a.eval sl = v) (hown : HoRow B w v l)
    (y : Value) (bs : List Hld) (hx : a.eval x = y) (hsrc : SrcH w y bs) (hb : l.length + bs.length ≤ 1000000) (hB : B ≤ w.heap.size)
    (h : ∀ v' w', Hid (HoRow B w' v' (l ++ bs)) → Hid (w.grownBy w' v.ownBlock) → Hid (v'.ownBlock = v.ownBlock ∨ v'.ownBlock = some w.heap.size) → wpList Try.prog ops Q rest (a.put o.dst v') w') : wpList Try.prog ops Q (o :: rest) a w := by
  obtain ⟨v', w', hr, h1, h2, h3⟩ := app_hos o.type hown hsrc hb hB
  refine wpList_plain hgd fun K' hK' => ?_
  unfold Oper.wp
  simp [execOp, ho, resolve, invoke, builtin, hs, hx, hr, Result.andThen]
  exact hK' _ _ (h _ _ h1 h2 h3)
/-- append in a region that draws its order -/
theorem step_append_hos {w : World} {ops : Array Oper} {o : Oper} {a : Act} {K : Act → World → Prop} {Q : Exit → Act → World → Prop} {E : Prop} (hgd : o.guard = none) (sl x : Operand)
    (ho : o.op = .call { callee := .builtin .append, args := #[sl, x], argTypes := #[28, 28] }) (B : Nat) (v : Value) (l : List Hld) (hs : a.eval sl = v) (hown : HoRow B w v l)
    (y : Value) (bs : List Hld) (hx : a.eval x = y) (hsrc : SrcH w y bs) (hb : l.length + bs.length ≤ 1000000) (hB : B ≤ w.heap.size)
    (h : ∀ v' w', Hid (HoRow B w' v' (l ++ bs)) → Hid (w.grownBy w' v.ownBlock) → Hid (v'.ownBlock = v.ownBlock ∨ v'.ownBlock = some w.heap.size) → K (a.put o.dst v') w') : if Region.wanted o (yielded ops a.tmps) = true then Oper.wp Try.prog o a w K Q else E := by
  obtain ⟨v', w', hr, h1, h2, h3⟩ := app_hos o.type hown hsrc hb hB
  have hw : Region.wanted o (yielded ops a.tmps) = true := by simp [Region.wanted, hgd]
  rw [if_pos hw]
  unfold Oper.wp
  simp [execOp, ho, resolve, invoke, builtin, hs, hx, hr, Result.andThen]
  exact h _ _ h1 h2 h3
theorem own_emptyH (w : World) : HoRow w.heap.size (w.alloc (.cells #[] 30)) (.slice (some ⟨w.heap.size, 0, none⟩) 0 0) [] := World.ownsRow_made w #[] 0 (Nat.le_refl _) (Nat.zero_le _) rfl
/-- a row whose first are left out, and those behind -/
theorem rel_parts {m : List Hld} (hu : m.Pairwise fun x y => x.name ≠ y.name) {i : Nat} {x : Hld} (hx : m[i]? = some x) : relM m x.name = m.take i ++ m.drop (i + 1) := by
  obtain ⟨hi, rfl⟩ := List.getElem?_eq_some_iff.1 hx
  have e : m = m.take i ++ (m[i] :: m.drop (i + 1)) := by rw [← List.drop_eq_getElem_cons hi, List.take_append_drop]
  have hp := List.pairwise_iff_getElem.1 hu
  unfold relM
  have key : ∀ n : ByteArray, m.filter (fun h => !decide (h.name = n)) = (m.take i ++ (m[i] :: m.drop (i + 1))).filter (fun h => !decide (h.name = n)) := fun n => congrArg (List.filter _) e
  rw [key, List.filter_append, List.filter_cons]
  have h1 : (m.take i).filter (fun h => !decide (h.name = m[i].name)) = m.take i := by
    rw [List.filter_eq_self]
    intro y hy
    obtain ⟨j, hj, rfl⟩ := List.mem_iff_getElem.1 hy
    have hj2 : j < i ∧ j < m.length := by simp at hj; omega
    have := hp j i hj2.2 hi hj2.1
    simpa using this
  have h2 : (m.drop (i + 1)).filter (fun h => !decide (h.name = m[i].name)) = m.drop (i + 1) := by
    rw [List.filter_eq_self]
    intro y hy
    obtain ⟨j, hj, rfl⟩ := List.mem_iff_getElem.1 hy
    have hj2 : i + 1 + j < m.length := by simp at hj; omega
    have := hp i (i + 1 + j) hi hj2 (by omega)
    simpa using fun e => this e.symm
  rw [h1, h2]
  simp
theorem srcH_take {B : Nat} {w : World} {v : Value} {l : List Hld} (h : HoRow B w v l) (hne : l ≠ []) {n : Nat} (hn : n ≤ l.length) : ∃ g cap, v = .slice (some ⟨g, 0, none⟩) l.length cap ∧ l.length ≤ cap ∧ SrcH w (.slice (some ⟨g, 0, none⟩) n cap) (l.take n) ∧ ∀ c, SrcH w (.slice (some ⟨g, n * 4, none⟩) (l.length - n) c) (l.drop n) := by
  rcases h.opened with ⟨rfl, rfl⟩ | ⟨g, cap, R, rfl, _, hg, _, hc, _⟩
  · exact absurd rfl hne
  · have e : l.flatMap Hld.cells = (l.take n).flatMap Hld.cells ++ (l.drop n).flatMap Hld.cells := by rw [← List.flatMap_append, List.take_append_drop]
    have hlt : ((l.take n).flatMap Hld.cells).length = n * 4 := by rw [flatH_length, List.length_take, Nat.min_eq_left hn]
    refine ⟨g, cap, rfl, hc, .inr ⟨_, cap, by rw [List.length_take, Nat.min_eq_left hn], fun j u hu => ?_⟩, fun c => .inr ⟨_, c, by rw [List.length_drop], fun j u hu => ?_⟩⟩
    · rw [add_at, Nat.zero_add]
      have hj := (List.getElem?_eq_some_iff.1 hu).1
      refine hg.cell ?_
      rw [List.getElem?_append_left (by rw [flatH_length]; rw [hlt] at hj; omega), e, List.getElem?_append_left hj]
      exact hu
    · rw [add_at]
      have hj := (List.getElem?_eq_some_iff.1 hu).1
      refine hg.cell ?_
      rw [List.getElem?_append_left (by rw [e, List.length_append, hlt]; omega), e, List.getElem?_append_right (by rw [hlt]; omega), hlt, Nat.add_sub_cancel_left]
      exact hu
end Go.Proofs.Ytphgkkdpdiiioaa
