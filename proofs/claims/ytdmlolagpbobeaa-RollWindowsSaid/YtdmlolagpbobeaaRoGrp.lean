/- What a row's group has in common; an aggregate appended to a row of one's own. -/
import Derived.Test.YtdmlolagpbobeaaRoP
import Derived.Maps.AppendAt
namespace Go.Proofs.Ytdmlolagpbobeaa
open Go.RowKit

/-- all from a place on, ahead of another one, have this key -/
def SameK {α : Type} (f : α → Int) (l : List α) (i j : Nat) (k : Int) : Prop := ∀ m x, i ≤ m → m < j → l[m]? = some x → f x = k
theorem SameK.more {α : Type} {f : α → Int} {l : List α} {i j : Nat} {k : Int} (h : SameK f l i j k) {q : α} (hq : l[j]? = some q) (hk : f q = k) : SameK f l i (j + 1) k := fun m x h1 h2 hx => by
  by_cases hm : m = j
  · subst hm; rw [hq] at hx; rw [← Option.some.inj hx]; exact hk
  · exact h m x h1 (by omega) hx
theorem wpList_append_ag {w : World} {ops : Array Oper} {rest : List Oper} {o : Oper} {a : Act} {Q : Exit → Act → World → Prop} (hgd : o.guard = none) (sl x : Operand)
    (ho : o.op = .call { callee := .builtin .append, args := #[sl, x], argTypes := #[34, 34] }) (B : Nat) (v : Value) (l : List Ag) (hs : a.eval sl = v) (hown : AgRow B w v l)
    (M : Nat) (t : Ag) (hx : a.eval x = .slice (some ⟨M, 0, none⟩) 1 1) (hM : AgAt w M t) (hb : l.length ≤ 1000000) (hB : B ≤ w.heap.size)
    (h : ∀ v' w', Hid (AgRow B w' v' (l ++ [t])) → Hid (w.grownBy w' v.ownBlock) → wpList Try.prog ops Q rest (a.put o.dst v') w') : wpList Try.prog ops Q (o :: rest) a w := by
  obtain ⟨i0, hi, hz0, hz1, hz2⟩ := info_parts infoAg
  obtain ⟨c0, c1, c2, c3, c4, -, -, -, -, -⟩ := hM.cells
  refine wpList_append_own_at _ hgd sl x 34 ho B 25 i0 (.agg #[.int .i64 0, .int .i64 0, .int .i64 0, .int .i64 0, .int .i64 0]) 5 40 Try.underlying34 hi hz0 hz1 hz2 rfl (by decide) _ _ _ hs hown ⟨M, 0, none⟩ 1 1 t.cells hx rfl ?_ ?_ (by unfold maxLen; omega) (by omega) hB ?_
  · intro j u hj
    rw [add_at, Nat.zero_add]
    unfold Ag.cells at hj
    have hlt : j < 5 := by have := (List.getElem?_eq_some_iff.1 hj).1; simpa using this
    have hj5 : j = 0 ∨ j = 1 ∨ j = 2 ∨ j = 3 ∨ j = 4 := by omega
    rcases hj5 with rfl | rfl | rfl | rfl | rfl <;> (simp only [List.getElem?_cons_zero, List.getElem?_cons_succ, Option.some.injEq] at hj; subst hj; assumption)
  · intro u hu
    unfold Ag.cells at hu
    simp only [List.mem_cons, List.not_mem_nil, or_false] at hu
    rcases hu with rfl | rfl | rfl | rfl | rfl <;> rfl
  · intro v' w' h1 h2 _ _
    refine h v' w' ?_ h2
    show w'.ownsRow B _ 5 v' (l ++ [t]).length ((l ++ [t]).flatMap Ag.cells)
    rw [List.length_append, List.flatMap_append]
    simpa using h1
end Go.Proofs.Ytdmlolagpbobeaa
