/- Numbers in a row of one's own. No function of the program. -/
import Derived.Test.YthbdchleppbidaaGreatMA
import Derived.Maps.AppendAt
namespace Go.Proofs.YthbdchleppbidaaGreat
open Go.RowKit

/-- numbers in a row of one's own -/
def IntRow (B : Nat) (w : World) (v : Value) (zs : List Int) : Prop := w.ownsRow B 2 1 v zs.length (zs.map (Value.int .i64))
theorem IntRow.keep {B : Nat} {w w' : World} {v : Value} {zs : List Int} (h : IntRow B w v zs) (hb : Below w.heap.size w w') : IntRow B w' v zs := ownsRow_beyond h hb
theorem IntRow.nil (B : Nat) (w : World) : IntRow B w (.slice none 0 0) [] := World.ownsRow_nil _ _ _ _
theorem IntRow.base {B B' : Nat} {w : World} {v : Value} {zs : List Int} (h : IntRow B w v zs) (hB : B' ≤ B) : IntRow B' w v zs := row_base h hB
theorem IntRow.only {B : Nat} {w w' : World} {v : Value} {zs : List Int} {S : Nat → Prop} (h : IntRow B w v zs) (ho : Only S w w') (hS : ∀ k, v.ownBlock = some k → ¬ S k) : IntRow B w' v zs := row_only h ho hS
theorem IntRow.lt {B : Nat} {w : World} {v : Value} {zs : List Int} (h : IntRow B w v zs) (k : Nat) (hk : v.ownBlock = some k) : B ≤ k ∧ k < w.heap.size := by
  rcases h.2 with ⟨rfl, _⟩ | ⟨g, cap, cur, rfl, hb, hg, _⟩
  · simp [Value.ownBlock] at hk
  · simp [Value.ownBlock] at hk
    subst hk
    exact ⟨hb, lt_of_block hg⟩
/-- a row of numbers, opened: none; or an array with these in front -/
theorem IntRow.opened {B : Nat} {w : World} {v : Value} {zs : List Int} (h : IntRow B w v zs) : (v = .slice none 0 0 ∧ zs = []) ∨ ∃ g cap R, v = .slice (some ⟨g, 0, none⟩) zs.length cap ∧ B ≤ g ∧ Arr w g 2 (zs.map (Value.int .i64) ++ R) ∧ R.length = cap - zs.length ∧ zs.length ≤ cap ∧ cap ≤ maxLen := by
  rcases h.2 with ⟨rfl, h0⟩ | ⟨g, cap, cur, rfl, hb, hg, hnc, hcm, hcs, ht⟩
  · exact .inl ⟨rfl, List.length_eq_zero_iff.1 h0⟩
  · refine .inr ⟨g, cap, cur.toList.drop (zs.length * 1), rfl, hb, ?_, ?_, hnc, hcm⟩
    · show _ = _
      rw [← ht, List.take_append_drop, Array.toArray_toList]; exact hg
    · rw [List.length_drop, Array.length_toList, hcs]; omega
theorem infoInt64 : (Tryz.prog.info? 2).map (fun i => (i.zero, i.size, i.bytes)) = some (some (.int .i64 0), 1, 8) := by kernel_rfl
theorem wpList_append_int {w : World} {ops : Array Oper} {rest : List Oper} {o : Oper} {a : Act} {Q : Exit → Act → World → Prop} (hgd : o.guard = none) (sl x : Operand)
    (ho : o.op = .call { callee := .builtin .append, args := #[sl, x], argTypes := #[51, 51] }) (B : Nat) (v : Value) (l : List Int) (hs : a.eval sl = v) (hown : IntRow B w v l)
    (M : Nat) (z : Int) (hx : a.eval x = .slice (some ⟨M, 0, none⟩) 1 1) (hM : w.cell? ⟨M, 0, none⟩ = some (.int .i64 z)) (hb : l.length ≤ 1000000) (hB : B ≤ w.heap.size)
    (h : ∀ v' w', Hid (IntRow B w' v' (l ++ [z])) → Hid (w.grownBy w' v.ownBlock) → wpList Tryz.prog ops Q rest (a.put o.dst v') w') : wpList Tryz.prog ops Q (o :: rest) a w := by
  obtain ⟨i0, hi, hz0, hz1, hz2⟩ := info_parts infoInt64
  refine wpList_append_own_at _ hgd sl x 51 ho B 2 i0 (.int .i64 0) 1 8 Tryz.underlying51 hi hz0 hz1 hz2 rfl (by decide) _ _ _ hs hown ⟨M, 0, none⟩ 1 1 [.int .i64 z] hx rfl ?_ ?_ (by unfold maxLen; omega) (by omega) hB ?_
  · intro j u hj
    rw [add_at, Nat.zero_add]
    have hlt : j < 1 := by have := (List.getElem?_eq_some_iff.1 hj).1; simpa using this
    obtain rfl : j = 0 := by omega
    cases hj
    exact hM
  · intro u hu
    rw [List.mem_singleton.1 hu]; rfl
  · intro v' w' h1 h2 _ _
    refine h v' w' ?_ h2
    show Hid (w'.ownsRow B _ 1 v' (l ++ [z]).length ((l ++ [z]).map (Value.int .i64)))
    refine Lib.hid ?_
    rw [List.length_append, List.map_append]
    simpa using h1
end Go.Proofs.YthbdchleppbidaaGreat
