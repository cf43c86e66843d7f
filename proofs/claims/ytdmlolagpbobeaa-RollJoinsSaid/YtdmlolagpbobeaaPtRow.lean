/- Rows of points as they lie; appends to them in regions that draw their order. No function of the program. -/
import Derived.Test.YtdmlolagpbobeaaPtL
import Derived.Deep.RegionLaw
namespace Go.Proofs.Ytdmlolagpbobeaa
open Go.RowKit

theorem ins_len (x : List Pt) (j : Nat) (q : Pt) : (x.take j ++ q :: x.drop j).length = x.length + 1 := by
  have := congrArg List.length (List.take_append_drop j x)
  rw [List.length_append] at this ⊢
  rw [List.length_cons]; omega
theorem infoPt : (Try.prog.info? 31).map (fun i => (i.zero, i.size, i.bytes)) = some (some (.agg #[.int .i64 0, .int .i64 0]), 2, 16) := by kernel_rfl
theorem flatP_length (x : List Pt) : (x.flatMap Pt.cells).length = x.length * 2 := by
  induction x with
  | nil => rfl
  | cons t r ih => rw [List.flatMap_cons, List.length_append, ih, List.length_cons]; simp [Pt.cells]; omega
theorem flatP_one (x : List Pt) : ∀ u ∈ x.flatMap Pt.cells, u.oneCell' = true := by
  intro u hu
  obtain ⟨t, _, hu⟩ := List.mem_flatMap.1 hu
  simp only [Pt.cells, List.mem_cons, List.not_mem_nil, or_false] at hu
  rcases hu with rfl | rfl <;> rfl
theorem pts_cells {w : World} {g off : Nat} {x : List Pt} (h : PtsAt w g off x) : ∀ i u, (x.flatMap Pt.cells)[i]? = some u → w.cell? ⟨g, off + i, none⟩ = some u := by
  intro i u hu
  have hi := (List.getElem?_eq_some_iff.1 hu).1
  rw [flatP_length] at hi
  have ht : x[i / 2]? = some (x[i / 2]'(by omega)) := List.getElem?_eq_getElem (by omega)
  obtain ⟨h0, h1⟩ := h _ _ ht
  have hm : i % 2 = 0 ∨ i % 2 = 1 := by omega
  rcases hm with hm | hm
  · have h2 := flatP_get ht 0 (by omega)
    rw [show i / 2 * 2 + 0 = i by omega, hu] at h2
    rw [show off + i = off + i / 2 * 2 by omega, h0]; exact h2.symm
  · have h2 := flatP_get ht 1 (by omega)
    rw [show i / 2 * 2 + 1 = i by omega, hu] at h2
    rw [show off + i = off + i / 2 * 2 + 1 by omega, h1]; exact h2.symm
theorem cells_pts {w : World} {g off : Nat} {x : List Pt} (h : ∀ i u, (x.flatMap Pt.cells)[i]? = some u → w.cell? ⟨g, off + i, none⟩ = some u) : PtsAt w g off x := fun i t ht => by
  have h0 := flatP_get ht 0 (by omega)
  have h1 := flatP_get ht 1 (by omega)
  exact ⟨h (i * 2) _ h0, h (i * 2 + 1) _ h1⟩
theorem pts_drop {w : World} {g off : Nat} {x : List Pt} (j : Nat) (h : PtsAt w g off x) : PtsAt w g (off + j * 2) (x.drop j) := fun i t ht => by
  rw [List.getElem?_drop] at ht
  obtain ⟨h0, h1⟩ := h _ _ ht
  rw [show off + j * 2 + i * 2 = off + (j + i) * 2 by omega]
  exact ⟨h0, h1⟩
theorem pts_take {w : World} {g off : Nat} {x : List Pt} (j : Nat) (h : PtsAt w g off x) : PtsAt w g off (x.take j) := fun i t ht => by
  rw [List.getElem?_take] at ht
  split at ht
  · exact h _ _ ht
  · simp at ht
/-- the points that are wanted, as they lie -/
def WantAt (w : World) (v : Value) (x : List Pt) : Prop := (v = .slice none 0 0 ∧ x = []) ∨ ∃ g cap, v = .slice (some ⟨g, 0, none⟩) x.length cap ∧ x.length ≤ cap ∧ PtsAt w g 0 x
theorem want_row {B : Nat} {w : World} {v : Value} {l : List Pt} (h : w.ownsRow B 31 2 v l.length (l.flatMap Pt.cells)) : WantAt w v l := by
  rcases h.2 with ⟨rfl, h0⟩ | ⟨g, cap, cur, rfl, _, _, hnc, _⟩
  · exact .inl ⟨rfl, List.length_eq_zero_iff.1 h0⟩
  · refine .inr ⟨g, cap, rfl, hnc, cells_pts fun i u hu => ?_⟩
    have hi := (List.getElem?_eq_some_iff.1 hu).1
    rw [flatP_length] at hi
    rw [Nat.zero_add, h.cellAt i hi]; exact hu
theorem WantAt.beyond {w w' : World} {v : Value} {x : List Pt} (h : WantAt w v x) (hb : Below w.heap.size w w') : WantAt w' v x := by
  rcases h with h | ⟨g, cap, h1, h2, h3⟩
  · exact .inl h
  · exact .inr ⟨g, cap, h1, h2, h3.beyond hb⟩
theorem WantAt.plies {w : World} {v : Value} {x : List Pt} (h : WantAt w v x) : PLies w v x := by
  rcases h with ⟨rfl, rfl⟩ | ⟨g, cap, h1, _, h3⟩
  · exact ⟨none, 0, 0, 0, rfl, fun h => absurd rfl h, fun i t ht => by simp at ht⟩
  · exact ⟨_, g, 0, cap, h1, fun _ => rfl, h3⟩

/-! ### Appends in a region that draws its order -/
/-- a row of one's own, and what lies somewhere (perhaps nothing) -/
theorem step_append_own2 {P : Program} (w : World) {ops : Array Oper} {o : Oper} {a : Act} {K : Act → World → Prop} {Q : Exit → Act → World → Prop} {E : Prop} (hgd : o.guard = none) (s x : Operand) (t : TypeId)
    (ho : o.op = .call { callee := .builtin .append, args := #[s, x], argTypes := #[t, t] })
    (base : Nat) (e : TypeId) (i : TypeInfo) (z : Value) (size bytes : Nat) (ht : P.underlying t = some (.slice e)) (hi : P.info? e = some i) (hz : i.zero = some z)
    (hsize : i.size = size) (hby : i.bytes = bytes) (hzs : z.cells.size = size) (hsz : 0 < size)
    (v : Value) (n : Nat) (xs : List Value) (hs : a.eval s = v) (hown : w.ownsRow base e size v n xs)
    (y : Value) (m : Nat) (news : List Value) (hx : a.eval x = y) (hy : (y = .slice none 0 0 ∧ m = 0 ∧ news = []) ∨ ∃ ad c, y = .slice (some ad) m c ∧ news.length = m * size ∧ ∀ j u, news[j]? = some u → w.cell? (ad.add j) = some u) (h1 : ∀ u ∈ news, u.oneCell' = true)
    (h63 : n + m ≤ maxLen) (hbytes : (n + m) * bytes ≤ 140737488355328) (hbase : base ≤ w.heap.size)
    (h : ∀ v' w', w'.ownsRow base e size v' (n + m) (xs ++ news) → w.grownBy w' v.ownBlock → K (a.put o.dst v') w') : if Region.wanted o (yielded ops a.tmps) = true then Oper.wp P o a w K Q else E := by
  have hw : Region.wanted o (yielded ops a.tmps) = true := by simp [Region.wanted, hgd]
  rw [if_pos hw]
  rcases hy with ⟨rfl, rfl, rfl⟩ | ⟨ad, c, rfl, hl, hc⟩
  · have hrun := run_append_owned_none (P := P) (w := w) base t o.type e i size ht hi v n xs hown
    unfold Oper.wp
    simp [execOp, ho, resolve, invoke, builtin, hs, hx, hrun, Result.andThen]
    exact h _ _ (by simpa using hown) ⟨rfl, rfl, rfl, Nat.le_refl _, fun _ _ _ => rfl⟩
  · exact wp_append_own w s x t ho base e i z size bytes ht hi hz hsize hby hzs hsz v n xs hs hown ad m c news hx hl hc h1 h63 hbytes hbase fun v' w' h2 h3 _ => h v' w' h2 h3
/-- onto a slice without room: what lies there, and something, lie in a new row -/
theorem step_append_new2 {P : Program} (w : World) {ops : Array Oper} {o : Oper} {a : Act} {K : Act → World → Prop} {Q : Exit → Act → World → Prop} {E : Prop} (hgd : o.guard = none) (s x : Operand) (t : TypeId)
    (ho : o.op = .call { callee := .builtin .append, args := #[s, x], argTypes := #[t, t] })
    (e : TypeId) (i : TypeInfo) (z : Value) (size bytes : Nat) (ht : P.underlying t = some (.slice e)) (hi : P.info? e = some i) (hz : i.zero = some z)
    (hsize : i.size = size) (hby : i.bytes = bytes)
    (v : Value) (n : Nat) (olds : List Value) (hs : a.eval s = v) (hv : (v = .slice none 0 0 ∧ n = 0 ∧ olds = []) ∨ ∃ ad, v = .slice (some ad) n n ∧ olds.length = n * size ∧ ∀ j u, olds[j]? = some u → w.cell? (ad.add j) = some u)
    (ad : Addr) (m c : Nat) (news : List Value) (hx : a.eval x = .slice (some ad) m c) (hl : news.length = m * size) (hc : ∀ j u, news[j]? = some u → w.cell? (ad.add j) = some u) (hm : 0 < m)
    (h63 : n + m ≤ 1000000) (hb1 : bytes ≤ 1000000)
    (h : ∀ g cap w', Below w.heap.size w w' → (∀ j u, (olds ++ news)[j]? = some u → w'.cell? ⟨g, j, none⟩ = some u) → n + m ≤ cap → g < w'.heap.size → K (a.put o.dst (.slice (some ⟨g, 0, none⟩) (n + m) cap)) w') : if Region.wanted o (yielded ops a.tmps) = true then Oper.wp P o a w K Q else E := by
  have hw : Region.wanted o (yielded ops a.tmps) = true := by simp [Region.wanted, hgd]
  rw [if_pos hw]
  have hbb : (n + m) * bytes ≤ 140737488355328 := by
    have := Nat.mul_le_mul h63 hb1; omega
  have fin : ∀ (cap : Nat) (cells : Array Value), (∀ (j : Nat) (u : Value), (olds ++ news)[j]? = some u → cells[j]? = some u) → n + m ≤ cap → (Builtin.append_ #[t, t] o.type #[v, .slice (some ad) m c]).run P w = .ok (.slice (some ⟨w.heap.size, 0, none⟩) (n + m) cap) (w.drew.alloc (.cells cells e)) → Oper.wp P o a w K Q := by
    intro cap cells hcells hcap hrun
    unfold Oper.wp
    simp [execOp, ho, resolve, invoke, builtin, hs, hx, hrun, Result.andThen]
    refine h _ _ _ (((Below.refl w.heap.size w).drew).alloc (Nat.le_refl _) _) (fun j u hj => ?_) hcap (by simp)
    rw [cell_of_row _ w.heap.size j _ _ _ (heap_alloc_new w.drew _)]
    exact hcells j u hj
  rcases hv with ⟨rfl, rfl, rfl⟩ | ⟨ad0, rfl, hol, hoc⟩
  · have hrun := run_append_nil (P := P) w t o.type e i z ht hi hz ad m c news (by rw [hsize]; exact hl) hc hm (by omega) (by rw [hby]; simp only [Nat.zero_add] at hbb; omega)
    refine fin _ _ (fun j u hj => ?_) ?_ (by simpa using hrun)
    · rw [List.nil_append] at hj
      have hlt := (List.getElem?_eq_some_iff.1 hj).1
      rw [Array.getElem?_append_left (by simpa using hlt)]
      simpa using hj
    · have := grownCap_ge w m 0 e; omega
  · have hrun := run_append_grow (P := P) w t o.type e i z ht hi hz ad0 n n olds (by rw [hsize]; exact hol) hoc ad m c news (by rw [hsize]; exact hl) hc (by omega) (by omega) (by rw [hby]; exact growslice_fits (by omega) hbb)
    refine fin _ _ (fun j u hj => ?_) (grownCap_ge w (n + m) n e) hrun
    have hlt := (List.getElem?_eq_some_iff.1 hj).1
    rw [Array.getElem?_append_left (by simpa using hlt)]
    simpa using hj
end Go.Proofs.Ytdmlolagpbobeaa
