/- The points of both: plain facts; appends to rows of points in regions that draw their order. -/
import Derived.Test.YtdfefhoihpbldaaDoorChunkCutsA
import Derived.Deep.RegionLaw
namespace Go.Proofs.YtdfefhoihpbldaaDoor
open Go.RowKit

def Srt (l : List Pt) : Prop := l.Pairwise fun p q => p.a < q.a
theorem srt_of {l : List Pt} (h : Rises l) : Srt l := by
  have key : ∀ (j i : Nat) (p q : Pt), i < j → l[i]? = some p → l[j]? = some q → p.a < q.a := by
    intro j
    induction j with
    | zero => intro i p q hi; omega
    | succ j ih =>
      intro i p q hi hp hq
      have hj : j < l.length := by have := (List.getElem?_eq_some_iff.1 hq).1; omega
      have hm : l[j]? = some l[j] := List.getElem?_eq_getElem hj
      have h1 := h.2 j _ _ hm hq
      rcases Nat.lt_or_ge i j with h2 | h2
      · have h3 := ih i p _ h2 hp hm; omega
      · obtain rfl : i = j := by omega
        rw [hm] at hp; rw [← Option.some.inj hp]; exact h1
  exact List.pairwise_iff_getElem.2 fun i j hi hj hij => key j i _ _ hij (List.getElem?_eq_getElem hi) (List.getElem?_eq_getElem hj)
theorem rises_of {l : List Pt} (h : Srt l) (hin : ∀ t ∈ l, 0 ≤ t.a ∧ t.a ≤ 1099511627776) : Rises l := by
  refine ⟨hin, fun i p q hp hq => ?_⟩
  obtain ⟨hi, rfl⟩ := List.getElem?_eq_some_iff.1 hp
  obtain ⟨hj, rfl⟩ := List.getElem?_eq_some_iff.1 hq
  exact List.pairwise_iff_getElem.1 h i (i + 1) hi hj (by omega)
theorem srt_ext {l m : List Pt} (hl : Srt l) (hm : Srt m) (h : ∀ t, t ∈ l ↔ t ∈ m) : l = m := by
  induction l generalizing m with
  | nil =>
    cases m with
    | nil => rfl
    | cons b s => exact absurd ((h b).2 (by simp)) (by simp)
  | cons a r ih =>
    cases m with
    | nil => exact absurd ((h a).1 (by simp)) (by simp)
    | cons b s =>
      have hl' := List.pairwise_cons.1 hl
      have hm' := List.pairwise_cons.1 hm
      have hab : a = b := by
        rcases List.mem_cons.1 ((h a).1 (by simp)) with h1 | h1
        · exact h1
        · rcases List.mem_cons.1 ((h b).2 (by simp)) with h2 | h2
          · exact h2.symm
          · have h3 := hm'.1 a h1; have h4 := hl'.1 b h2; omega
      subst hab
      congr 1
      refine ih hl'.2 hm'.2 fun t => ?_
      constructor
      · intro ht
        rcases List.mem_cons.1 ((h t).1 (List.mem_cons_of_mem _ ht)) with h1 | h1
        · subst h1; exact absurd (hl'.1 t ht) (by omega)
        · exact h1
      · intro ht
        rcases List.mem_cons.1 ((h t).2 (List.mem_cons_of_mem _ ht)) with h1 | h1
        · subst h1; exact absurd (hm'.1 t ht) (by omega)
        · exact h1
/-- so far: of both, those of the second as far as k -/
def Sofar (a b : List Pt) (k : Nat) (x : List Pt) : Prop := Srt x ∧ ∀ t, t ∈ x ↔ t ∈ b.take k ∨ (t ∈ a ∧ ∀ q ∈ b, q.a ≠ t.a)
theorem sofar_filter {a b : List Pt} (ha : Rises a) : Sofar a b 0 (a.filter fun p => !(b.any fun q => p.a == q.a)) := by
  refine ⟨(srt_of ha).filter _, fun t => ?_⟩
  rw [List.mem_filter]
  simp only [List.take_zero, List.not_mem_nil, false_or, Bool.not_eq_true', List.any_eq_false, beq_iff_eq]
  exact ⟨fun ⟨h1, h2⟩ => ⟨h1, fun q hq h => h2 q hq h.symm⟩, fun ⟨h1, h2⟩ => ⟨h1, fun q hq h => h2 q hq h.symm⟩⟩
theorem sofar_next {a b x : List Pt} {k j : Nat} {q : Pt} (hb : Rises b) (h : Sofar a b k x) (hq : b[k]? = some q) (hj : j ≤ x.length) (hlow : ∀ i p, i < j → x[i]? = some p → p.a < q.a) (hend : ∀ p, x[j]? = some p → ¬ p.a < q.a) :
    Sofar a b (k + 1) (x.take j ++ q :: x.drop j) := by
  obtain ⟨hs, hm⟩ := h
  have hk := (List.getElem?_eq_some_iff.1 hq).1
  have hne : ∀ t ∈ x, t.a ≠ q.a := by
    intro t ht
    rcases (hm t).1 ht with h1 | ⟨_, h2⟩
    · obtain ⟨i, hi⟩ := List.mem_iff_getElem?.1 h1
      have hik : i < k := by have := (List.getElem?_eq_some_iff.1 hi).1; rw [List.length_take] at this; omega
      rw [List.getElem?_take, if_pos hik] at hi
      have := List.pairwise_iff_getElem.1 (srt_of hb) i k (by omega) hk hik
      rw [(List.getElem?_eq_some_iff.1 hi).2, (List.getElem?_eq_some_iff.1 hq).2] at this
      omega
    · exact fun h => h2 q (List.mem_of_getElem? hq) h.symm
  refine ⟨?_, fun t => ?_⟩
  · have hsplit : Srt (x.take j ++ x.drop j) := by rw [List.take_append_drop]; exact hs
    obtain ⟨h1, h2, h3⟩ := List.pairwise_append.1 hsplit
    refine List.pairwise_append.2 ⟨h1, List.pairwise_cons.2 ⟨fun t ht => ?_, h2⟩, fun p hp t ht => ?_⟩
    · obtain ⟨i, hi⟩ := List.mem_iff_getElem?.1 ht
      rw [List.getElem?_drop] at hi
      have hlt := (List.getElem?_eq_some_iff.1 hi).1
      have hj' : x[j]? = some (x[j]'(by omega)) := List.getElem?_eq_getElem (by omega)
      have h4 := hend _ hj'
      have h5 := hne t (List.mem_of_getElem? hi)
      rcases Nat.eq_zero_or_pos i with h6 | h6
      · subst h6; rw [Nat.add_zero, hj'] at hi; rw [← Option.some.inj hi] at h5 ⊢; omega
      · have h7 := List.pairwise_iff_getElem.1 hs j (j + i) (by omega) hlt (by omega)
        rw [(List.getElem?_eq_some_iff.1 hi).2] at h7; omega
    · rcases List.mem_cons.1 ht with rfl | ht
      · obtain ⟨i, hi⟩ := List.mem_iff_getElem?.1 hp
        have hij : i < j := by have := (List.getElem?_eq_some_iff.1 hi).1; rw [List.length_take] at this; omega
        rw [List.getElem?_take, if_pos hij] at hi
        exact hlow i p hij hi
      · exact h3 p hp t ht
  · have hx : t ∈ x ↔ t ∈ x.take j ∨ t ∈ x.drop j := by rw [← List.mem_append, List.take_append_drop]
    rw [List.mem_append, List.mem_cons, List.take_add_one, hq, List.mem_append]
    simp only [Option.toList_some, List.mem_singleton]
    have := hm t
    constructor
    · rintro (h1 | h1 | h1)
      · rcases this.1 (hx.2 (.inl h1)) with h2 | h2
        · exact .inl (.inl h2)
        · exact .inr h2
      · exact .inl (.inr h1)
      · rcases this.1 (hx.2 (.inr h1)) with h2 | h2
        · exact .inl (.inl h2)
        · exact .inr h2
    · rintro ((h1 | h1) | h1)
      · rcases hx.1 (this.2 (.inl h1)) with h2 | h2
        · exact .inl h2
        · exact .inr (.inr h2)
      · exact .inr (.inl h1)
      · rcases hx.1 (this.2 (.inr h1)) with h2 | h2
        · exact .inl h2
        · exact .inr (.inr h2)
theorem sofar_merged {a b x l : List Pt} (h : Sofar a b b.length x) (hm : Merged a b l) : x = l := by
  refine srt_ext h.1 (srt_of hm.1) fun t => ?_
  rw [h.2 t, hm.2 t, List.take_of_length_le (Nat.le_refl _)]
theorem ins_len (x : List Pt) (j : Nat) (q : Pt) : (x.take j ++ q :: x.drop j).length = x.length + 1 := by
  have := congrArg List.length (List.take_append_drop j x)
  rw [List.length_append] at this ⊢
  rw [List.length_cons]; omega
theorem unpack_none : unpackS [] = (4, []) := by decide +kernel
theorem unpack_zero : unpackS [0] = (4, []) := by decide +kernel

theorem infoPt : (Tryd.prog.info? 42).map (fun i => (i.zero, i.size, i.bytes)) = some (some (.agg #[.int .i64 0, .int .i64 0]), 2, 16) := by kernel_rfl
theorem flatP_length (x : List Pt) : (x.flatMap Pt.cells).length = x.length * 2 := by
  induction x with
  | nil => rfl
  | cons t r ih => rw [List.flatMap_cons, List.length_append, ih, List.length_cons]; simp [Pt.cells]; omega
theorem flatP_one (x : List Pt) : ∀ u ∈ x.flatMap Pt.cells, u.oneCell' = true := by
  intro u hu
  obtain ⟨t, _, hu⟩ := List.mem_flatMap.1 hu
  simp only [Pt.cells, List.mem_cons, List.not_mem_nil, or_false] at hu
  rcases hu with rfl | rfl <;> rfl
theorem pts_cells {w : World} {g off : Nat} {x : List Pt} (h : PtsAt w g off x) : ∀ i u, (x.flatMap Pt.cells)[i]? = some u → w.cell? ⟨g, off + i, none⟩ = some u := by
  intro i u hu
  have hi := (List.getElem?_eq_some_iff.1 hu).1
  rw [flatP_length] at hi
  have ht : x[i / 2]? = some (x[i / 2]'(by omega)) := List.getElem?_eq_getElem (by omega)
  obtain ⟨h0, h1⟩ := h _ _ ht
  have hm : i % 2 = 0 ∨ i % 2 = 1 := by omega
  rcases hm with hm | hm
  · have h2 := flatP_get ht 0 (by omega)
    rw [show i / 2 * 2 + 0 = i by omega, hu] at h2
    rw [show off + i = off + i / 2 * 2 by omega, h0]; exact h2.symm
  · have h2 := flatP_get ht 1 (by omega)
    rw [show i / 2 * 2 + 1 = i by omega, hu] at h2
    rw [show off + i = off + i / 2 * 2 + 1 by omega, h1]; exact h2.symm
theorem cells_pts {w : World} {g off : Nat} {x : List Pt} (h : ∀ i u, (x.flatMap Pt.cells)[i]? = some u → w.cell? ⟨g, off + i, none⟩ = some u) : PtsAt w g off x := fun i t ht => by
  have h0 := flatP_get ht 0 (by omega)
  have h1 := flatP_get ht 1 (by omega)
  exact ⟨h (i * 2) _ h0, h (i * 2 + 1) _ h1⟩
theorem pts_drop {w : World} {g off : Nat} {x : List Pt} (j : Nat) (h : PtsAt w g off x) : PtsAt w g (off + j * 2) (x.drop j) := fun i t ht => by
  rw [List.getElem?_drop] at ht
  obtain ⟨h0, h1⟩ := h _ _ ht
  rw [show off + j * 2 + i * 2 = off + (j + i) * 2 by omega]
  exact ⟨h0, h1⟩
theorem pts_take {w : World} {g off : Nat} {x : List Pt} (j : Nat) (h : PtsAt w g off x) : PtsAt w g off (x.take j) := fun i t ht => by
  rw [List.getElem?_take] at ht
  split at ht
  · exact h _ _ ht
  · simp at ht
/-- the points that are wanted, as they lie -/
def WantAt (w : World) (v : Value) (x : List Pt) : Prop := (v = .slice none 0 0 ∧ x = []) ∨ ∃ g cap, v = .slice (some ⟨g, 0, none⟩) x.length cap ∧ x.length ≤ cap ∧ PtsAt w g 0 x
theorem want_row {B : Nat} {w : World} {v : Value} {l : List Pt} (h : w.ownsRow B 42 2 v l.length (l.flatMap Pt.cells)) : WantAt w v l := by
  rcases h.2 with ⟨rfl, h0⟩ | ⟨g, cap, cur, rfl, _, _, hnc, _⟩
  · exact .inl ⟨rfl, List.length_eq_zero_iff.1 h0⟩
  · refine .inr ⟨g, cap, rfl, hnc, cells_pts fun i u hu => ?_⟩
    have hi := (List.getElem?_eq_some_iff.1 hu).1
    rw [flatP_length] at hi
    rw [Nat.zero_add, h.cellAt i hi]; exact hu
theorem WantAt.beyond {w w' : World} {v : Value} {x : List Pt} (h : WantAt w v x) (hb : Below w.heap.size w w') : WantAt w' v x := by
  rcases h with h | ⟨g, cap, h1, h2, h3⟩
  · exact .inl h
  · exact .inr ⟨g, cap, h1, h2, h3.beyond hb⟩
theorem WantAt.plies {w : World} {v : Value} {x : List Pt} (h : WantAt w v x) : PLies w v x := by
  rcases h with ⟨rfl, rfl⟩ | ⟨g, cap, h1, _, h3⟩
  · exact ⟨none, 0, 0, 0, rfl, fun h => absurd rfl h, fun i t ht => by simp at ht⟩
  · exact ⟨_, g, 0, cap, h1, fun _ => rfl, h3⟩

/-! ### Appends in a region that draws its order -/
/-- a row of one's own, and what lies somewhere (perhaps nothing) -/
theorem step_append_own2 {P : Program} (w : World) {ops : Array Oper} {o : Oper} {a : Act} {K : Act → World → Prop} {Q : Exit → Act → World → Prop} {E : Prop} (hgd : o.guard = none) (s x : Operand) (t : TypeId)
    (ho : o.op = .call { callee := .builtin .append, args := #[s, x], argTypes := #[t, t] })
    (base : Nat) (e : TypeId) (i : TypeInfo) (z : Value) (size bytes : Nat) (ht : P.underlying t = some (.slice e)) (hi : P.info? e = some i) (hz : i.zero = some z)
    (hsize : i.size = size) (hby : i.bytes = bytes) (hzs : z.cells.size = size) (hsz : 0 < size)
    (v : Value) (n : Nat) (xs : List Value) (hs : a.eval s = v) (hown : w.ownsRow base e size v n xs)
    (y : Value) (m : Nat) (news : List Value) (hx : a.eval x = y) (hy : (y = .slice none 0 0 ∧ m = 0 ∧ news = []) ∨ ∃ ad c, y = .slice (some ad) m c ∧ news.length = m * size ∧ ∀ j u, news[j]? = some u → w.cell? (ad.add j) = some u) (h1 : ∀ u ∈ news, u.oneCell' = true)
    (h63 : n + m ≤ maxLen) (hbytes : (n + m) * bytes ≤ 140737488355328) (hbase : base ≤ w.heap.size)
    (h : ∀ v' w', w'.ownsRow base e size v' (n + m) (xs ++ news) → w.grownBy w' v.ownBlock → K (a.put o.dst v') w') : if Region.wanted o (yielded ops a.tmps) = true then Oper.wp P o a w K Q else E := by
  have hw : Region.wanted o (yielded ops a.tmps) = true := by simp [Region.wanted, hgd]
  rw [if_pos hw]
  rcases hy with ⟨rfl, rfl, rfl⟩ | ⟨ad, c, rfl, hl, hc⟩
  · have hrun := run_append_owned_none (P := P) (w := w) base t o.type e i size ht hi v n xs hown
    unfold Oper.wp
    simp [execOp, ho, resolve, invoke, builtin, hs, hx, hrun, Result.andThen]
    exact h _ _ (by simpa using hown) ⟨rfl, rfl, rfl, Nat.le_refl _, fun _ _ _ => rfl⟩
  · exact wp_append_own w s x t ho base e i z size bytes ht hi hz hsize hby hzs hsz v n xs hs hown ad m c news hx hl hc h1 h63 hbytes hbase fun v' w' h2 h3 _ => h v' w' h2 h3
/-- onto a slice without room: what lies there, and something, lie in a new row -/
theorem step_append_new2 {P : Program} (w : World) {ops : Array Oper} {o : Oper} {a : Act} {K : Act → World → Prop} {Q : Exit → Act → World → Prop} {E : Prop} (hgd : o.guard = none) (s x : Operand) (t : TypeId)
    (ho : o.op = .call { callee := .builtin .append, args := #[s, x], argTypes := #[t, t] })
    (e : TypeId) (i : TypeInfo) (z : Value) (size bytes : Nat) (ht : P.underlying t = some (.slice e)) (hi : P.info? e = some i) (hz : i.zero = some z)
    (hsize : i.size = size) (hby : i.bytes = bytes)
    (v : Value) (n : Nat) (olds : List Value) (hs : a.eval s = v) (hv : (v = .slice none 0 0 ∧ n = 0 ∧ olds = []) ∨ ∃ ad, v = .slice (some ad) n n ∧ olds.length = n * size ∧ ∀ j u, olds[j]? = some u → w.cell? (ad.add j) = some u)
    (ad : Addr) (m c : Nat) (news : List Value) (hx : a.eval x = .slice (some ad) m c) (hl : news.length = m * size) (hc : ∀ j u, news[j]? = some u → w.cell? (ad.add j) = some u) (hm : 0 < m)
    (h63 : n + m ≤ 1000000) (hb1 : bytes ≤ 1000000)
    (h : ∀ g cap w', Below w.heap.size w w' → (∀ j u, (olds ++ news)[j]? = some u → w'.cell? ⟨g, j, none⟩ = some u) → n + m ≤ cap → g < w'.heap.size → K (a.put o.dst (.slice (some ⟨g, 0, none⟩) (n + m) cap)) w') : if Region.wanted o (yielded ops a.tmps) = true then Oper.wp P o a w K Q else E := by
  have hw : Region.wanted o (yielded ops a.tmps) = true := by simp [Region.wanted, hgd]
  rw [if_pos hw]
  have hbb : (n + m) * bytes ≤ 140737488355328 := by
    have := Nat.mul_le_mul h63 hb1; omega
  have fin : ∀ (cap : Nat) (cells : Array Value), (∀ (j : Nat) (u : Value), (olds ++ news)[j]? = some u → cells[j]? = some u) → n + m ≤ cap → (Builtin.append_ #[t, t] o.type #[v, .slice (some ad) m c]).run P w = .ok (.slice (some ⟨w.heap.size, 0, none⟩) (n + m) cap) (w.drew.alloc (.cells cells e)) → Oper.wp P o a w K Q := by
    intro cap cells hcells hcap hrun
    unfold Oper.wp
    simp [execOp, ho, resolve, invoke, builtin, hs, hx, hrun, Result.andThen]
    refine h _ _ _ (((Below.refl w.heap.size w).drew).alloc (Nat.le_refl _) _) (fun j u hj => ?_) hcap (by simp)
    rw [cell_of_row _ w.heap.size j _ _ _ (heap_alloc_new w.drew _)]
    exact hcells j u hj
  rcases hv with ⟨rfl, rfl, rfl⟩ | ⟨ad0, rfl, hol, hoc⟩
  · have hrun := run_append_nil (P := P) w t o.type e i z ht hi hz ad m c news (by rw [hsize]; exact hl) hc hm (by omega) (by rw [hby]; simp only [Nat.zero_add] at hbb; omega)
    refine fin _ _ (fun j u hj => ?_) ?_ (by simpa using hrun)
    · rw [List.nil_append] at hj
      have hlt := (List.getElem?_eq_some_iff.1 hj).1
      rw [Array.getElem?_append_left (by simpa using hlt)]
      simpa using hj
    · have := grownCap_ge w m 0 e; omega
  · have hrun := run_append_grow (P := P) w t o.type e i z ht hi hz ad0 n n olds (by rw [hsize]; exact hol) hoc ad m c news (by rw [hsize]; exact hl) hc (by omega) (by omega) (by rw [hby]; exact growslice_fits (by omega) hbb)
    refine fin _ _ (fun j u hj => ?_) (grownCap_ge w (n + m) n e) hrun
    have hlt := (List.getElem?_eq_some_iff.1 hj).1
    rw [Array.getElem?_append_left (by simpa using hlt)]
    simpa using hj
end Go.Proofs.YtdfefhoihpbldaaDoor
