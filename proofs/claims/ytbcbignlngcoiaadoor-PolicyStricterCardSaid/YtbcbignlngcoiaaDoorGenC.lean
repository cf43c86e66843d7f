/- What the stages from 5 on share: arrays and rows as they lie, slices of them, bytes that came in, texts as rows. No function of the program. -/
import Derived.Test.YtbcbignlngcoiaaDoorCore
import Derived.OpenShut
import Derived.Deep.Slices
import Derived.Test.YtbcbignlngcoiaaDoorApp
import Derived.Test.YtbcbignlngcoiaaDoorTextC
import Derived.StillTailTactics
import Derived.Laws.ResultCell
import Derived.Deep.RegionHeld3
import Derived.Laws.CopyOwn
import Derived.Lib.SlBytesConst
import Derived.OwnWalk
import Derived.Laws.MakeOwn
namespace Go.Proofs.YtbcbignlngcoiaaDoor
open Go.RowKit Go.Deep Go.ChangeShapes Go.WideShapes

/-- an array in a block of its own -/
def Arr (w : World) (P : Nat) (t : TypeId) (l : List Value) : Prop := w.heap[P]? = some (.cells l.toArray t (0, 0))
theorem Arr.cell {w : World} {P : Nat} {t : TypeId} {l : List Value} (h : Arr w P t l) {i : Nat} {u : Value} (hu : l[i]? = some u) : w.cell? ⟨P, i, none⟩ = some u := by
  rw [cell_of_row w P i _ _ _ h]; simpa using hu
theorem Arr.free {w : World} {P : Nat} {t : TypeId} {l : List Value} (h : Arr w P t l) (i : Nat) : w.frozen? ⟨P, i, none⟩ = false := by
  unfold Arr at h; simp [World.frozen?, h]
theorem Arr.set {w : World} {P : Nat} {t : TypeId} {l : List Value} (h : Arr w P t l) (i : Nat) (u : Value) : Arr (w.setCell ⟨P, i, none⟩ u) P t (l.set i u) := by
  unfold Arr at h ⊢
  rw [heap_setCell_same w P i _ _ u h]; simp
theorem Arr.only {S : Nat → Prop} {w w' : World} {P : Nat} {t : TypeId} {l : List Value} (h : Arr w P t l) (ho : Only S w w') (hS : ¬ S P) : Arr w' P t l := (ho.block P (lt_of_block h) hS).trans h
theorem Arr.lt {w : World} {P : Nat} {t : TypeId} {l : List Value} (h : Arr w P t l) : P < w.heap.size := lt_of_block h
theorem lies_len {w : World} {v : Value} {bs : List Nat} (h : Lies w v bs) : ∃ a c, v = .slice a bs.length c := by
  rcases h with ⟨rfl, rfl⟩ | ⟨ad, c, rfl, rfl⟩ | ⟨b, off, c, rfl, _⟩ <;> exact ⟨_, _, rfl⟩
theorem own_empty (w : World) : (w.alloc (.cells #[] 5)).ownsRow w.heap.size 5 1 (.slice (some ⟨w.heap.size, 0, none⟩) 0 0) 0 [] :=
  ⟨rfl, .inr ⟨w.heap.size, 0, #[], rfl, Nat.le_refl _, heap_alloc_new w _, Nat.le_refl _, Nat.zero_le _, rfl, rfl⟩⟩
theorem lies_keep {w w' : World} {v : Value} {bs : List Nat} (h : Lies w v bs) (hb : Below w.heap.size w w') : Lies w' v bs := by
  rcases h with h | ⟨ad, c, h⟩ | ⟨b, off, c, h1, h2⟩
  · exact .inl h
  · exact .inr (.inl ⟨ad, c, h⟩)
  · exact .inr (.inr ⟨b, off, c, h1, fun j hj => by have hc := h2 j hj; rw [← hc]; exact hb.cell (p := ⟨b, off + j, none⟩) (by have := cell_lt hc; exact this)⟩)
theorem add_at (g off j : Nat) : (⟨g, off, none⟩ : Addr).add j = ⟨g, off + j, none⟩ := by unfold Addr.add; split <;> simp_all
theorem run_loadVar_part {P : Program} (w : World) (g off : Nat) (ty : TypeId) (cs : List Value) (d : TypeDesc) (hc : ∀ j v, cs[j]? = some v → w.cell? ⟨g, off + j, none⟩ = some v)
    (hu : P.underlying ty = some d) (hd : (match d with | .struct _ | .array _ _ => true | _ => false) = true) (hi : (P.info? ty).map (·.size) = some cs.length) :
    (loadVar ty ⟨g, off, none⟩).run P w = .ok (.agg cs.toArray) w := by
  have hl : (loadCells ⟨g, off, none⟩ cs.length).run P w = .ok cs.toArray w :=
    run_loadCells_list (P := P) w ⟨g, off, none⟩ cs (fun j v hv => by rw [add_at]; exact hc j v hv)
  cases hq : P.info? ty with
  | none => simp [hq] at hi
  | some i =>
    have hs : i.size = cs.length := by simpa [hq] using hi
    have hagg : (isAgg ty).run P w = .ok true w := by
      unfold isAgg
      rw [Sem.run_bind, run_underlying hu w]
      cases d <;> simp_all
    simp [loadVar, Sem.run_bind, hagg, sizeOf, typeInfo, hq, hs, hl]
theorem run_load_part {P : Program} (w : World) {o : Oper} {a : Act} (ty : TypeId) (x : Operand) (ho : o.op = .load ty x) (g off : Nat) (hx : a.eval x = .pointer (some ⟨g, off, none⟩)) (cs : List Value) (d : TypeDesc) (hc : ∀ j v, cs[j]? = some v → w.cell? ⟨g, off + j, none⟩ = some v)
    (hu : P.underlying ty = some d) (hd : (match d with | .struct _ | .array _ _ => true | _ => false) = true) (hi : (P.info? ty).map (·.size) = some cs.length) :
    (execOp a.eval o).run P w = .ok (.value (.agg cs.toArray)) w := by
  unfold execOp
  simp only [ho, hx, Instr.loadAt, Instr.sureAddr, Sem.run_bind, Sem.run_pure, Result.andThen_ok, run_loadVar_part w g off ty cs d hc hu hd hi]
theorem wpList_load_part {P : Program} {ops : Array Oper} {rest : List Oper} {o : Oper} {a : Act} {w : World} {Q : Exit → Act → World → Prop} (hgd : o.guard = none) (ty : TypeId) (x : Operand) (ho : o.op = .load ty x)
    (g off : Nat) (hx : a.eval x = .pointer (some ⟨g, off, none⟩)) (cs : List Value) (d : TypeDesc) (hc : ∀ j v, cs[j]? = some v → w.cell? ⟨g, off + j, none⟩ = some v)
    (hu : P.underlying ty = some d) (hd : (match d with | .struct _ | .array _ _ => true | _ => false) = true) (hi : (P.info? ty).map (·.size) = some cs.length)
    (h : wpList P ops Q rest (a.put o.dst (.agg cs.toArray)) w) : wpList P ops Q (o :: rest) a w :=
  wpList_plain hgd fun _ hK => by
    unfold Oper.wp
    rw [run_load_part w ty x ho g off hx cs d hc hu hd hi]
    exact hK _ _ h
theorem splice_at {α : Type} (L : List α) (off : Nat) (cs : List α) (h : off ≤ L.length) (k : Nat) : (splice L off cs)[k]? = if k < off then L[k]? else if k < off + cs.length then cs[k - off]? else L[k]? := by
  unfold splice
  by_cases h1 : k < off
  · rw [if_pos h1, List.getElem?_append_left (by simp; omega), List.getElem?_take, if_pos h1]
  · rw [if_neg h1, List.getElem?_append_right (by simp; omega), List.length_take, show min off L.length = off by omega]
    by_cases h2 : k < off + cs.length
    · rw [if_pos h2, List.getElem?_append_left (by omega)]
    · rw [if_neg h2, List.getElem?_append_right (by omega), List.getElem?_drop]
      congr 1; omega
/-- a row of cells laid over from a place on -/
theorem run_storeCells_part {P : Program} (g off : Nat) (t : TypeId) : ∀ (vs : List Value) (i : Nat) (cur : List Value) (w : World), w.heap[g]? = some (.cells cur.toArray t (0, 0)) → off + i + vs.length ≤ cur.length → (∀ v ∈ vs, v.oneCell' = true) →
    (storeCells ⟨g, off, none⟩ vs i).run P w = .ok () (w.setRow g (splice cur (off + i) vs).toArray)
  | [], i, cur, w, hg, hl, _ => by
    have e : splice cur (off + i) [] = cur := by simp [splice]
    have hlt : g < w.heap.size := (Array.getElem?_eq_some_iff.1 hg).1
    have hv : w.heap[g] = .cells cur.toArray t (0, 0) := (Array.getElem?_eq_some_iff.1 hg).2
    rw [e]
    simp only [storeCells]
    show Result.ok () w = _
    congr 1
    unfold World.setRow
    cases w with
    | mk heap tape drawn os output =>
      congr 1
      apply Array.ext
      · simp
      · intro k h1 h2
        simp only [Array.getElem_modify]
        split
        · rename_i hk; subst hk; simp at hv; simp [hv]
        · rfl
  | v :: rest, i, cur, w, hg, hl, h1 => by
    have hi : off + i < cur.length := by simp at hl; omega
    have hcell : w.cell? ⟨g, off + i, none⟩ = some cur[off + i] := by simp [World.cell?, hg, hi]
    have hfro : w.frozen? ⟨g, off + i, none⟩ = false := by simp [World.frozen?, hg]
    have hst : (store ((⟨g, off, none⟩ : Addr).add i) v).run P w = .ok () (w.setRow g (cur.set (off + i) v).toArray) := by
      rw [add_at, run_store P w _ v _ (h1 v (by simp)), hcell]
      simp [hfro, setCell_eq_setRow w g (off + i) cur.toArray t (0, 0) v hg]
    have ih := run_storeCells_part (P := P) g off t rest (i + 1) (cur.set (off + i) v) (w.setRow g (cur.set (off + i) v).toArray) (setRow_heap w g cur.toArray _ t _ hg) (by simp at hl ⊢; omega) (fun x hx => h1 x (by simp [hx]))
    simp only [storeCells, Sem.run_bind, hst, Result.andThen_ok, ih, setRow_setRow]
    congr 3
    apply List.ext_getElem?
    intro k
    rw [splice_at _ _ _ (by simp; omega), splice_at _ _ _ (by omega)]
    by_cases hk : k < off + i
    · rw [if_pos (by omega), if_pos hk, List.getElem?_set_ne (by omega)]
    · by_cases hk2 : k = off + i
      · subst hk2
        rw [if_pos (by omega), if_neg hk, if_pos (by simp), List.getElem?_set_self hi]
        simp
      · rw [if_neg (by omega), if_neg hk, show k - (off + i) = (k - (off + (i + 1))) + 1 by omega, List.getElem?_cons_succ, List.getElem?_set_ne (by omega)]
        simp only [List.length_cons]
        by_cases hk3 : k < off + (i + 1) + rest.length
        · rw [if_pos hk3, if_pos (by omega)]
        · rw [if_neg hk3, if_neg (by omega)]
theorem run_storeVar_part {P : Program} (w : World) (g off : Nat) (t ty : TypeId) (cur cs : List Value) (hg : w.heap[g]? = some (.cells cur.toArray t (0, 0))) (hi : (P.info? ty).map (·.size) = some cs.length)
    (hfit : off + cs.length ≤ cur.length) (h1 : ∀ v ∈ cs, v.oneCell' = true) : (storeVar ty ⟨g, off, none⟩ (.agg cs.toArray)).run P w = .ok () (w.setRow g (splice cur off cs).toArray) := by
  have := run_storeCells_part (P := P) g off t cs 0 cur w hg (by omega) h1
  cases hq : P.info? ty with
  | none => simp [hq] at hi
  | some i =>
    have hs : cs.length = i.size := by simp [hq] at hi; omega
    simp only [Nat.add_zero] at this
    simp [storeVar, sizeOf, typeInfo, hq, Value.cells, hs, this]
theorem wp_store_part {P : Program} {o : Oper} {a : Act} {w : World} {K : Act → World → Prop} {Q : Exit → Act → World → Prop} (ty : TypeId) (x y : Operand) (ho : o.op = .store ty x y)
    (g off : Nat) (cs : List Value) (hx : a.eval x = .pointer (some ⟨g, off, none⟩)) (hy : a.eval y = .agg cs.toArray)
    (t : TypeId) (cur : List Value) (hg : w.heap[g]? = some (.cells cur.toArray t (0, 0))) (hi : (P.info? ty).map (·.size) = some cs.length)
    (hfit : off + cs.length ≤ cur.length) (h1 : ∀ v ∈ cs, v.oneCell' = true)
    (h : K (a.put o.dst undef) (w.setRow g (splice cur off cs).toArray)) : o.wp P a w K Q := by
  unfold Oper.wp execOp
  simp only [ho, hx, hy, Instr.storeAt, Instr.sureAddr, Sem.run_bind, Sem.run_pure, Result.andThen_ok, run_storeVar_part w g off t ty cur cs hg hi hfit h1]
  exact h
theorem wpList_store_part {P : Program} {ops : Array Oper} {rest : List Oper} {o : Oper} {a : Act} {w : World} {Q : Exit → Act → World → Prop} (hgd : o.guard = none) (ty : TypeId) (x y : Operand) (ho : o.op = .store ty x y)
    (g off : Nat) (cs : List Value) (hx : a.eval x = .pointer (some ⟨g, off, none⟩)) (hy : a.eval y = .agg cs.toArray)
    (t : TypeId) (cur : List Value) (hg : w.heap[g]? = some (.cells cur.toArray t (0, 0))) (hi : (P.info? ty).map (·.size) = some cs.length)
    (hfit : off + cs.length ≤ cur.length) (h1 : ∀ v ∈ cs, v.oneCell' = true)
    (h : wpList P ops Q rest (a.put o.dst undef) (w.setRow g (splice cur off cs).toArray)) : wpList P ops Q (o :: rest) a w :=
  wpList_plain hgd fun _ hK => wp_store_part ty x y ho g off cs hx hy t cur hg hi hfit h1 (hK _ _ h)
/-- an array's value, indexed -/
theorem run_index_one {P : Program} (w : World) (t e : TypeId) (n : Nat) (cs : List Value) (k : IntKind) (i : Nat) (v : Value) (ht : P.underlying t = some (.array n e)) (d : TypeDesc) (he : P.underlying e = some d)
    (hd : (match d with | .struct _ | .array _ _ => true | _ => false) = false) (hs : (P.info? e).map (·.size) = some 1) (hi : i < n) (hv : cs[i]? = some v) :
    (Instr.index t (.agg cs.toArray) (.int k (i : Int))).run P w = .ok v w := by
  cases hq : P.info? e with
  | none => simp [hq] at hs
  | some ii =>
    have hss : ii.size = 1 := by simpa [hq] using hs
    have hagg : (isAgg e).run P w = .ok false w := by
      unfold isAgg
      rw [Sem.run_bind, run_underlying he w]
      cases d <;> simp_all
    have hp : (part e cs.toArray (i * 1)).run P w = .ok v w := by
      unfold part
      rw [Sem.run_bind, hagg]
      simp [hv]
    have hin : (0 : Int) ≤ (i : Int) ∧ (i : Int) < (n : Int) := by omega
    unfold part at hp
    simp only [Sem.run_bind, hagg, Result.andThen_ok, Nat.mul_one] at hp
    simp [Instr.index, asIntOf, Sem.run_bind, run_underlying ht w, hi, sizeOf, typeInfo, hq, hss, part, hagg, hv]
theorem wpList_index_one {P : Program} {ops : Array Oper} {rest : List Oper} {o : Oper} {a : Act} {w : World} {Q : Exit → Act → World → Prop} (hgd : o.guard = none) (t : TypeId) (x y : Operand) (ho : o.op = .index t x y)
    (cs : List Value) (k : IntKind) (i : Nat) (v : Value) (hx : a.eval x = .agg cs.toArray) (hy : a.eval y = .int k (i : Int)) (n : Nat) (e : TypeId) (d : TypeDesc) (ht : P.underlying t = some (.array n e)) (he : P.underlying e = some d)
    (hd : (match d with | .struct _ | .array _ _ => true | _ => false) = false) (hs : (P.info? e).map (·.size) = some 1) (hi : i < n) (hv : cs[i]? = some v)
    (h : wpList P ops Q rest (a.put o.dst v) w) : wpList P ops Q (o :: rest) a w :=
  wpList_plain hgd fun _ hK => by
    unfold Oper.wp execOp
    simp only [ho, hx, hy, Sem.run_bind, Sem.run_pure, Result.andThen_ok, run_index_one w t e n cs k i v ht d he hd hs hi hv]
    exact hK _ _ h
theorem arr_new (w : World) (t : TypeId) (l : List Value) : Arr (w.alloc (.cells l.toArray t)) w.heap.size t l := heap_alloc_new w _
theorem Arr.alloc {w : World} {P : Nat} {t : TypeId} {l : List Value} (h : Arr w P t l) (o : Obj) : Arr (w.alloc o) P t l := by
  have h0 := h.lt
  unfold Arr at h ⊢; exact (Below.heap_alloc _ _ _ h0).trans h
theorem all_one {l : List Value} (h : ∀ u ∈ l, u.oneCell' = true) : l.toArray.all (·.oneCell') = true := by
  rw [Array.all_eq_true_iff_forall_mem]; intro u hu; exact h u (by simpa using hu)
/-- b[n:] of a slice of one-cell elements, its value behind a letter -/
def tailS (b off m cap n : Nat) : Value := .slice (some (if cap = n then ⟨b, off, none⟩ else ⟨b, off + n, none⟩)) (m - n) (cap - n)
theorem run_tail {P : Program} (w : World) (t e : TypeId) (ht : P.underlying t = some (.slice e)) (hs : (P.info? e).map (·.size) = some 1) (b off m cap n : Nat) (k : IntKind) (hn : n ≤ m) :
    (Instr.slice t (.slice (some ⟨b, off, none⟩) m cap) (some (.int k (n : Int))) none none).run P w = .ok (tailS b off m cap n) w := by
  cases hq : P.info? e with
  | none => simp [hq] at hs
  | some ii =>
    have hss : ii.size = 1 := by simpa [hq] using hs
    have hsz : (sizeOf e).run P w = .ok 1 w := by simp [sizeOf, typeInfo, hq, hss]
    have hb : (Instr.sliceBounds true m cap (some (.int k (n : Int))) none none).run P w = .ok (n, m, cap) w := by
      simp [Instr.sliceBounds, Instr.sliceBound, asIntOf, hn]
    simp only [Instr.slice, Sem.run_bind, run_underlying ht, Result.andThen_ok, hb, hsz, Sem.run_pure, tailS]
    congr 3
    by_cases hc : cap = n
    · rw [if_pos hc, if_pos hc]
    · rw [if_neg hc, if_neg hc, Option.map_some, add_at, Nat.mul_one]
theorem wpList_tail {P : Program} {ops : Array Oper} {rest : List Oper} {o : Oper} {a : Act} {w : World} {Q : Exit → Act → World → Prop} (hgd : o.guard = none) (t : TypeId) (x y : Operand) (ho : o.op = .slice t x (some y) none none)
    (e : TypeId) (ht : P.underlying t = some (.slice e)) (hs : (P.info? e).map (·.size) = some 1) (b off m cap n : Nat) (k : IntKind) (hx : a.eval x = .slice (some ⟨b, off, none⟩) m cap) (hy : a.eval y = .int k (n : Int)) (hn : n ≤ m)
    (h : ∀ V, Hid (V = tailS b off m cap n) → wpList P ops Q rest (a.put o.dst V) w) : wpList P ops Q (o :: rest) a w :=
  wpList_plain hgd fun _ hK => by
    have hat : (Instr.sliceAt t (.slice (some ⟨b, off, none⟩) m cap) (some (.int k (n : Int))) none none).run P w = .ok (tailS b off m cap n) w := by
      rw [← run_tail w t e ht hs b off m cap n k hn]
      simp [Instr.sliceAt, run_underlying ht]
    unfold Oper.wp execOp
    simp only [ho, hx, hy, Option.map_some, Option.map_none, Sem.run_bind, Sem.run_pure, hat, Result.andThen_ok]
    exact hK _ _ (h _ rfl)
/-- a[:n:n] of an array -/
theorem run_cut {P : Program} (w : World) (t e : TypeId) (N : Nat) (ht : P.underlying t = some (.array N e)) (hs : (P.info? e).map (·.size) = some 1) (g off n : Nat) (k : IntKind) (hn : n ≤ N) :
    (Instr.sliceAt t (.pointer (some ⟨g, off, none⟩)) none (some (.int k (n : Int))) (some (.int k (n : Int)))).run P w = .ok (.slice (some ⟨g, off, none⟩) n n) w := by
  cases hq : P.info? e with
  | none => simp [hq] at hs
  | some ii =>
    have hss : ii.size = 1 := by simpa [hq] using hs
    have hsz : (sizeOf e).run P w = .ok 1 w := by simp [sizeOf, typeInfo, hq, hss]
    have hb : (Instr.sliceBounds false N N none (some (.int k (n : Int))) (some (.int k (n : Int)))).run P w = .ok (0, n, n) w := by
      simp [Instr.sliceBounds, Instr.sliceBound, asIntOf, hn]
    simp only [Instr.sliceAt, Instr.sureAddr, Sem.run_bind, run_underlying ht, Result.andThen_ok, hb, hsz, Sem.run_pure]
    congr 3
    by_cases hc : n = 0
    · rw [if_pos hc]
    · rw [if_neg hc, add_at, Nat.zero_mul, Nat.add_zero]
theorem wpList_cut {P : Program} {ops : Array Oper} {rest : List Oper} {o : Oper} {a : Act} {w : World} {Q : Exit → Act → World → Prop} (hgd : o.guard = none) (t : TypeId) (x y z : Operand) (ho : o.op = .slice t x none (some y) (some z))
    (e : TypeId) (N : Nat) (ht : P.underlying t = some (.array N e)) (hs : (P.info? e).map (·.size) = some 1) (g off n : Nat) (k : IntKind) (hx : a.eval x = .pointer (some ⟨g, off, none⟩)) (hy : a.eval y = .int k (n : Int)) (hz : a.eval z = .int k (n : Int)) (hn : n ≤ N)
    (h : wpList P ops Q rest (a.put o.dst (.slice (some ⟨g, off, none⟩) n n)) w) : wpList P ops Q (o :: rest) a w :=
  wpList_plain hgd fun _ hK => by
    unfold Oper.wp execOp
    simp only [ho, hx, hy, hz, Option.map_some, Option.map_none, Sem.run_bind, Sem.run_pure, run_cut w t e N ht hs g off n k hn, Result.andThen_ok]
    exact hK _ _ h
/-- a guard: the operation's slot -/
theorem wpList_dst {P : Program} {ops : Array Oper} {rest : List Oper} {o : Oper} {a : Act} {w : World} {Q : Exit → Act → World → Prop} (d : Option Tmp) (_hd : o.dst = d) (h : wpList P ops Q (o :: rest) a w) : wpList P ops Q (o :: rest) a w := h
/-- the world at hand by a letter -/
theorem wpList_name {P : Program} {ops : Array Oper} {l : List Oper} {a : Act} {w : World} {Q : Exit → Act → World → Prop} (h : ∀ W, Hid (W = w) → wpList P ops Q l a W) : wpList P ops Q l a w := h w rfl
theorem calls_name {P : Program} {f : FuncId} {args : Array Value} {w : World} {Q : Ending → World → Prop} (h : ∀ W, Hid (W = w) → Calls P f args W Q) : Calls P f args w Q := h w rfl
/-- in a region's head that only reads: an operation by what its run gives -/
theorem wpStill_value {P : Program} {ops : Array Oper} {w : World} {Q : Act → Prop} {rest : List Oper} {o : Oper} {a : Act} {v : Value} (hgd : o.guard = none) (hr : (execOp a.eval o).run P w = .ok (.value v) w)
    (h : wpStill P ops w Q rest (a.put o.dst v)) : wpStill P ops w Q (o :: rest) a := by
  refine wpStill_step fun K hK => ?_
  rw [if_pos (by simp [Region.wanted, hgd])]
  unfold Oper.still
  rw [hr, Oper.stillUpon_value]
  exact hK _ h
/-- in a region that draws its order: an operation by what its run gives; a store into a part of a block -/
theorem step_value {P : Program} {ops : Array Oper} {o : Oper} {a : Act} {w : World} {K : Act → World → Prop} {Q : Exit → Act → World → Prop} {E : Prop} {v : Value} (hgd : o.guard = none) (hr : (execOp a.eval o).run P w = .ok (.value v) w)
    (h : K (a.put o.dst v) w) : if Region.wanted o (yielded ops a.tmps) = true then Oper.wp P o a w K Q else E := by
  rw [if_pos (by simp [Region.wanted, hgd])]
  unfold Oper.wp
  rw [hr]
  exact h
theorem step_store_part {P : Program} {ops : Array Oper} {o : Oper} {a : Act} {w : World} {K : Act → World → Prop} {Q : Exit → Act → World → Prop} {E : Prop} (hgd : o.guard = none) (ty : TypeId) (x y : Operand) (ho : o.op = .store ty x y)
    (g off : Nat) (cs : List Value) (hx : a.eval x = .pointer (some ⟨g, off, none⟩)) (hy : a.eval y = .agg cs.toArray)
    (t : TypeId) (cur : List Value) (hg : w.heap[g]? = some (.cells cur.toArray t (0, 0))) (hi : (P.info? ty).map (·.size) = some cs.length)
    (hfit : off + cs.length ≤ cur.length) (h1 : ∀ v ∈ cs, v.oneCell' = true)
    (hd : o.dst = none) (h : K a (w.setRow g (splice cur off cs).toArray)) : if Region.wanted o (yielded ops a.tmps) = true then Oper.wp P o a w K Q else E := by
  rw [if_pos (by simp [Region.wanted, hgd])]
  exact wp_store_part ty x y ho g off cs hx hy t cur hg hi hfit h1 (by rw [hd]; exact h)
/-- to stop a walk at an operation: 'repeat (fail_if_success (refine wpList_at (op := ..) rfl ?_); first | ..)' -/
theorem wpList_at {P : Program} {ops : Array Oper} {rest : List Oper} {o : Oper} {a : Act} {w : World} {Q : Exit → Act → World → Prop} (op : Op) (_ho : o.op = op) (h : wpList P ops Q (o :: rest) a w) : wpList P ops Q (o :: rest) a w := h
/-- a new variable, its noughts said -/
theorem wpList_alloc_zero {P : Program} {ops : Array Oper} {rest : List Oper} {o : Oper} {a : Act} {w : World} {Q : Exit → Act → World → Prop} (hgd : o.guard = none) (t : TypeId) (ho : o.op = .alloc t) (z : List Value)
    (hz : ((P.info? t).bind (·.zero)).map (·.cells) = some z.toArray)
    (h : wpList P ops Q rest (a.put o.dst (.pointer (some ⟨w.heap.size, 0, none⟩))) (w.alloc (.cells z.toArray t))) : wpList P ops Q (o :: rest) a w := by
  refine wpList_plain hgd fun K hK => ?_
  cases hi : P.info? t with
  | none => simp [hi] at hz
  | some i =>
    cases hzz : i.zero with
    | none => simp [hi, hzz] at hz
    | some v =>
      have hv : v.cells = z.toArray := by simpa [hi, hzz] using hz
      have hzv : (zeroValue t).run P w = .ok v w := by simp [zeroValue, typeInfo, hi, hzz]
      unfold Oper.wp execOp
      simp only [ho, Instr.alloc, newVar, newRow, Sem.run_bind, hzv, run_newObj_alloc, Sem.run_pure, Result.andThen_ok, hv]
      exact hK _ _ h
/-- a build whose parts are closed, its cells said -/
theorem wpList_build_said {P : Program} {ops : Array Oper} {rest : List Oper} {o : Oper} {a : Act} {w : World} {Q : Exit → Act → World → Prop} (hg : o.guard = none) (t : TypeId) (parts : Array (Nat × Operand)) (ho : o.op = .build t parts)
    (cells : Array Value) (hf : P.built t (parts.map fun (i, x) => (i, a.eval x)).toList = some cells)
    (h : wpList P ops Q rest (a.put o.dst (.agg cells)) w) : wpList P ops Q (o :: rest) a w := by
  refine wpList_build hg t parts ho (by rw [hf]; rfl) ?_
  rw [hf]
  exact h
/-- an array's value into a block of its own -/
theorem wpList_box_agg {P : Program} {ops : Array Oper} {rest : List Oper} {o : Oper} {a : Act} {w : World} {Q : Exit → Act → World → Prop} (hg : o.guard = none) (t : TypeId) (x : Operand) (ho : o.op = .box t x) (cs : Array Value) (hx : a.eval x = .agg cs)
    (h : wpList P ops Q rest (a.put o.dst (.pointer (some ⟨w.heap.size, 0, none⟩))) (w.alloc (.cells cs t))) : wpList P ops Q (o :: rest) a w := by
  refine wpList_plain hg fun K hK => ?_
  unfold Oper.wp execOp
  simp only [ho, hx, Sem.run_bind, Instr.box, newVar, newRow, run_newObj_alloc, Sem.run_pure, Result.andThen_ok]
  exact hK _ _ h
/-- a slice whose length its capacity holds -/
def Fits (v : Value) : Prop := ∀ a m c, v = .slice a m c → m ≤ c
theorem fits_slice {a : Option Addr} {m c : Nat} (h : m ≤ c) : Fits (.slice a m c) := fun _ _ _ e => by cases e; exact h
/-- '[]byte(..)' of a constant: its row by its own type -/
theorem wpList_conv_const {P : Program} {ops : Array Oper} {rest : List Oper} {o : Oper} {a : Act} {w : World} {Q : Exit → Act → World → Prop} (hgd : o.guard = none) (t e : TypeId) (x : Operand) (ho : o.op = .convert t t x)
    (C : Array Value) (n c : Nat) (hx : a.eval x = .slice (some ⟨w.heap.size, 0, none⟩) n c) (ht : P.underlying t = some (.slice e)) (he : P.underlying e = some (.int .u8))
    (h : wpList P ops Q rest (a.put o.dst (.slice (some ⟨w.heap.size, 0, none⟩) n c)) (w.alloc (.cells C e (C.size, C.size + 1)))) : wpList P ops Q (o :: rest) a (w.alloc (.cells C e)) :=
  wpList_plain hgd fun K hK => by
    unfold Oper.wp execOp
    simp only [ho, hx, Sem.run_bind, Lib.run_convert_bytes_const w t e C n c ht he, Result.andThen_ok, Sem.run_pure]
    exact hK _ _ h
theorem const_lies (w : World) (l : List Nat) (fr : Nat × Nat) : Lies (w.alloc (.cells (u8s l).toArray 5 fr)) (.slice (some ⟨w.heap.size, 0, none⟩) l.length l.length) l := by
  refine .inr (.inr ⟨w.heap.size, 0, l.length, rfl, fun j hj => ?_⟩)
  rw [cell_of_row _ w.heap.size (0 + j) _ _ _ (heap_alloc_new w _), Nat.zero_add]
  simpa using u8s_getD l j hj
theorem items_same (w : World) (d : Nat) (l : List Nat) : ∀ is : List Nat, (∀ i ∈ is, i < l.length) → (Op.eqItems (d + 1) 5 1 (u8s l).toArray (u8s l).toArray is).run Tryd.prog w = .ok true w
  | [], _ => by simp [Op.eqItems]
  | i :: is, h => by
    have hi := h i (by simp)
    have hp : (part 5 (u8s l).toArray (i * 1)).run Tryd.prog w = .ok (.int .u8 ((l.getD i 0 : Nat) : Int)) w := by
      have hagg : (isAgg 5).run Tryd.prog w = .ok false w := by
        unfold isAgg
        rw [Sem.run_bind, run_underlying Tryd.underlying5 w]
        rfl
      have hg := u8s_getD l i hi
      unfold part
      rw [Sem.run_bind, hagg]
      simp only [Result.andThen_ok, Nat.mul_one, List.getElem?_toArray, hg]
      rfl
    have ih := items_same w d l is (fun j hj => h j (by simp [hj]))
    simp only [Op.eqItems, Sem.run_bind, hp, Result.andThen_ok, run_equalIn_int w d 5 .u8 .u8 _ _ Tryd.underlying5, beq_self_eq_true]
    simpa using ih
def midS (a : Option Addr) (cap lo hi : Nat) : Value := .slice (if cap = lo then a else a.map (·.add lo)) (hi - lo) (cap - lo)
theorem run_mid {P : Program} (w : World) (t e : TypeId) (ht : P.underlying t = some (.slice e)) (hs : (P.info? e).map (·.size) = some 1) (a : Option Addr) (m cap lo hi : Nat) (low high : Option Value)
    (hb : (Instr.sliceBounds true m cap low high none).run P w = .ok (lo, hi, cap) w) :
    (Instr.sliceAt t (.slice a m cap) low high none).run P w = .ok (midS a cap lo hi) w := by
  cases hq : P.info? e with
  | none => simp [hq] at hs
  | some ii =>
    have hss : ii.size = 1 := by simpa [hq] using hs
    have hsz : (sizeOf e).run P w = .ok 1 w := by simp [sizeOf, typeInfo, hq, hss]
    have h1 : (Instr.sliceAt t (.slice a m cap) low high none).run P w = (Instr.slice t (.slice a m cap) low high none).run P w := by simp [Instr.sliceAt, run_underlying ht]
    rw [h1]
    simp only [Instr.slice, Sem.run_bind, run_underlying ht, Result.andThen_ok, hb, hsz, Sem.run_pure, midS, Nat.mul_one]
theorem bounds_lh {P : Program} (w : World) (m cap lo hi : Nat) (h1 : lo ≤ hi) (h2 : hi ≤ cap) : (Instr.sliceBounds true m cap (some (.int .i64 (lo : Int))) (some (.int .i64 (hi : Int))) none).run P w = .ok (lo, hi, cap) w := by
  simp [Instr.sliceBounds, Instr.sliceBound, asIntOf, h1, h2]
theorem bounds_h {P : Program} (w : World) (m cap hi : Nat) (h2 : hi ≤ cap) : (Instr.sliceBounds true m cap none (some (.int .i64 (hi : Int))) none).run P w = .ok (0, hi, cap) w := by
  simp [Instr.sliceBounds, Instr.sliceBound, asIntOf, h2]
theorem bounds_l {P : Program} (w : World) (m cap lo : Nat) (h1 : lo ≤ m) : (Instr.sliceBounds true m cap (some (.int .i64 (lo : Int))) none none).run P w = .ok (lo, m, cap) w := by
  simp [Instr.sliceBounds, Instr.sliceBound, asIntOf, h1]
theorem run_mid_op {P : Program} (w : World) {o : Oper} {a : Act} (t : TypeId) (x : Operand) (lo hi : Option Operand) (ho : o.op = .slice t x lo hi none) (e : TypeId) (ht : P.underlying t = some (.slice e)) (hs : (P.info? e).map (·.size) = some 1)
    (a0 : Option Addr) (m cap l h : Nat) (low high : Option Value) (hx : a.eval x = .slice a0 m cap) (hlo : lo.map a.eval = low) (hhi : hi.map a.eval = high) (hb : ∀ w, (Instr.sliceBounds true m cap low high none).run P w = .ok (l, h, cap) w) :
    (execOp a.eval o).run P w = .ok (.value (midS a0 cap l h)) w := by
  unfold execOp
  simp only [ho, hx, hlo, hhi, Option.map_none, Sem.run_bind, run_mid w t e ht hs a0 m cap l h low high (hb w), Result.andThen_ok, Sem.run_pure]
theorem wpList_mid {P : Program} {ops : Array Oper} {rest : List Oper} {o : Oper} {a : Act} {w : World} {Q : Exit → Act → World → Prop} (hgd : o.guard = none) (t : TypeId) (x : Operand) (lo hi : Option Operand) (ho : o.op = .slice t x lo hi none)
    (e : TypeId) (ht : P.underlying t = some (.slice e)) (hs : (P.info? e).map (·.size) = some 1) (a0 : Option Addr) (m cap l h : Nat) (low high : Option Value) (hx : a.eval x = .slice a0 m cap) (hlo : lo.map a.eval = low) (hhi : hi.map a.eval = high)
    (hb : ∀ w, (Instr.sliceBounds true m cap low high none).run P w = .ok (l, h, cap) w) (hK : ∀ V, Hid (V = midS a0 cap l h) → wpList P ops Q rest (a.put o.dst V) w) : wpList P ops Q (o :: rest) a w :=
  wpList_plain hgd fun _ hK' => by
    unfold Oper.wp
    rw [run_mid_op w t x lo hi ho e ht hs a0 m cap l h low high hx hlo hhi hb]
    exact hK' _ _ (hK _ rfl)
theorem lies_mid {w : World} {a : Option Addr} {c : Nat} {bs : List Nat} (hv : Lies w (.slice a bs.length c) bs) (hf : bs.length ≤ c) {lo hi : Nat} (h1 : lo ≤ hi) (h2 : hi ≤ bs.length) : Lies w (midS a c lo hi) ((bs.drop lo).take (hi - lo)) := by
  unfold midS
  rcases hv with ⟨hv, rfl⟩ | ⟨ad, c', hv, rfl⟩ | ⟨b, off, c', hv, hb⟩
  · cases hv
    have h3 : hi = 0 := by simpa using h2
    subst h3
    have h4 : lo = 0 := by omega
    subst h4
    exact .inl ⟨by simp, by simp⟩
  · cases hv
    have h3 : hi = 0 := by simpa using h2
    subst h3
    have h4 : lo = 0 := by omega
    subst h4
    refine .inr (.inl ⟨ad, c, ?_, by simp⟩)
    simp [Addr.add]
  · cases hv
    have hl : ((bs.drop lo).take (hi - lo)).length = hi - lo := by rw [List.length_take, List.length_drop]; omega
    by_cases he : hi - lo = 0
    · refine .inr (.inl ⟨if c = lo then ⟨b, off, none⟩ else ⟨b, off + lo, none⟩, c - lo, ?_, List.length_eq_zero_iff.1 (by rw [hl]; exact he)⟩)
      rw [he]
      split <;> simp [add_at]
    · refine .inr (.inr ⟨b, off + lo, c - lo, ?_, fun j hj => ?_⟩)
      · rw [hl, if_neg (by omega), Option.map_some, add_at]
      · rw [hl] at hj
        have := hb (lo + j) (by omega)
        rw [Nat.add_assoc, this]
        simp [List.getD, hj]
theorem fits_mid {a : Option Addr} {c lo hi : Nat} (h : hi ≤ c) : Fits (midS a c lo hi) := fits_slice (by omega)
theorem own_fits {w : World} {B : Nat} {e : TypeId} {v : Value} {n : Nat} {xs : List Value} (h : w.ownsRow B e 1 v n xs) : Fits v := by
  rcases h.2 with ⟨rfl, h0⟩ | ⟨g, cap, cur, rfl, _, _, hc, _⟩
  · exact fits_slice (Nat.le_refl _)
  · exact fits_slice hc
theorem lies_form {w : World} {v : Value} {bs : List Nat} (h : Lies w v bs) : ∃ a c, v = .slice a bs.length c ∧ (bs ≠ [] → ∃ b off, a = some ⟨b, off, none⟩ ∧ BytesAt w b off bs) := by
  rcases h with ⟨rfl, rfl⟩ | ⟨ad, c, rfl, rfl⟩ | ⟨b, off, c, rfl, hb⟩
  · exact ⟨_, _, rfl, fun h => absurd rfl h⟩
  · exact ⟨_, _, rfl, fun h => absurd rfl h⟩
  · exact ⟨_, _, rfl, fun _ => ⟨_, _, rfl, hb⟩⟩
theorem getD_byte {l : List Nat} (hb : ∀ x ∈ l, x < 256) (k : Nat) : l.getD k 0 < 256 := by
  by_cases h : k < l.length
  · simp [List.getD, h]; exact hb _ (List.getElem_mem h)
  · simp [List.getD, List.getElem?_eq_none (Nat.le_of_not_lt h)]
/-- rows of one length, the same at each place -/
theorem same_list {a b : List Nat} (hn : a.length = b.length) (h : ∀ j, j < max a.length b.length → a.getD j 0 = b.getD j 0) : a = b := by
  refine List.ext_getElem hn fun j h1 h2 => ?_
  have := h j (by omega)
  simpa [List.getD, h1, h2] using this
theorem u8s_set (l : List Nat) (i x : Nat) : (u8s l).set i (.int .u8 (x : Int)) = u8s (l.set i x) := by simp [u8s, List.map_set]
theorem u8s_some {l : List Nat} {i x : Nat} (h : l[i]? = some x) : (u8s l)[i]? = some (.int .u8 (x : Int)) := by rw [u8s_get, h]; rfl
theorem arr_bytes {w : World} {P : Nat} {t : TypeId} {l : List Nat} (h : Arr w P t (u8s l)) : BytesAt w P 0 l := fun j hj => by
  rw [Nat.zero_add]
  exact h.cell (u8s_getD l j hj)
theorem splice_whole {α : Type} {l cs : List α} (h : l.length = cs.length) : splice l 0 cs = cs := by unfold splice; rw [List.take_zero, List.nil_append, Nat.zero_add, ← h, List.drop_length, List.append_nil]
theorem lies_arr {w : World} {P c : Nat} {t : TypeId} {l : List Nat} (h : Arr w P t (u8s l)) : Lies w (.slice (some ⟨P, 0, none⟩) l.length c) l := .inr (.inr ⟨P, 0, c, rfl, arr_bytes h⟩)
theorem ords_inj {s t : ByteArray} (h : ordsOf s = ordsOf t) : s = t := by rw [← strOf_ords s, ← strOf_ords t, h]
theorem ords_extract (s : ByteArray) (lo hi : Nat) : ordsOf (s.extract lo hi) = ((ordsOf s).drop lo).take (hi - lo) := by
  unfold ordsOf
  rw [ByteArray.data_extract, Array.toList_extract, List.extract_eq_take_drop, ← List.map_drop, ← List.map_take]
/-- an operation of a region that draws its order, by what its run gives -/
theorem step_run {P : Program} {ops : Array Oper} {o : Oper} {a : Act} {w w' : World} {K : Act → World → Prop} {Q : Exit → Act → World → Prop} {E : Prop} {v : Value} (hgd : o.guard = none) (hr : (execOp a.eval o).run P w = .ok (.value v) w')
    (h : K (a.put o.dst v) w') : if Region.wanted o (yielded ops a.tmps) = true then Oper.wp P o a w K Q else E := by
  rw [if_pos (by simp [Region.wanted, hgd])]
  unfold Oper.wp
  rw [hr]
  exact h
/-- at g a row whose first bytes are l, none of them frozen -/
def MRow (w : World) (g : Nat) (l : List Nat) : Prop := ∃ cells fr, w.heap[g]? = some (.cells cells 5 fr) ∧ l.length ≤ cells.size ∧ l.length ≤ fr.1 ∧ ∀ j, j < l.length → cells[j]? = some (.int .u8 ((l.getD j 0 : Nat) : Int))
theorem MRow.cell {w : World} {g : Nat} {l : List Nat} (h : MRow w g l) {j : Nat} (hj : j < l.length) : w.cell? ⟨g, j, none⟩ = some (.int .u8 ((l.getD j 0 : Nat) : Int)) := by
  obtain ⟨cells, fr, h1, _, _, h4⟩ := h
  rw [cell_of_row w g j _ _ _ h1, h4 j hj]
theorem MRow.lies {w : World} {g cap : Nat} {l : List Nat} (h : MRow w g l) : Lies w (.slice (some ⟨g, 0, none⟩) l.length cap) l := .inr (.inr ⟨g, 0, cap, rfl, fun j hj => by rw [Nat.zero_add]; exact h.cell hj⟩)
theorem MRow.free {w : World} {g : Nat} {l : List Nat} (h : MRow w g l) {j : Nat} (hj : j < l.length) : w.frozen? ⟨g, j, none⟩ = false := by
  obtain ⟨cells, ⟨f1, f2⟩, h1, _, h3, _⟩ := h
  simp only [World.frozen?, h1]
  have : ¬ f1 ≤ j := by have : l.length ≤ f1 := h3; omega
  simp [this]
theorem MRow.set {w : World} {g : Nat} {l : List Nat} (h : MRow w g l) (i z : Nat) : MRow (w.setCell ⟨g, i, none⟩ (.int .u8 (z : Int))) g (l.set i z) := by
  obtain ⟨cells, fr, h1, h2, h3, h4⟩ := h
  refine ⟨cells.setIfInBounds i (.int .u8 (z : Int)), fr, ?_, by simpa using h2, by simpa using h3, fun j hj => ?_⟩
  · rw [setCell_eq_setRow w g i cells _ fr _ h1]
    exact setRow_heap _ _ _ _ _ _ h1
  · rw [List.length_set] at hj
    rw [Array.getElem?_setIfInBounds]
    by_cases hij : i = j
    · subst hij
      rw [if_pos rfl, if_pos (by omega)]
      simp [List.getD, hj]
    · rw [if_neg hij, h4 j hj]
      simp [List.getD, hij]
theorem MRow.lt {w : World} {g : Nat} {l : List Nat} (h : MRow w g l) : g < w.heap.size := by
  obtain ⟨cells, fr, h1, _⟩ := h
  exact (Array.getElem?_eq_some_iff.1 h1).1
theorem MRow.beyond {w w' : World} {g : Nat} {l : List Nat} (h : MRow w g l) (hb : Below w.heap.size w w') : MRow w' g l := by
  have h0 := h.lt
  obtain ⟨cells, fr, h1, h2⟩ := h
  exact ⟨cells, fr, (hb.block g h0).trans h1, h2⟩
theorem strOf_toList (l : List Nat) : (strOf l).toList = l.map UInt8.ofNat := by rw [ByteArray.toList_eq]; simp [strOf]
theorem ords_get (s : ByteArray) (k : Nat) (h : k < s.size) : (ordsOf s)[k]? = some (s[k]'h).toNat := by
  unfold ordsOf
  rw [List.getElem?_map]
  have : k < s.data.size := h
  rw [Array.getElem?_toList, Array.getElem?_eq_getElem this]; rfl
/-- the first i of a list, and noughts -/
def fillL (A : List Nat) (n i : Nat) : List Nat := A.take i ++ List.replicate (n - i) 0
theorem fill_full {A : List Nat} {n : Nat} (hA : A.length = n) : fillL A n n = A := by unfold fillL; simp [← hA]
theorem fill_at {A : List Nat} {n i j x : Nat} (hj : j < i) (hA : A[j]? = some x) : (fillL A n i)[j]? = some x := by
  have hl : j < A.length := (List.getElem?_eq_some_iff.1 hA).1
  unfold fillL
  rw [List.getElem?_append_left (by simp; omega), List.getElem?_take, if_pos hj, hA]
/-- an arm's guard, under 'with_reducible': is the goal a list of operations at all? (a refine of a law of lists at a whole region unfolds it: 18 s) -/
theorem wpList_here {P : Program} {ops : Array Oper} {l : List Oper} {a : Act} {w : World} {Q : Exit → Act → World → Prop} (h : wpList P ops Q l a w) : wpList P ops Q l a w := h
theorem info_u8 : ∃ i, Tryd.prog.info? 5 = some i ∧ i.zero = some (.int .u8 0) ∧ i.size = 1 ∧ i.bytes = 1 := by
  have h := infoU8
  cases hi : Tryd.prog.info? 5 with
  | none => rw [hi] at h; simp at h
  | some i => rw [hi] at h; simp at h; exact ⟨i, rfl, h.1, h.2.1, h.2.2⟩
theorem byte_new (W : World) (x : Nat) : Lies (W.alloc (.cells #[.int .u8 (x : Int)] 5)) (.slice (some ⟨W.heap.size, 0, none⟩) 1 1) [x] := const_lies W [x] (0, 0)
theorem own_alloc {W : World} {B : Nat} {e : TypeId} {s : Nat} {v : Value} {n : Nat} {xs : List Value} (h : W.ownsRow B e s v n xs) (o : Obj) : (W.alloc o).ownsRow B e s v n xs := row_only h (Only.alloc (fun _ => False) W o) (fun _ _ h => h)
theorem arr_full {w : World} {B g n : Nat} {e : TypeId} {xs : List Value} (h : w.ownsRow B e 1 (.slice (some ⟨g, 0, none⟩) n n) n xs) : Arr w g e xs := by
  rcases h.2 with ⟨hv, _⟩ | ⟨g', cap, cur, hv, _, hg, _, _, hc, ht⟩
  · cases hv
  · cases hv
    have : cur.toList = xs := by rw [← ht, List.take_of_length_le (by simp at hc ⊢; omega)]
    unfold Arr; rw [← this]; simpa using hg
theorem full_arr {w : World} {B g n : Nat} {e : TypeId} {xs : List Value} (h : Arr w g e xs) (hB : B ≤ g) (hn : xs.length = n) (hm : n ≤ maxLen) : w.ownsRow B e 1 (.slice (some ⟨g, 0, none⟩) n n) n xs := by
  refine ⟨by omega, .inr ⟨g, n, xs.toArray, rfl, hB, h, Nat.le_refl _, hm, by simpa using hn, ?_⟩⟩
  rw [Nat.mul_one, List.take_of_length_le (by simpa using Nat.le_of_eq hn)]
theorem made_u8 (n : Nat) : (madeCells (Value.int .u8 0).cells (n * 1)).toList = u8s (List.replicate n 0) := by
  unfold madeCells u8s
  rw [Nat.mul_one, Array.toList_map, Array.toList_range, List.map_replicate]
  refine List.ext_getElem (by simp) fun i h1 h2 => ?_
  simp [Value.cells, Nat.mod_one]
/-- an operation by what its run gives -/
theorem wpList_value {P : Program} {ops : Array Oper} {rest : List Oper} {o : Oper} {a : Act} {w : World} {Q : Exit → Act → World → Prop} {v : Value} (hgd : o.guard = none) (hr : (execOp a.eval o).run P w = .ok (.value v) w)
    (h : wpList P ops Q rest (a.put o.dst v) w) : wpList P ops Q (o :: rest) a w := wpList_plain hgd fun K hK => by
  unfold Oper.wp
  rw [hr]
  exact hK _ _ h
theorem below_undrew {B : Nat} {w W : World} (h : Below B w.drew W) : Below B w W := ⟨h.os, h.tape, h.output, h.size, h.block⟩
theorem below_drew {B : Nat} {w W : World} (h : Below B w W) : Below B w W.drew := ⟨h.os, h.tape, h.output, h.size, h.block⟩
theorem lies_one {w : World} {u : Value} {bs : List Nat} (h : Lies w u bs) : u.oneCell' = true := by obtain ⟨a, c, rfl⟩ := lies_len h; rfl
/-- what is written elsewhere leaves bytes as they are -/
theorem lies_only {S : Nat → Prop} {w w' : World} {u : Value} {bs : List Nat} (h : Lies w u bs) (ho : Only S w w') (hS : ∀ b off j x, w.cell? ⟨b, off + j, none⟩ = some (.int .u8 x) → ¬ S b) : Lies w' u bs := by
  rcases h with h | h | ⟨b, off, c, h1, h2⟩
  · exact .inl h
  · exact .inr (.inl h)
  · exact .inr (.inr ⟨b, off, c, h1, fun j hj => by
      have h3 := h2 j hj
      rw [← h3]
      exact World.cell?_of_block (w := w) (a := ⟨b, off + j, none⟩) (ho.block b (by have := cell_lt h3; exact this) (hS b off j _ h3))⟩)
/-- a struct, handed back out of a variable of its own -/
theorem results_cell {fn : Func} {p : Tmp} {ty : TypeId} (h : fn.results = #[.cell p ty]) (tmps : Array Value) (P : Program) (w : World) :
    (results fn tmps).run P w = ((asAddr (tmps.getD p undef)).run P w).andThen fun a w₁ => (loadVar ty a).run P w₁ := by
  simp only [results, h]
  simp [Sem.run_bind, Result.andThen]
/-- an operation that is wanted, by what its run gives -/
theorem wpList_runs_want {P : Program} {ops : Array Oper} {rest : List Oper} {o : Oper} {a : Act} {w w' : World} {Q : Exit → Act → World → Prop} {v : Value} (d : Option Tmp) (hd : o.dst = d) (hw : Region.wanted o (yielded ops a.tmps) = true) (hr : (execOp a.eval o).run P w = .ok (.value v) w')
    (h : wpList P ops Q rest (a.put d v) w') : wpList P ops Q (o :: rest) a w := by
  subst hd
  refine wpList_step fun K hK => ?_
  rw [if_pos hw]
  unfold Oper.wp
  rw [hr]
  exact hK _ _ h
theorem run_append_op {P : Program} {w w' : World} {o : Oper} {a : Act} (x y : Operand) (t : TypeId) (ho : o.op = .call { callee := .builtin .append, args := #[x, y], argTypes := #[t, t] }) {u v v' : Value} (hx : a.eval x = u) (hy : a.eval y = v) (hr : (Builtin.append_ #[t, t] o.type #[u, v]).run P w = .ok v' w') :
    (execOp a.eval o).run P w = .ok (.value v') w' := by
  unfold execOp
  simp only [ho, resolve, invoke, builtin, Sem.run_bind, Sem.run_pure, Result.andThen_ok, List.map_toArray, List.map_cons, List.map_nil, hx, hy, hr]
end Go.Proofs.YtbcbignlngcoiaaDoor
