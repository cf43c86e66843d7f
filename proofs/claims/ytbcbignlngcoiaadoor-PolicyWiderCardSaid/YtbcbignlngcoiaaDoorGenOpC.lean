/- Structs and rows of structs, built; single steps of drawn regions; texts put together and cut: for whatever stage. -/
import Derived.Test.YtbcbignlngcoiaaDoorGenC
import Derived.Great.FillDense
import Derived.Great.BuildSlice
import Derived.Deep.RegionLaw
namespace Go.Proofs.YtbcbignlngcoiaaDoor
open Go.RowKit

theorem foldl_splice (off : Nat) (l cs : List Value) (h : off + l.length ≤ cs.length) : (l.toArray.zipIdx.foldl (fun (cs : Array Value) (x : Value × Nat) => cs.setIfInBounds (off + x.2) x.1) cs.toArray) = (splice cs off l).toArray := by
  obtain ⟨h1, h2⟩ := Great.foldl_set off l 0 cs.toArray
  rw [← Array.foldl_toList, Array.toList_zipIdx]
  apply Array.ext_getElem?
  intro k
  rw [h2 k, List.getElem?_toArray, List.getElem?_toArray, splice_at _ _ _ (by omega)]
  simp only [Nat.add_zero, List.size_toArray]
  by_cases hk : k < off
  · rw [if_neg (by omega), if_pos hk]
  · by_cases hk2 : k < off + l.length
    · rw [if_pos (by omega), if_neg hk, if_pos hk2]
    · rw [if_neg (by omega), if_neg hk, if_neg hk2]
theorem fill_next (place : Nat → Option (Nat × Nat)) (cells : List Value) (i off size : Nat) (v : Value) (cs : List Value) (rest : List (Nat × Value)) (hp : place i = some (off, size)) (hv : v.cells = cs.toArray) (hs : cs.length = size) (hf : off + size ≤ cells.length) :
    Instr.fill place cells.toArray ((i, v) :: rest) = Instr.fill place (splice cells off cs).toArray rest := by
  have e := foldl_splice off cs cells (by omega)
  conv => lhs; unfold Instr.fill
  simp only [hp, hv, List.size_toArray, hs]
  rw [if_neg (by simp; omega), ← e]
theorem fill_last (place : Nat → Option (Nat × Nat)) (cells : List Value) (i off size : Nat) (v : Value) (cs : List Value) (hp : place i = some (off, size)) (hv : v.cells = cs.toArray) (hs : cs.length = size) (hf : off + size ≤ cells.length) :
    Instr.fill place cells.toArray [(i, v)] = some (splice cells off cs).toArray := by rw [fill_next place cells i off size v cs [] hp hv hs hf]; rfl
/-- one element of a row, laid whole -/
theorem fill_row (z : Array Value) (n : Nat) (l : List Value) (hl : l.length = n) : Instr.fill (fun i => some (i * n, n)) ((Array.range (1 * n)).map (z[· % z.size]!)) [(0, .agg l.toArray)] = some l.toArray := by
  have h := fill_last (fun i => some (i * n, n)) ((Array.range (1 * n)).map (z[· % z.size]!)).toList 0 0 n (.agg l.toArray) l (by simp) rfl hl (by simp)
  rw [Array.toArray_toList] at h
  rw [h, splice_whole (by simp [hl])]
theorem run_built_op {P : Program} (w : World) {o : Oper} {a : Act} (t : TypeId) (parts : Array (Nat × Operand)) (ho : o.op = .build t parts) (ps : List (Nat × Value)) (hp : (parts.map fun (i, x) => (i, a.eval x)).toList = ps) (cells : Array Value) (hf : P.built t ps = some cells) :
    (execOp a.eval o).run P w = .ok (.value (.agg cells)) w := by
  subst hp
  unfold execOp
  simp only [ho, Sem.run_bind, run_build w t _ cells hf, Result.andThen_ok, Sem.run_pure]
theorem run_row_op {P : Program} (w : World) {o : Oper} {a : Act} (t e : TypeId) (parts : Array (Nat × Operand)) (ho : o.op = .buildSlice t 1 parts) (l : List Value) (n : Nat) (hp : (parts.map fun (i, x) => (i, a.eval x)).toList = [(0, .agg l.toArray)]) (ht : P.underlying t = some (.slice e)) (z : Value) (b : Nat)
    (hi : (P.info? e).map (fun i => (i.zero, i.size, i.bytes)) = some (some z, n, b)) (hl : l.length = n) (h0 : 0 < n) (hs : n ≤ 16777216) : (execOp a.eval o).run P w = .ok (.value (.slice (some ⟨w.heap.size, 0, none⟩) 1 1)) (w.alloc (.cells l.toArray e)) := by
  obtain ⟨i, hi1, hi2, hi3, _⟩ := info_parts hi
  have hf := fill_row z.cells n l hl
  unfold execOp
  simp only [ho, Sem.run_bind]
  rw [run_buildSlice w t e 1 _ l.toArray i z ht hi1 hi2 (by rw [hi3]; omega) (by rw [hi3]; omega) (by rw [hi3, hp]; exact hf)]
  simp only [Result.andThen_ok, Sem.run_pure]
theorem run_box_op {P : Program} (w : World) {o : Oper} {a : Act} (t : TypeId) (x : Operand) (ho : o.op = .box t x) (cs : Array Value) (hx : a.eval x = .agg cs) : (execOp a.eval o).run P w = .ok (.value (.pointer (some ⟨w.heap.size, 0, none⟩))) (w.alloc (.cells cs t)) := by
  unfold execOp
  simp only [ho, hx, Sem.run_bind, Instr.box, newVar, newRow, run_newObj_alloc, Sem.run_pure, Result.andThen_ok]
  rfl
theorem rep_get {v : Value} {N m : Nat} (h : m < N) : (List.replicate N v).toArray[m]! = v := by
  rw [getElem!_pos _ _ (by simpa using h)]; simp
theorem made_rep {v : Value} {N k : Nat} (hN : 0 < N) : (madeCells (List.replicate N v).toArray k).toList = List.replicate k v := by
  unfold madeCells
  rw [Array.toList_map, Array.toList_range]
  refine List.ext_getElem (by simp) fun i h1 h2 => ?_
  rw [List.getElem_map, List.getElem_replicate]
  exact rep_get (Nat.lt_of_lt_of_le (Nat.mod_lt _ (by simpa using hN)) (by simp))
/-- a cell, loaded, in a region -/
theorem run_load_one {P : Program} (w : World) {o : Oper} {a : Act} (ty : TypeId) (x : Operand) (ho : o.op = .load ty x) (p : Addr) (hx : a.eval x = .pointer (some p)) (v : Value) (d : TypeDesc) (hc : w.cell? p = some v)
    (hu : P.underlying ty = some d) (hd : (match d with | .struct _ | .array _ _ => true | _ => false) = false) : (execOp a.eval o).run P w = .ok (.value v) w := by
  have hagg : (isAgg ty).run P w = .ok false w := by
    unfold isAgg
    rw [Sem.run_bind, run_underlying hu w]
    cases d <;> simp_all
  unfold execOp
  simp [ho, hx, Instr.loadAt, Instr.sureAddr, loadVar, Sem.run_bind, hagg, hc]
/-- by what its run gives, its slot written out -/
theorem step_runs {P : Program} {ops : Array Oper} {o : Oper} {a : Act} {w w' : World} {K : Act → World → Prop} {Q : Exit → Act → World → Prop} {E : Prop} {v : Value} (d : Option Tmp) (hgd : o.guard = none) (hd : o.dst = d) (hr : (execOp a.eval o).run P w = .ok (.value v) w')
    (h : K (a.put d v) w') : if Region.wanted o (yielded ops a.tmps) = true then Oper.wp P o a w K Q else E := by
  subst hd
  exact step_run hgd hr h
/-- a[:n] of an array at a place -/
theorem run_upto {P : Program} (w : World) {o : Oper} {a : Act} (t : TypeId) (x y : Operand) (ho : o.op = .slice t x none (some y) none) (e : TypeId) (N : Nat) (ht : P.underlying t = some (.array N e)) (hs : (P.info? e).map (·.size) = some 1) (g off n : Nat) (k : IntKind)
    (hx : a.eval x = .pointer (some ⟨g, off, none⟩)) (hy : a.eval y = .int k (n : Int)) (hn : n ≤ N) (hN : N ≠ 0) : (execOp a.eval o).run P w = .ok (.value (.slice (some ⟨g, off, none⟩) n N)) w := by
  cases hq : P.info? e with
  | none => simp [hq] at hs
  | some ii =>
    have hss : ii.size = 1 := by simpa [hq] using hs
    have hsz : (sizeOf e).run P w = .ok 1 w := by simp [sizeOf, typeInfo, hq, hss]
    have hb : (Instr.sliceBounds false N N none (some (.int k (n : Int))) none).run P w = .ok (0, n, N) w := by
      simp [Instr.sliceBounds, Instr.sliceBound, asIntOf, hn]
    unfold execOp
    simp only [ho, hx, hy, Option.map_some, Option.map_none, Instr.sliceAt, Instr.sureAddr, Sem.run_bind, run_underlying ht, Result.andThen_ok, hb, hsz, Sem.run_pure]
    congr 4
    rw [if_neg (by omega), add_at, Nat.zero_mul, Nat.add_zero]
theorem splice_one {α : Type} (l : List α) (i : Nat) (u : α) (h : i < l.length) : splice l i [u] = l.set i u := by
  unfold splice
  rw [List.set_eq_take_append_cons_drop, if_pos h]; rfl
/-- a cell, stored, in a region -/
theorem step_store_one {P : Program} {ops : Array Oper} {o : Oper} {a : Act} {w : World} {K : Act → World → Prop} {Q : Exit → Act → World → Prop} {E : Prop} (hgd : o.guard = none) (hd : o.dst = none) (ty : TypeId) (x y : Operand) (ho : o.op = .store ty x y)
    (g off : Nat) (u : Value) (hx : a.eval x = .pointer (some ⟨g, off, none⟩)) (hy : a.eval y = u) (hu : u.cells = #[u]) (h1 : u.oneCell' = true) (t : TypeId) (cur : List Value) (hg : Arr w g t cur) (hi : (P.info? ty).map (·.size) = some 1) (hoff : off < cur.length)
    (h : K a (w.setRow g (cur.set off u).toArray)) : if Region.wanted o (yielded ops a.tmps) = true then Oper.wp P o a w K Q else E := by
  have hc := run_storeCells_part (P := P) g off t [u] 0 cur w hg (by simp; omega) (fun v hv => by rw [List.mem_singleton.1 hv]; exact h1)
  rw [Nat.add_zero, splice_one _ _ _ hoff] at hc
  have hrun : (storeVar ty ⟨g, off, none⟩ u).run P w = .ok () (w.setRow g (cur.set off u).toArray) := by
    cases hq : P.info? ty with
    | none => simp [hq] at hi
    | some i =>
      have hs : 1 = i.size := by simp [hq] at hi; omega
      simp [storeVar, sizeOf, typeInfo, hq, hu, ← hs, hc]
  rw [if_pos (by simp [Region.wanted, hgd])]
  unfold Oper.wp execOp
  simp only [ho, hx, hy, Instr.storeAt, Instr.sureAddr, Sem.run_bind, Sem.run_pure, Result.andThen_ok, hrun]
  show K (a.put o.dst undef) _
  rw [hd]
  exact h
theorem run_conv_op {P : Program} {w W : World} {o : Oper} {a : Act} (s d : TypeId) (x : Operand) (ho : o.op = .convert s d x) (u v : Value) (hx : a.eval x = u) (hr : (convert s d u).run P w = .ok v W) : (execOp a.eval o).run P w = .ok (.value v) W := by
  unfold execOp
  simp only [ho, hx, Sem.run_bind, Sem.run_pure, Result.andThen_ok, hr]
theorem run_cat_op (w : World) {o : Oper} {a : Act} (x y : Operand) (ho : o.op = .binOp .add 9 x y 9) (s t R : ByteArray) (hx : a.eval x = .string s) (hy : a.eval y = .string t) (hR : s ++ t = R) (hs : R.size ≤ 100000000) :
    (execOp a.eval o).run Tryd.prog w = .ok (.value (.string R)) w := by
  have h1 : s.size + t.size ≤ 9223372036854775807 := by rw [← hR, ByteArray.size_append] at hs; omega
  unfold execOp
  simp [ho, hx, hy, eqGuard, binOp_string_add, run_string_add_sum (P := Tryd.prog) (w := w) s t h1, hR]
theorem run_text_hi (w : World) {o : Oper} {a : Act} (x y : Operand) (ho : o.op = .slice 9 x none (some y) none) (s R : ByteArray) (h : Nat) (hx : a.eval x = .string s) (hy : a.eval y = .int .i64 (h : Int)) (hh : h ≤ s.size) (hR : s.extract 0 h = R) :
    (execOp a.eval o).run Tryd.prog w = .ok (.value (.string R)) w := by
  have hb : (Instr.sliceBounds false s.size s.size none (some (.int .i64 (h : Int))) none).run Tryd.prog w = .ok (0, h, s.size) w := by simp [Instr.sliceBounds, Instr.sliceBound, asIntOf, hh]
  have hr : (Instr.sliceAt 9 (.string s) none (some (.int .i64 (h : Int))) none).run Tryd.prog w = .ok (.string R) w := by
    simp [Instr.sliceAt, Instr.slice, Sem.run_bind, run_underlying Tryd.underlying9, hb, hR]
  unfold execOp
  simp only [ho, hx, hy, Option.map_some, Option.map_none, Sem.run_bind, hr, Result.andThen_ok, Sem.run_pure]
theorem run_text_lo (w : World) {o : Oper} {a : Act} (x y : Operand) (ho : o.op = .slice 9 x (some y) none none) (s R : ByteArray) (l : Nat) (hx : a.eval x = .string s) (hy : a.eval y = .int .i64 (l : Int)) (hl : l ≤ s.size) (hR : s.extract l s.size = R) :
    (execOp a.eval o).run Tryd.prog w = .ok (.value (.string R)) w := by
  have hb : (Instr.sliceBounds false s.size s.size (some (.int .i64 (l : Int))) none none).run Tryd.prog w = .ok (l, s.size, s.size) w := by simp [Instr.sliceBounds, Instr.sliceBound, asIntOf, hl]
  have hr : (Instr.sliceAt 9 (.string s) (some (.int .i64 (l : Int))) none none).run Tryd.prog w = .ok (.string R) w := by
    simp [Instr.sliceAt, Instr.slice, Sem.run_bind, run_underlying Tryd.underlying9, hb, hR]
  unfold execOp
  simp only [ho, hx, hy, Option.map_some, Option.map_none, Sem.run_bind, hr, Result.andThen_ok, Sem.run_pure]
theorem strOf_extract (l : List Nat) (lo hi : Nat) : (strOf l).extract lo hi = strOf ((l.drop lo).take (hi - lo)) := by
  apply ByteArray.ext
  rw [ByteArray.data_extract]
  apply Array.ext'
  rw [Array.toList_extract, List.extract_eq_take_drop]
  simp [strOf, List.map_take, List.map_drop]
/-- a new variable in a region, its noughts said -/
theorem run_alloc_op {P : Program} (w : World) {o : Oper} {a : Act} (t : TypeId) (ho : o.op = .alloc t) (z : List Value) (hz : ((P.info? t).bind (·.zero)).map (·.cells) = some z.toArray) :
    (execOp a.eval o).run P w = .ok (.value (.pointer (some ⟨w.heap.size, 0, none⟩))) (w.alloc (.cells z.toArray t)) := by
  cases hi : P.info? t with
  | none => simp [hi] at hz
  | some i =>
    cases hzz : i.zero with
    | none => simp [hi, hzz] at hz
    | some v =>
      have hv : v.cells = z.toArray := by simpa [hi, hzz] using hz
      have hzv : (zeroValue t).run P w = .ok v w := by simp [zeroValue, typeInfo, hi, hzz]
      unfold execOp
      simp only [ho, Instr.alloc, newVar, newRow, Sem.run_bind, hzv, run_newObj_alloc, Sem.run_pure, Result.andThen_ok, hv]
/-- an array's value of structs, indexed -/
theorem run_index_agg {P : Program} (w : World) (t e : TypeId) (n sz : Nat) (cs u : Array Value) (k : IntKind) (i : Nat) (ht : P.underlying t = some (.array n e)) (d : TypeDesc) (he : P.underlying e = some d)
    (hd : (match d with | .struct _ | .array _ _ => true | _ => false) = true) (hs : (P.info? e).map (·.size) = some sz) (hi : i < n) (hu : cs.extract (i * sz) (i * sz + sz) = u) :
    (Instr.index t (.agg cs) (.int k (i : Int))).run P w = .ok (.agg u) w := by
  cases hq : P.info? e with
  | none => simp [hq] at hs
  | some ii =>
    have hss : ii.size = sz := by simpa [hq] using hs
    have hagg : (isAgg e).run P w = .ok true w := by
      unfold isAgg
      rw [Sem.run_bind, run_underlying he w]
      cases d <;> simp_all
    simp [Instr.index, asIntOf, Sem.run_bind, run_underlying ht w, hi, sizeOf, typeInfo, hq, hss, part, hagg, hu]
theorem anyH_name {P : Program} {ops : Array Oper} {Q : Exit → Act → World → Prop} {md : Region.Mode} {S : World → Prop} {fuel : Nat} {listed : Array Bool} {a : Act} {w : World} (h : ∀ W, Hid (W = w) → wpAnyH P md ops Q S fuel listed a W) : wpAnyH P md ops Q S fuel listed a w := h w rfl
theorem wp_name {P : Program} {c : Code} {a : Act} {w : World} {Q : Exit → Act → World → Prop} (h : ∀ W, Hid (W = w) → c.wp P Q a W) : c.wp P Q a w := h w rfl
end Go.Proofs.YtbcbignlngcoiaaDoor
