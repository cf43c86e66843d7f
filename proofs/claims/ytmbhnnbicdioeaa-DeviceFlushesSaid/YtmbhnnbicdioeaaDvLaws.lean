/- Structs and rows of structs, built; a new row; single steps of drawn regions. -/
import Derived.Test.YtmbhnnbicdioeaaDvAt
import Derived.Great.FillDense
import Derived.Great.BuildSlice
import Derived.Deep.RegionLaw
namespace Go.Proofs.Ytmbhnnbicdioeaa
open Go.RowKit

theorem foldl_splice (off : Nat) (l cs : List Value) (h : off + l.length ≤ cs.length) : (l.toArray.zipIdx.foldl (fun (cs : Array Value) (x : Value × Nat) => cs.setIfInBounds (off + x.2) x.1) cs.toArray) = (splice cs off l).toArray := by
  obtain ⟨h1, h2⟩ := Great.foldl_set off l 0 cs.toArray
  rw [← Array.foldl_toList, Array.toList_zipIdx]
  apply Array.ext_getElem?
  intro k
  rw [h2 k, List.getElem?_toArray, List.getElem?_toArray, splice_at _ _ _ (by omega)]
  simp only [Nat.add_zero, List.size_toArray]
  by_cases hk : k < off
  · rw [if_neg (by omega), if_pos hk]
  · by_cases hk2 : k < off + l.length
    · rw [if_pos (by omega), if_neg hk, if_pos hk2]
    · rw [if_neg (by omega), if_neg hk, if_neg hk2]
theorem fill_next (place : Nat → Option (Nat × Nat)) (cells : List Value) (i off size : Nat) (v : Value) (cs : List Value) (rest : List (Nat × Value)) (hp : place i = some (off, size)) (hv : v.cells = cs.toArray) (hs : cs.length = size) (hf : off + size ≤ cells.length) :
    Instr.fill place cells.toArray ((i, v) :: rest) = Instr.fill place (splice cells off cs).toArray rest := by
  have e := foldl_splice off cs cells (by omega)
  conv => lhs; unfold Instr.fill
  simp only [hp, hv, List.size_toArray, hs]
  rw [if_neg (by simp; omega), ← e]
theorem fill_last (place : Nat → Option (Nat × Nat)) (cells : List Value) (i off size : Nat) (v : Value) (cs : List Value) (hp : place i = some (off, size)) (hv : v.cells = cs.toArray) (hs : cs.length = size) (hf : off + size ≤ cells.length) :
    Instr.fill place cells.toArray [(i, v)] = some (splice cells off cs).toArray := by rw [fill_next place cells i off size v cs [] hp hv hs hf]; rfl
/-- a writing, built -/
def zeroW : List Value := .int .i64 0 :: u8s (List.replicate 64 0)
theorem zeroW_length : zeroW.length = 65 := by simp [zeroW, u8s_length]
theorem built_writing (n : Int) (l : List Value) (hl : l.length = 64) : Try.prog.built 55 [(0, .int .i64 n), (1, .agg l.toArray)] = some (.int .i64 n :: l).toArray := by
  have h : ∀ ps, Try.prog.built 55 ps = Instr.fill (#[((0 : Nat), (1 : Nat)), (1, 64)][·]?) zeroW.toArray ps := by intro ps; kernel_rfl
  rw [h, fill_next _ _ 0 0 1 _ [.int .i64 n] _ rfl rfl rfl (by rw [zeroW_length]; omega), fill_last _ _ 1 1 64 _ l rfl rfl hl (by rw [length_splice _ _ _ (by rw [zeroW_length]; simp), zeroW_length]; omega)]
  unfold splice zeroW
  simp [hl, u8s]
theorem infoW : (Try.prog.info? 55).map (fun i => (i.zero, i.size, i.bytes)) = some (some (.agg zeroW.toArray), 65, 72) := by kernel_rfl
theorem infoS : (Try.prog.info? 53).map (fun i => (i.zero, i.size, i.bytes)) = some (some (.agg (u8s (List.replicate 64 0)).toArray), 64, 64) := by kernel_rfl
theorem sizeS {l : List Value} (h : l.length = 64) : (Try.prog.info? 53).map (·.size) = some l.length := by rw [h]; kernel_rfl
theorem sizeW {l : List Value} (h : l.length = 65) : (Try.prog.info? 55).map (·.size) = some l.length := by rw [h]; kernel_rfl
/-- one element of a row, laid whole -/
theorem fill_row (z : Array Value) (n : Nat) (l : List Value) (hl : l.length = n) : Instr.fill (fun i => some (i * n, n)) ((Array.range (1 * n)).map (z[· % z.size]!)) [(0, .agg l.toArray)] = some l.toArray := by
  have h := fill_last (fun i => some (i * n, n)) ((Array.range (1 * n)).map (z[· % z.size]!)).toList 0 0 n (.agg l.toArray) l (by simp) rfl hl (by simp)
  rw [Array.toArray_toList] at h
  rw [h, splice_whole (by simp [hl])]
theorem run_built_op {P : Program} (w : World) {o : Oper} {a : Act} (t : TypeId) (parts : Array (Nat × Operand)) (ho : o.op = .build t parts) (ps : List (Nat × Value)) (hp : (parts.map fun (i, x) => (i, a.eval x)).toList = ps) (cells : Array Value) (hf : P.built t ps = some cells) :
    (execOp a.eval o).run P w = .ok (.value (.agg cells)) w := by
  subst hp
  unfold execOp
  simp only [ho, Sem.run_bind, run_build w t _ cells hf, Result.andThen_ok, Sem.run_pure]
theorem run_row_op {P : Program} (w : World) {o : Oper} {a : Act} (t e : TypeId) (parts : Array (Nat × Operand)) (ho : o.op = .buildSlice t 1 parts) (l : List Value) (n : Nat) (hp : (parts.map fun (i, x) => (i, a.eval x)).toList = [(0, .agg l.toArray)]) (ht : P.underlying t = some (.slice e)) (z : Value) (b : Nat)
    (hi : (P.info? e).map (fun i => (i.zero, i.size, i.bytes)) = some (some z, n, b)) (hl : l.length = n) (h0 : 0 < n) (hs : n ≤ 16777216) : (execOp a.eval o).run P w = .ok (.value (.slice (some ⟨w.heap.size, 0, none⟩) 1 1)) (w.alloc (.cells l.toArray e)) := by
  obtain ⟨i, hi1, hi2, hi3, _⟩ := info_parts hi
  have hf := fill_row z.cells n l hl
  unfold execOp
  simp only [ho, Sem.run_bind]
  rw [run_buildSlice w t e 1 _ l.toArray i z ht hi1 hi2 (by rw [hi3]; omega) (by rw [hi3]; omega) (by rw [hi3, hp]; exact hf)]
  simp only [Result.andThen_ok, Sem.run_pure]
theorem run_box_op {P : Program} (w : World) {o : Oper} {a : Act} (t : TypeId) (x : Operand) (ho : o.op = .box t x) (cs : Array Value) (hx : a.eval x = .agg cs) : (execOp a.eval o).run P w = .ok (.value (.pointer (some ⟨w.heap.size, 0, none⟩))) (w.alloc (.cells cs t)) := by
  unfold execOp
  simp only [ho, hx, Sem.run_bind, Instr.box, newVar, newRow, run_newObj_alloc, Sem.run_pure, Result.andThen_ok]
  rfl
theorem rep_get {v : Value} {N m : Nat} (h : m < N) : (List.replicate N v).toArray[m]! = v := by
  rw [getElem!_pos _ _ (by simpa using h)]; simp
theorem made_rep {v : Value} {N k : Nat} (hN : 0 < N) : (madeCells (List.replicate N v).toArray k).toList = List.replicate k v := by
  unfold madeCells
  rw [Array.toList_map, Array.toList_range]
  refine List.ext_getElem (by simp) fun i h1 h2 => ?_
  rw [List.getElem_map, List.getElem_replicate]
  exact rep_get (Nat.lt_of_lt_of_le (Nat.mod_lt _ (by simpa using hN)) (by simp))
theorem made_sect (n : Nat) : (madeCells (Value.agg (u8s (List.replicate 64 0)).toArray).cells (n * 64)).toList = u8s (List.replicate n (List.replicate 64 0)).flatten := by
  have e : (List.replicate n (List.replicate 64 0)).flatten = List.replicate (n * 64) 0 := by
    rw [List.flatten_replicate_replicate]
  rw [e]
  unfold u8s
  rw [List.map_replicate, List.map_replicate]
  exact made_rep (by omega)
theorem run_make_sect (w : World) {o : Oper} {a : Act} (l c : Operand) (ho : o.op = .makeSlice 46 l c) (n : Nat) (hn : n ≤ 8192) (hl : a.eval l = .int .i64 (n : Int)) (hc : a.eval c = .int .i64 (n : Int)) :
    ∃ W g, (execOp a.eval o).run Try.prog w = .ok (.value (.slice (some ⟨g, 0, none⟩) n n)) W ∧ Arr W g 53 (u8s (List.replicate n (List.replicate 64 0)).flatten) ∧ Below w.heap.size w W ∧ g = w.heap.size := by
  obtain ⟨i, hi1, hi2, hi3, hi4⟩ := info_parts infoS
  obtain ⟨W, hrun, hown, hg⟩ := run_make_full (P := Try.prog) w w.heap.size 46 53 i _ 64 Try.underlying46 hi1 hi2 hi3 .i64 .i64 n (by rw [hi4]; omega) (by unfold maxLen; omega) (Nat.le_refl _)
  refine ⟨W, w.heap.size, ?_, ?_, (Below.refl w.heap.size w).grown hg (Nat.le_refl _) (fun k hk => by cases hk), rfl⟩
  · unfold execOp
    simp only [ho, hl, hc, Sem.run_bind, hrun, Result.andThen_ok, Sem.run_pure]
  · rw [made_sect] at hown
    rcases hown.2 with ⟨hv, _⟩ | ⟨g', cap, cur, hv, _, hg, _, _, hcs, ht⟩
    · cases hv
    · cases hv
      have : cur.toList = u8s (List.replicate n (List.replicate 64 0)).flatten := by rw [← ht, List.take_of_length_le (by simp at hcs ⊢; omega)]
      unfold Arr; rw [← this]; simpa using hg
/-- a cell, loaded, in a region -/
theorem run_load_one {P : Program} (w : World) {o : Oper} {a : Act} (ty : TypeId) (x : Operand) (ho : o.op = .load ty x) (p : Addr) (hx : a.eval x = .pointer (some p)) (v : Value) (d : TypeDesc) (hc : w.cell? p = some v)
    (hu : P.underlying ty = some d) (hd : (match d with | .struct _ | .array _ _ => true | _ => false) = false) : (execOp a.eval o).run P w = .ok (.value v) w := by
  have hagg : (isAgg ty).run P w = .ok false w := by
    unfold isAgg
    rw [Sem.run_bind, run_underlying hu w]
    cases d <;> simp_all
  unfold execOp
  simp [ho, hx, Instr.loadAt, Instr.sureAddr, loadVar, Sem.run_bind, hagg, hc]
/-- by what its run gives, its slot written out -/
theorem step_runs {P : Program} {ops : Array Oper} {o : Oper} {a : Act} {w w' : World} {K : Act → World → Prop} {Q : Exit → Act → World → Prop} {E : Prop} {v : Value} (d : Option Tmp) (hgd : o.guard = none) (hd : o.dst = d) (hr : (execOp a.eval o).run P w = .ok (.value v) w')
    (h : K (a.put d v) w') : if Region.wanted o (yielded ops a.tmps) = true then Oper.wp P o a w K Q else E := by
  subst hd
  exact step_run hgd hr h
theorem step_make_sect {w : World} {ops : Array Oper} {o : Oper} {a : Act} {K : Act → World → Prop} {Q : Exit → Act → World → Prop} {E : Prop} (d : Option Tmp) (hgd : o.guard = none) (hd : o.dst = d) (l c : Operand) (ho : o.op = .makeSlice 46 l c) (n : Nat) (hn : n ≤ 8192) (hl : a.eval l = .int .i64 (n : Int)) (hc : a.eval c = .int .i64 (n : Int))
    (h : ∀ W g, Arr W g 53 (u8s (List.replicate n (List.replicate 64 0)).flatten) → Below w.heap.size w W → g = w.heap.size → K (a.put d (.slice (some ⟨g, 0, none⟩) n n)) W) : if Region.wanted o (yielded ops a.tmps) = true then Oper.wp Try.prog o a w K Q else E := by
  subst hd
  obtain ⟨W, g, hr, h1, h2, h3⟩ := run_make_sect w l c ho n hn hl hc
  exact step_run hgd hr (h W g h1 h2 h3)
/-- a[:n] of an array at a place -/
theorem run_upto {P : Program} (w : World) {o : Oper} {a : Act} (t : TypeId) (x y : Operand) (ho : o.op = .slice t x none (some y) none) (e : TypeId) (N : Nat) (ht : P.underlying t = some (.array N e)) (hs : (P.info? e).map (·.size) = some 1) (g off n : Nat) (k : IntKind)
    (hx : a.eval x = .pointer (some ⟨g, off, none⟩)) (hy : a.eval y = .int k (n : Int)) (hn : n ≤ N) (hN : N ≠ 0) : (execOp a.eval o).run P w = .ok (.value (.slice (some ⟨g, off, none⟩) n N)) w := by
  cases hq : P.info? e with
  | none => simp [hq] at hs
  | some ii =>
    have hss : ii.size = 1 := by simpa [hq] using hs
    have hsz : (sizeOf e).run P w = .ok 1 w := by simp [sizeOf, typeInfo, hq, hss]
    have hb : (Instr.sliceBounds false N N none (some (.int k (n : Int))) none).run P w = .ok (0, n, N) w := by
      simp [Instr.sliceBounds, Instr.sliceBound, asIntOf, hn]
    unfold execOp
    simp only [ho, hx, hy, Option.map_some, Option.map_none, Instr.sliceAt, Instr.sureAddr, Sem.run_bind, run_underlying ht, Result.andThen_ok, hb, hsz, Sem.run_pure]
    congr 4
    rw [if_neg (by omega), add_at, Nat.zero_mul, Nat.add_zero]
/-- one writing more onto the row of those that wait -/
theorem step_append_w {w : World} {ops : Array Oper} {o : Oper} {a : Act} {K : Act → World → Prop} {Q : Exit → Act → World → Prop} {E : Prop} (d : Option Tmp) (hgd : o.guard = none) (hd : o.dst = d) (s x : Operand)
    (ho : o.op = .call { callee := .builtin .append, args := #[s, x], argTypes := #[47, 47] }) (B : Nat) (v : Value) (n : Nat) (xs : List Value) (hs : a.eval s = v) (hown : w.ownsRow B 55 65 v n xs)
    (g0 : Nat) (news : List Value) (hx : a.eval x = .slice (some ⟨g0, 0, none⟩) 1 1) (hl : news.length = 65) (hg0 : Arr w g0 55 news) (h1 : ∀ u ∈ news, u.oneCell' = true) (hn : n ≤ 1000000000) (hB : B ≤ w.heap.size) (H : Nat) (hH : w.heap.size = H)
    (h : ∀ g cap w', w'.ownsRow B 55 65 (.slice (some ⟨g, 0, none⟩) (n + 1) cap) (n + 1) (xs ++ news) → w.grownBy w' v.ownBlock → (v.ownBlock = some g ∨ g = H) → g < w'.heap.size → K (a.put d (.slice (some ⟨g, 0, none⟩) (n + 1) cap)) w') :
    if Region.wanted o (yielded ops a.tmps) = true then Oper.wp Try.prog o a w K Q else E := by
  subst hd
  obtain ⟨i, hi1, hi2, hi3, hi4⟩ := info_parts infoW
  exact step_append_lies w hgd s x 47 ho B 55 i _ 65 72 Try.underlying47 hi1 hi2 hi3 hi4 (by show zeroW.toArray.size = 65; rw [List.size_toArray, zeroW_length]) (by omega) v n xs hs hown ⟨g0, 0, none⟩ 1 1 news hx (by omega)
    (fun j u hu => by rw [add_at, Nat.zero_add]; exact hg0.cell hu) h1 (by omega) (by unfold maxLen; omega) (by omega) hB H hH h
theorem splice_one {α : Type} (l : List α) (i : Nat) (u : α) (h : i < l.length) : splice l i [u] = l.set i u := by
  unfold splice
  rw [List.set_eq_take_append_cons_drop, if_pos h]; rfl
/-- a cell, stored, in a region -/
theorem step_store_one {P : Program} {ops : Array Oper} {o : Oper} {a : Act} {w : World} {K : Act → World → Prop} {Q : Exit → Act → World → Prop} {E : Prop} (hgd : o.guard = none) (hd : o.dst = none) (ty : TypeId) (x y : Operand) (ho : o.op = .store ty x y)
    (g off : Nat) (u : Value) (hx : a.eval x = .pointer (some ⟨g, off, none⟩)) (hy : a.eval y = u) (hu : u.cells = #[u]) (h1 : u.oneCell' = true) (t : TypeId) (cur : List Value) (hg : Arr w g t cur) (hi : (P.info? ty).map (·.size) = some 1) (hoff : off < cur.length)
    (h : K a (w.setRow g (cur.set off u).toArray)) : if Region.wanted o (yielded ops a.tmps) = true then Oper.wp P o a w K Q else E := by
  have hc := run_storeCells_part (P := P) g off t [u] 0 cur w hg (by simp; omega) (fun v hv => by rw [List.mem_singleton.1 hv]; exact h1)
  rw [Nat.add_zero, splice_one _ _ _ hoff] at hc
  have hrun : (storeVar ty ⟨g, off, none⟩ u).run P w = .ok () (w.setRow g (cur.set off u).toArray) := by
    cases hq : P.info? ty with
    | none => simp [hq] at hi
    | some i =>
      have hs : 1 = i.size := by simp [hq] at hi; omega
      simp [storeVar, sizeOf, typeInfo, hq, hu, ← hs, hc]
  rw [if_pos (by simp [Region.wanted, hgd])]
  unfold Oper.wp execOp
  simp only [ho, hx, hy, Instr.storeAt, Instr.sureAddr, Sem.run_bind, Sem.run_pure, Result.andThen_ok, hrun]
  show K (a.put o.dst undef) _
  rw [hd]
  exact h
theorem run_conv_op {P : Program} {w W : World} {o : Oper} {a : Act} (s d : TypeId) (x : Operand) (ho : o.op = .convert s d x) (u v : Value) (hx : a.eval x = u) (hr : (convert s d u).run P w = .ok v W) : (execOp a.eval o).run P w = .ok (.value v) W := by
  unfold execOp
  simp only [ho, hx, Sem.run_bind, Sem.run_pure, Result.andThen_ok, hr]
end Go.Proofs.Ytmbhnnbicdioeaa
