/- copy and clear over rows of structs: elements of k cells. No function of the program. -/
import Derived.Test.YtpgbeebpeldjdaaGenC
import Derived.Deep.RegionLaw
import Derived.Lib.AppendZerosOnto
namespace Go.Proofs.Ytpgbeebpeldjdaa
open Go.RowKit

/-- copy between two places, elements of k cells; the target in a row that is known whole -/
theorem run_copy_K {P : Program} (w : World) (dT sT ty elem : TypeId) (k g off dLen dCap : Nat) (ad : Addr) (sLen sCap : Nat) (cur : List Value) (t : TypeId) (cs : List Value)
    (hu : P.underlying dT = some (.slice elem)) (hs : (P.info? elem).map (·.size) = some k) (hg : Arr w g t cur) (hn : cs.length = Nat.min sLen dLen * k)
    (hsrc : ∀ j v, cs[j]? = some v → w.cell? (ad.add j) = some v) (hfit : off + cs.length ≤ cur.length) (h1 : ∀ v ∈ cs, v.oneCell' = true) :
    (Builtin.copy_ #[dT, sT] ty #[.slice (some ⟨g, off, none⟩) dLen dCap, .slice (some ad) sLen sCap]).run P w = .ok (goInt (Nat.min sLen dLen)) (w.setRow g (splice cur off cs).toArray) := by
  have hst := run_storeCells_part (P := P) g off t cs 0 cur w hg (by omega) h1
  rw [Nat.add_zero] at hst
  cases hq : P.info? elem with
  | none => simp [hq] at hs
  | some i =>
    have hi : i.size = k := by simpa [hq] using hs
    have hf := run_firstCells_some (P := P) w k (Nat.min sLen dLen) ad sLen sCap cs hn hsrc
    simp [Builtin.copy_, run_underlying hu, Builtin.lenOf, sizeOf, typeInfo, hq, hi, hf, hst]
theorem wpList_copy_K {P : Program} {w : World} {ops : Array Oper} {rest : List Oper} {o : Oper} {a : Act} {Q : Exit → Act → World → Prop} (hgd : o.guard = none) (d s : Operand) (dT sT : TypeId)
    (ho : o.op = .call { callee := .builtin .copy, args := #[d, s], argTypes := #[dT, sT] }) (elem : TypeId) (k : Nat) (hu : P.underlying dT = some (.slice elem)) (hsz : (P.info? elem).map (·.size) = some k)
    (g off dLen dCap : Nat) (ad : Addr) (sLen sCap : Nat) (hd : a.eval d = .slice (some ⟨g, off, none⟩) dLen dCap) (hs : a.eval s = .slice (some ad) sLen sCap)
    (cur : List Value) (t : TypeId) (hg : Arr w g t cur) (cs : List Value) (hn : cs.length = Nat.min sLen dLen * k)
    (hsrc : ∀ j v, cs[j]? = some v → w.cell? (ad.add j) = some v) (hfit : off + cs.length ≤ cur.length) (h1 : ∀ v ∈ cs, v.oneCell' = true)
    (h : ∀ W, Hid (Arr W g t (splice cur off cs)) → Hid (Only (fun k => k = g) w W) → wpList P ops Q rest (a.put o.dst (goInt (Nat.min sLen dLen))) W) : wpList P ops Q (o :: rest) a w := by
  refine wpList_plain hgd fun K hK => ?_
  have hrun := run_copy_K (P := P) w dT sT o.type elem k g off dLen dCap ad sLen sCap cur t cs hu hsz hg hn hsrc hfit h1
  unfold Oper.wp
  simp [execOp, ho, resolve, invoke, builtin, hd, hs, hrun, Result.andThen]
  exact hK _ _ (h _ (setRow_heap w g _ _ t _ hg) ⟨rfl, rfl, rfl, by simp [World.setRow], fun j _ hj => setRow_other w g j _ (fun e => hj e)⟩)
theorem step_copy_K {P : Program} {ops : Array Oper} {o : Oper} {a : Act} {w : World} {K : Act → World → Prop} {Q : Exit → Act → World → Prop} {E : Prop} (hgd : o.guard = none) (d s : Operand) (dT sT : TypeId)
    (ho : o.op = .call { callee := .builtin .copy, args := #[d, s], argTypes := #[dT, sT] }) (elem : TypeId) (k : Nat) (hu : P.underlying dT = some (.slice elem)) (hsz : (P.info? elem).map (·.size) = some k)
    (g off dLen dCap : Nat) (ad : Addr) (sLen sCap : Nat) (hd : a.eval d = .slice (some ⟨g, off, none⟩) dLen dCap) (hs : a.eval s = .slice (some ad) sLen sCap)
    (cur : List Value) (t : TypeId) (hg : Arr w g t cur) (cs : List Value) (hn : cs.length = Nat.min sLen dLen * k)
    (hsrc : ∀ j v, cs[j]? = some v → w.cell? (ad.add j) = some v) (hfit : off + cs.length ≤ cur.length) (h1 : ∀ v ∈ cs, v.oneCell' = true)
    (h : ∀ W, Hid (Arr W g t (splice cur off cs)) → Hid (Only (fun k => k = g) w W) → K (a.put o.dst (goInt (Nat.min sLen dLen))) W) : if Region.wanted o (yielded ops a.tmps) = true then Oper.wp P o a w K Q else E := by
  have hw : Region.wanted o (yielded ops a.tmps) = true := by simp [Region.wanted, hgd]
  rw [if_pos hw]
  have hrun := run_copy_K (P := P) w dT sT o.type elem k g off dLen dCap ad sLen sCap cur t cs hu hsz hg hn hsrc hfit h1
  unfold Oper.wp
  simp [execOp, ho, resolve, invoke, builtin, hd, hs, hrun, Result.andThen]
  exact h _ (setRow_heap w g _ _ t _ hg) ⟨rfl, rfl, rfl, by simp [World.setRow], fun j _ hj => setRow_other w g j _ (fun e => hj e)⟩
theorem zero_len (z : Array Value) (n : Nat) : (Builtin.zeroCells z n).toList.length = n * z.size := by rw [Array.length_toList]; exact size_zeroCells z n
theorem zero_one {z : Array Value} (h : ∀ v ∈ z, v.oneCell' = true) (n : Nat) : ∀ v ∈ (Builtin.zeroCells z n).toList, v.oneCell' = true := by
  intro v hv
  rw [Array.mem_toList_iff] at hv
  unfold Builtin.zeroCells at hv
  obtain ⟨i, hi, rfl⟩ := Array.mem_map.1 hv
  have hlt : 0 < z.size := by
    rcases Nat.eq_zero_or_pos z.size with h0 | h0
    · rw [h0, Nat.mul_zero] at hi; simp at hi
    · exact h0
  rw [getElem!_pos z _ (Nat.mod_lt _ hlt)]
  exact h _ (Array.getElem_mem _)
/-- clear of a part of a row that is known whole -/
theorem run_clear_K {P : Program} (w : World) (t e ty : TypeId) (z : Value) (ht : P.underlying t = some (.slice e)) (hv : ((P.info? e).bind (·.zero)) = some z) (hz1 : ∀ v ∈ z.cells, v.oneCell' = true)
    (g off n c : Nat) (cur : List Value) (te : TypeId) (hg : Arr w g te cur) (hfit : off + n * z.cells.size ≤ cur.length) (hn : 0 < n) :
    (Builtin.clear_ #[t] ty #[.slice (some ⟨g, off, none⟩) n c]).run P w = .ok (.tuple #[]) (w.setRow g (splice cur off (Builtin.zeroCells z.cells n).toList).toArray) := by
  have hzv : (zeroValue e).run P w = .ok z w := by
    cases hi : P.info? e with
    | none => simp [hi] at hv
    | some i => simp [hi] at hv; simp [zeroValue, typeInfo, hi, hv]
  have hst := run_storeCells_part (P := P) g off te (Builtin.zeroCells z.cells n).toList 0 cur w hg (by rw [zero_len]; omega) (zero_one hz1 n)
  rw [Nat.add_zero] at hst
  obtain ⟨m, rfl⟩ : ∃ m, n = m + 1 := ⟨n - 1, by omega⟩
  simp [Builtin.clear_, run_underlying ht, hzv, hst]
theorem wpList_clear_K {P : Program} {w : World} {ops : Array Oper} {rest : List Oper} {o : Oper} {a : Act} {Q : Exit → Act → World → Prop} (hgd : o.guard = none) (s : Operand) (t : TypeId)
    (ho : o.op = .call { callee := .builtin .clear, args := #[s], argTypes := #[t] }) (e : TypeId) (z : Value) (ht : P.underlying t = some (.slice e)) (hv : ((P.info? e).bind (·.zero)) = some z) (hz1 : ∀ v ∈ z.cells, v.oneCell' = true)
    (g off n c : Nat) (hs : a.eval s = .slice (some ⟨g, off, none⟩) n c) (cur : List Value) (te : TypeId) (hg : Arr w g te cur) (hfit : off + n * z.cells.size ≤ cur.length) (hn : 0 < n)
    (h : ∀ W, Hid (Arr W g te (splice cur off (Builtin.zeroCells z.cells n).toList)) → Hid (Only (fun k => k = g) w W) → wpList P ops Q rest (a.put o.dst (.tuple #[])) W) : wpList P ops Q (o :: rest) a w := by
  refine wpList_plain hgd fun K hK => ?_
  have hrun := run_clear_K (P := P) w t e o.type z ht hv hz1 g off n c cur te hg hfit hn
  unfold Oper.wp
  simp [execOp, ho, resolve, invoke, builtin, hs, hrun, Result.andThen]
  exact hK _ _ (h _ (setRow_heap w g _ _ te _ hg) ⟨rfl, rfl, rfl, by simp [World.setRow], fun j _ hj => setRow_other w g j _ (fun e => hj e)⟩)
/-- append inside a row that is known whole, in a region that draws its order -/
theorem step_append_in {P : Program} {ops : Array Oper} {o : Oper} {a : Act} {w : World} {K : Act → World → Prop} {Q : Exit → Act → World → Prop} {E : Prop} (hgd : o.guard = none) (s x : Operand) (t : TypeId)
    (ho : o.op = .call { callee := .builtin .append, args := #[s, x], argTypes := #[t, t] }) (e : TypeId) (i : TypeInfo) (size : Nat) (ht : P.underlying t = some (.slice e)) (hi : P.info? e = some i) (hsize : i.size = size)
    (g sLen sCap : Nat) (cur : List Value) (hg : Arr w g e cur) (hs : a.eval s = .slice (some ⟨g, 0, none⟩) sLen sCap) (ad : Addr) (m c : Nat) (hx : a.eval x = .slice (some ad) m c)
    (news : List Value) (hl : news.length = m * size) (hnews : ∀ j u, news[j]? = some u → w.cell? (ad.add j) = some u) (h1 : ∀ u ∈ news, u.oneCell' = true)
    (hroom : sLen + m ≤ sCap) (hfit : sLen * size + news.length ≤ cur.length)
    (h : ∀ W, Hid (Arr W g e (splice cur (sLen * size) news)) → Hid (Only (fun k => k = g) w W) → K (a.put o.dst (.slice (some ⟨g, 0, none⟩) (sLen + m) sCap)) W) : if Region.wanted o (yielded ops a.tmps) = true then Oper.wp P o a w K Q else E := by
  have hw : Region.wanted o (yielded ops a.tmps) = true := by simp [Region.wanted, hgd]
  rw [if_pos hw]
  subst hsize
  have hrun := run_append_room (P := P) w t o.type e i ht hi g sLen sCap cur.toArray hg ad m c news hl hnews h1 hroom (by simpa using hfit)
  have e1 : (cur.toArray.toList.take (sLen * i.size) ++ news ++ cur.toArray.toList.drop (sLen * i.size + news.length)) = splice cur (sLen * i.size) news := by simp [splice]
  rw [e1] at hrun
  unfold Oper.wp
  simp [execOp, ho, resolve, invoke, builtin, hs, hx, hrun, Result.andThen]
  exact h _ (setRow_heap w g _ _ e _ hg) ⟨rfl, rfl, rfl, by simp [World.setRow], fun j _ hj => setRow_other w g j _ (fun e => hj e)⟩

/-- append(s, make(..)...) where s has no room -/
theorem wpList_append_zeros {P : Program} {w : World} {ops : Array Oper} {rest : List Oper} {o : Oper} {a : Act} {Q : Exit → Act → World → Prop} (hgd : o.guard = none) (s x : Operand) (t tn : TypeId)
    (ho : o.op = .call { callee := .builtin .append, args := #[s, x], argTypes := #[t, tn] }) (e : TypeId) (i : TypeInfo) (z : Value) (size bytes : Nat) (kn : IntKind) (ht : P.underlying t = some (.slice e)) (htn : P.underlying tn = some (.int kn)) (hi : P.info? e = some i) (hz : i.zero = some z)
    (hsize : i.size = size) (hby : i.bytes = bytes) (hzs : z.cells.size = size) (hsz : 0 < size) (hbb : bytes ≤ 1000)
    (g : Addr) (sLen sCap k N B : Nat) (kz : Int) (hs : a.eval s = .slice (some g) sLen sCap) (hx : a.eval x = .int .i64 kz) (hkz : kz = (k : Int)) (olds : List Value) (hl : olds.length = sLen * size) (hol : ∀ j u, olds[j]? = some u → w.cell? (g.add j) = some u)
    (h0 : 0 < k) (hg : sCap < sLen + k) (hN : sLen + k = N) (hbig : N ≤ 100000000) (hB : w.heap.size = B)
    (h : ∀ G Z W, Hid (N ≤ G ∧ G ≤ maxLen) → Hid (Z.length = (G - sLen) * size) → Hid (Arr W B e (olds ++ Z)) → Hid (Below w.heap.size w W) → wpList P ops Q rest (a.put o.dst (.slice (some ⟨B, 0, none⟩) N G)) W) : wpList P ops Q (o :: rest) a w := by
  subst hsize; subst hby; subst hkz; subst hN; subst hB
  refine wpList_plain hgd fun K hK => ?_
  have hfirst : (Builtin.firstCells i.size sLen (.slice (some g) sLen sCap)).run P w.drew = .ok olds.toArray w.drew :=
    run_firstCells_some (P := P) w.drew i.size sLen g sLen sCap olds hl hol
  have hbig2 : (sLen + k) * i.bytes ≤ 140737488355328 := by have := Nat.mul_le_mul hbig hbb; omega
  have hk2 : k * i.bytes ≤ (sLen + k) * i.bytes := Nat.mul_le_mul_right _ (by omega)
  have hrun := Lib.run_append_grow_zeros (P := P) w t tn o.type e i z .i64 kn ht htn hi hz (some g) sLen sCap olds hfirst k h0 hsz hg (by omega) (by omega) (growslice_fits hg hbig2)
  unfold Oper.wp
  simp [execOp, ho, resolve, invoke, builtin, hs, hx, hrun, Result.andThen]
  have hge := grownCap_ge w (sLen + k) sCap e
  refine hK _ _ (h (grownCap w (sLen + k) sCap e) (Builtin.zeroCells z.cells k ++ Builtin.zeroCells z.cells (grownCap w (sLen + k) sCap e - (sLen + k))).toList _ ⟨hge, grownCap_le_maxLen w _ _ e (by unfold maxLen; omega)⟩ ?_ ?_ (show Below _ _ _ from ((Below.refl w.heap.size w).drew).alloc (Nat.le_refl _) _))
  · show _ = _
    rw [Array.toList_append, List.length_append, zero_len, zero_len, hzs, ← Nat.add_mul]
    congr 1; omega
  · show _ = _
    rw [show w.heap.size = w.drew.heap.size from rfl, heap_alloc_new]
    congr 2
    apply Array.ext'
    simp
/-! ### What such rows hold -/
theorem take_app {α : Type} (A B : List α) : (A ++ B).take A.length = A := by simp
theorem drop_app {α : Type} (A B : List α) (k : Nat) : (A ++ B).drop (A.length + k) = B.drop k := by rw [List.drop_append]; simp
theorem splice_in {α : Type} (A X R c : List α) (h : X.length = c.length) : splice (A ++ (X ++ R)) A.length c = A ++ (c ++ R) := by
  unfold splice
  rw [take_app, drop_app, ← h, List.drop_left]
/-- what stands from a place on, shifted by c's length, and c laid there -/
theorem shift_row {α : Type} (A D R c : List α) (hR : c.length ≤ R.length) : splice (splice (A ++ (D ++ R)) (A.length + c.length) D) A.length c = A ++ (c ++ (D ++ R.drop c.length)) := by
  have e1 : splice (A ++ (D ++ R)) (A.length + c.length) D = A ++ ((D ++ R).take c.length ++ (D ++ R.drop c.length)) := by
    unfold splice
    rw [List.take_append, List.take_of_length_le (by omega), show A.length + c.length - A.length = c.length by omega, show A.length + c.length + D.length = A.length + (D.length + c.length) by omega, drop_app, drop_app, List.append_assoc]
  rw [e1, splice_in]
  rw [List.length_take, List.length_append]; omega
/-- c, and D behind it, laid behind A -/
theorem grow_row {α : Type} (A D Z c : List α) : splice (splice (A ++ Z) A.length c) (A.length + c.length) D = A ++ (c ++ (D ++ Z.drop (c.length + D.length))) := by
  have e1 : splice (A ++ Z) A.length c = (A ++ c) ++ Z.drop c.length := by
    unfold splice
    rw [take_app, drop_app, List.append_assoc]
  rw [e1, ← List.length_append]
  unfold splice
  rw [take_app, drop_app, List.drop_drop, List.append_assoc]
/-- what stands from one place on laid over from a lesser one on -/
theorem pull_row {α : Type} (A X D R : List α) : splice (A ++ (X ++ (D ++ R))) A.length D = A ++ (D ++ (A ++ (X ++ (D ++ R))).drop (A.length + D.length)) := by
  unfold splice
  rw [take_app]
end Go.Proofs.Ytpgbeebpeldjdaa
