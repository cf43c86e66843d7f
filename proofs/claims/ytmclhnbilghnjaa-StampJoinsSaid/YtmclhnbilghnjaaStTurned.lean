/- Rows of sectors that lie in a block of their own, changed. -/
import Derived.Test.YtmclhnbilghnjaaStJoin
namespace Go.Proofs.Ytmclhnbilghnjaa
open Go.RowKit

/-- at g these sectors, and more behind them -/
def RowIn (w : World) (g : Nat) (r : List (Sec × Value)) : Prop := ∃ rest, Arr w g 27 (rowC r ++ rest)
theorem RowIn.cell {w : World} {g : Nat} {r : List (Sec × Value)} (h : RowIn w g r) {j : Nat} {u : Value} (hu : (rowC r)[j]? = some u) : w.cell? ⟨g, j, none⟩ = some u := by
  obtain ⟨rest, h⟩ := h
  refine h.cell ?_
  rw [List.getElem?_append_left (List.getElem?_eq_some_iff.1 hu).1, hu]
theorem RowIn.free {w : World} {g : Nat} {r : List (Sec × Value)} (h : RowIn w g r) (i : Nat) : w.frozen? ⟨g, i, none⟩ = false := by obtain ⟨rest, h⟩ := h; exact h.free i
theorem RowIn.lt {w : World} {g : Nat} {r : List (Sec × Value)} (h : RowIn w g r) : g < w.heap.size := by obtain ⟨rest, h⟩ := h; exact h.lt
theorem RowIn.only {S : Nat → Prop} {w w' : World} {g : Nat} {r : List (Sec × Value)} (h : RowIn w g r) (ho : Only S w w') (hS : ¬ S g) : RowIn w' g r := by obtain ⟨rest, h⟩ := h; exact ⟨rest, h.only ho hS⟩
theorem RowIn.secs {w : World} {g c : Nat} {r : List (Sec × Value)} (h : RowIn w g r) (hd : ∀ x ∈ r, Lies w x.2 x.1.data) : SecsAt w (.slice (some ⟨g, 0, none⟩) r.length c) r :=
  ⟨_, c, rfl, fun _ => ⟨g, 0, rfl, fun j u hu => by rw [Nat.zero_add]; exact h.cell hu⟩, hd⟩
/-- one cell of the k-th sector is set -/
theorem RowIn.set {w : World} {g k j : Nat} {r : List (Sec × Value)} {x x' : (Sec × Value)} {u : Value} (h : RowIn w g r) (hx : r[k]? = some x) (hj : j < 4) (hc : (secC x).set j u = secC x') : RowIn (w.setCell ⟨g, k * 4 + j, none⟩ u) g (r.set k x') := by
  obtain ⟨rest, h⟩ := h
  obtain ⟨hk, _⟩ := List.getElem?_eq_some_iff.1 hx
  refine ⟨rest, ?_⟩
  have h1 := h.set (k * 4 + j) u
  have e : (rowC r ++ rest).set (k * 4 + j) u = rowC (r.set k x') ++ rest := by
    rw [List.set_append_left _ _ (by rw [rowC_length]; omega)]
    congr 1
    refine List.ext_getElem? fun i => ?_
    by_cases hi : i < 4 * r.length
    · have hm := Nat.div_add_mod i 4
      obtain ⟨y, hy⟩ : ∃ y, r[i / 4]? = some y := ⟨r[i / 4]'(by omega), List.getElem?_eq_getElem _⟩
      have hg := rowC_get hy (i % 4) (Nat.mod_lt _ (by omega))
      rw [hm] at hg
      by_cases hik : i / 4 = k
      · rw [hik, hx] at hy
        cases hy
        have hg2 := rowC_get (r := r.set k x') (i := k) (x := x') (by rw [List.getElem?_set_self hk]) (i % 4) (Nat.mod_lt _ (by omega))
        rw [← hik, hm] at hg2
        rw [hik] at hg2
        by_cases hij : i = k * 4 + j
        · rw [← hij, List.getElem?_set_self (by rw [rowC_length]; exact hi)]
          rw [hg2, ← hc]
          have : i % 4 = j := by omega
          rw [this, List.getElem?_set_self (by simp [secC]; omega)]
        · rw [List.getElem?_set_ne (fun e => hij e.symm), hg, hg2, ← hc]
          rw [List.getElem?_set_ne (by omega)]
      · have hg2 := rowC_get (r := r.set k x') (i := i / 4) (x := y) (by rw [List.getElem?_set_ne (fun e => hik e.symm)]; exact hy) (i % 4) (Nat.mod_lt _ (by omega))
        rw [hm] at hg2
        rw [List.getElem?_set_ne (by omega), hg, hg2]
    · rw [List.getElem?_eq_none (by rw [List.length_set, rowC_length]; omega), List.getElem?_eq_none (by rw [rowC_length, List.length_set]; omega)]
  rw [e] at h1
  exact h1
/-- an append to a slice without room, of the rest behind one that is left out -/
theorem cut_append {w : World} {g k c2 : Nat} {r : List (Sec × Value)} {ad : Addr} (ty : TypeId) (h : RowIn w g r) (hk : k < r.length) (hbig : r.length ≤ 1000000000) (had : k + 1 < r.length → ad = ⟨g, (k + 1) * 4, none⟩) :
    ∃ a' c' w', (Builtin.append_ #[35, 35] ty #[.slice (some ⟨g, 0, none⟩) k k, .slice (some ad) (r.length - (k + 1)) c2]).run Try.prog w = .ok (.slice a' (r.length - 1) c') w' ∧
      (r.length - 1 ≠ 0 → ∃ b, a' = some ⟨b, 0, none⟩ ∧ ∀ j u, (rowC (r.take k ++ r.drop (k + 1)))[j]? = some u → w'.cell? ⟨b, 0 + j, none⟩ = some u) ∧ Below w.heap.size w w' := by
  obtain ⟨i, hi1, hi2, hi3, hi4⟩ := info_parts infoSec
  obtain ⟨rest, h⟩ := h
  have hlen : (rowC r).length = 4 * r.length := rowC_length r
  by_cases hlast : k + 1 < r.length
  · have had := had hlast
    subst had
    have holds : ∀ j v, (rowC (r.take k))[j]? = some v → w.cell? ((⟨g, 0, none⟩ : Addr).add j) = some v := fun j v hv => by
      rw [add_at, Nat.zero_add]
      refine h.cell ?_
      have hj := (List.getElem?_eq_some_iff.1 hv).1
      rw [rowC_length, List.length_take] at hj
      rw [List.getElem?_append_left (by omega), ← hv]
      conv => lhs; rw [← List.take_append_drop k r]
      rw [rowC_append, List.getElem?_append_left (by rw [rowC_length, List.length_take]; omega)]
    have hnews : ∀ j v, (rowC (r.drop (k + 1)))[j]? = some v → w.cell? ((⟨g, (k + 1) * 4, none⟩ : Addr).add j) = some v := fun j v hv => by
      rw [add_at]
      refine h.cell ?_
      have hj := (List.getElem?_eq_some_iff.1 hv).1
      rw [rowC_length, List.length_drop] at hj
      rw [List.getElem?_append_left (by omega), ← hv]
      conv => lhs; rw [← List.take_append_drop (k + 1) r]
      rw [rowC_append, List.getElem?_append_right (by rw [rowC_length, List.length_take]; omega), rowC_length, List.length_take]
      congr 1; omega
    have hrun := run_append_grow (P := Try.prog) (w := w) 35 ty 27 i _ Try.underlying35 hi1 hi2 ⟨g, 0, none⟩ k k (rowC (r.take k)) (by rw [rowC_length, List.length_take, hi3]; omega) holds ⟨g, (k + 1) * 4, none⟩ (r.length - (k + 1)) c2 (rowC (r.drop (k + 1))) (by rw [rowC_length, List.length_drop, hi3]; omega) hnews (by omega) (by omega) (growslice_fits (by omega) (by rw [hi4]; omega))
    rw [show k + (r.length - (k + 1)) = r.length - 1 by omega] at hrun
    refine ⟨_, _, _, hrun, fun _ => ⟨_, rfl, fun j u hu => ?_⟩, ?_⟩
    · rw [Nat.zero_add]
      have hj := (List.getElem?_eq_some_iff.1 hu).1
      refine (cell_of_row _ w.heap.size j _ _ _ (by exact heap_alloc_new w.drew _)).trans ?_
      rw [rowC_append] at hu hj
      rw [Array.getElem?_append_left (by simpa using hj)]
      simpa using hu
    · exact below_undrew (w := w) (B := w.drew.heap.size) ((Below.refl w.drew.heap.size w.drew).alloc (Nat.le_refl _) _)
  · have hk1 : k + 1 = r.length := by omega
    have hrun := run_append_room (P := Try.prog) w 35 ty 27 i Try.underlying35 hi1 g k k _ h ad 0 c2 [] (by simp) (fun j u hu => by simp at hu) (fun u hu => by simp at hu) (by omega) (by rw [hi3]; simp [hlen]; omega)
    rw [show r.length - (k + 1) = 0 by omega]
    refine ⟨_, _, _, by rw [hrun, show k + 0 = r.length - 1 by omega], fun _ => ⟨g, rfl, fun j u hu => ?_⟩, ?_⟩
    · have hj := (List.getElem?_eq_some_iff.1 hu).1
      rw [Nat.zero_add, cell_of_row _ g j _ _ _ (setRow_heap _ _ _ _ _ _ h)]
      rw [rowC_append, List.drop_of_length_le (by omega : r.length ≤ k + 1)] at hu hj
      simp only [List.append_nil, List.length_nil, Nat.add_zero, List.take_append_drop, List.getElem?_toArray]
      rw [show rowC [] = [] from rfl, List.append_nil] at hu hj
      rw [← hu]
      conv => lhs; rw [← List.take_append_drop k r]
      rw [rowC_append, List.append_assoc, List.getElem?_append_left hj]
    · refine ⟨rfl, rfl, rfl, by simp, fun b hb => ?_⟩
      by_cases e : b = g
      · subst e
        rw [setRow_heap _ _ _ _ _ _ h, h]
        simp
      · exact setRow_other w _ _ _ e
theorem own_rowIn {B n : Nat} {w : World} {v : Value} {r : List (Sec × Value)} (h : w.ownsRow B 27 4 v n (rowC r)) (hn : 1 ≤ n) : ∃ g cap, v = .slice (some ⟨g, 0, none⟩) n cap ∧ B ≤ g ∧ n ≤ cap ∧ RowIn w g r := by
  rcases h.2 with ⟨_, h0⟩ | ⟨g, cap, cur, rfl, hB, hg, hc, _, _, ht⟩
  · omega
  · refine ⟨g, cap, rfl, hB, hc, cur.toList.drop (n * 4), ?_⟩
    unfold Arr
    rw [← ht, List.take_append_drop]
    simpa using hg
/-- a slice of a slice, whatever its elements -/
theorem run_cutS {P : Program} (w : World) (t e : TypeId) (sz : Nat) (ht : P.underlying t = some (.slice e)) (hs : (P.info? e).map (·.size) = some sz) (a : Option Addr) (m cap lo hi mx : Nat) (low high most : Option Value)
    (hb : (Instr.sliceBounds true m cap low high most).run P w = .ok (lo, hi, mx) w) :
    (Instr.sliceAt t (.slice a m cap) low high most).run P w = .ok (.slice (if mx = lo then a else a.map (·.add (lo * sz))) (hi - lo) (mx - lo)) w := by
  cases hq : P.info? e with
  | none => simp [hq] at hs
  | some ii =>
    have hss : ii.size = sz := by simpa [hq] using hs
    have hsz : (sizeOf e).run P w = .ok sz w := by simp [sizeOf, typeInfo, hq, hss]
    have h1 : (Instr.sliceAt t (.slice a m cap) low high most).run P w = (Instr.slice t (.slice a m cap) low high most).run P w := by simp [Instr.sliceAt, run_underlying ht]
    rw [h1]
    simp only [Instr.slice, Sem.run_bind, run_underlying ht, Result.andThen_ok, hb, hsz, Sem.run_pure]
theorem sizeSec : (Try.prog.info? 27).map (·.size) = some 4 := by kernel_rfl
/-- l[:k:k] -/
theorem run_head_op (w : World) {o : Oper} {a : Act} (x h m : Operand) (ho : o.op = .slice 35 x none (some h) (some m)) (g n cap k : Nat) (hx : a.eval x = .slice (some ⟨g, 0, none⟩) n cap) (hh : a.eval h = .int .i64 (k : Int)) (hm : a.eval m = .int .i64 (k : Int)) (hk : k ≤ cap) :
    (execOp a.eval o).run Try.prog w = .ok (.value (.slice (some ⟨g, 0, none⟩) k k)) w := by
  have hb : (Instr.sliceBounds true n cap none (some (.int .i64 (k : Int))) (some (.int .i64 (k : Int)))).run Try.prog w = .ok (0, k, k) w := by
    simp [Instr.sliceBounds, Instr.sliceBound, asIntOf, hk]
  have hr := run_cutS (P := Try.prog) w 35 27 4 Try.underlying35 sizeSec (some ⟨g, 0, none⟩) n cap 0 k k _ _ _ hb
  have e : (if k = 0 then some (⟨g, 0, none⟩ : Addr) else (some (⟨g, 0, none⟩ : Addr)).map (·.add (0 * 4))) = some ⟨g, 0, none⟩ := by
    split
    · rfl
    · rw [Option.map_some, add_at]
  rw [e] at hr
  unfold execOp
  simp only [ho, hx, hh, hm, Option.map_some, Option.map_none, Sem.run_bind, hr, Result.andThen_ok, Sem.run_pure, Nat.sub_zero]
/-- l[lo:] -/
theorem run_rest_op (w : World) {o : Oper} {a : Act} (x l : Operand) (ho : o.op = .slice 35 x (some l) none none) (g n cap lo : Nat) (hx : a.eval x = .slice (some ⟨g, 0, none⟩) n cap) (hl : a.eval l = .int .i64 (lo : Int)) (h1 : lo ≤ n) :
    (execOp a.eval o).run Try.prog w = .ok (.value (.slice (some (if cap = lo then ⟨g, 0, none⟩ else ⟨g, lo * 4, none⟩)) (n - lo) (cap - lo))) w := by
  have hr := run_cutS (P := Try.prog) w 35 27 4 Try.underlying35 sizeSec (some ⟨g, 0, none⟩) n cap lo n cap _ _ _ (bounds_l w n cap lo h1)
  have e : (if cap = lo then some (⟨g, 0, none⟩ : Addr) else (some (⟨g, 0, none⟩ : Addr)).map (·.add (lo * 4))) = some (if cap = lo then ⟨g, 0, none⟩ else ⟨g, lo * 4, none⟩) := by
    split
    · rfl
    · rw [Option.map_some, add_at, Nat.zero_add]
  rw [e] at hr
  unfold execOp
  simp only [ho, hx, hl, Option.map_some, Option.map_none, Sem.run_bind, hr, Result.andThen_ok, Sem.run_pure]
theorem run_append_op {P : Program} {w w' : World} {o : Oper} {a : Act} (x y : Operand) (t : TypeId) (ho : o.op = .call { callee := .builtin .append, args := #[x, y], argTypes := #[t, t] }) {u v v' : Value} (hx : a.eval x = u) (hy : a.eval y = v) (hr : (Builtin.append_ #[t, t] o.type #[u, v]).run P w = .ok v' w') :
    (execOp a.eval o).run P w = .ok (.value v') w' := by
  unfold execOp
  simp only [ho, resolve, invoke, builtin, Sem.run_bind, Sem.run_pure, Result.andThen_ok, List.map_toArray, List.map_cons, List.map_nil, hx, hy, hr]
/-- sectors that may be joined, and where they lie -/
def Good (W : World) (r : List (Sec × Value)) : Prop := ∀ x ∈ r, x.1.place < 4294967296 ∧ x.1.data.length ≤ 47 ∧ Lies W x.2 x.1.data
theorem Good.keep {W W' : World} {r : List (Sec × Value)} (h : Good W r) (hb : Below W.heap.size W W') : Good W' r := fun x hx => ⟨(h x hx).1, (h x hx).2.1, lies_keep (h x hx).2.2 hb⟩
theorem Good.sub {W : World} {r r' : List (Sec × Value)} (h : Good W r) (hs : ∀ x ∈ r', x ∈ r) : Good W r' := fun x hx => h x (hs x hx)
theorem Good.set {W : World} {r : List (Sec × Value)} {x : (Sec × Value)} (h : Good W r) (k : Nat) (hx : x.1.place < 4294967296 ∧ x.1.data.length ≤ 47 ∧ Lies W x.2 x.1.data) : Good W (r.set k x) := fun y hy => by
  rcases List.mem_or_eq_of_mem_set hy with h1 | h1
  · exact h y h1
  · rw [h1]; exact hx
theorem Good.data {W : World} {r : List (Sec × Value)} (h : Good W r) : (dataL (r.map Prod.fst)).length ≤ 47 * r.length := by
  induction r with
  | nil => simp [dataL]
  | cons x r ih =>
    have h1 := (h x List.mem_cons_self).2.1
    have h2 := ih (fun y hy => h y (List.mem_cons_of_mem _ hy))
    unfold dataL at h2 ⊢
    rw [List.map_cons, List.flatMap_cons, List.length_append, List.length_cons]
    omega
theorem Good.only {S : Nat → Prop} {W W' : World} {r : List (Sec × Value)} (h : Good W r) (ho : Only S W W') (hS : ∀ b off j x, W.cell? ⟨b, off + j, none⟩ = some (.int .u8 x) → ¬ S b) : Good W' r := fun x hx => by
  refine ⟨(h x hx).1, (h x hx).2.1, ?_⟩
  rcases (h x hx).2.2 with h1 | h1 | ⟨b, off, c, h1, h2⟩
  · exact .inl h1
  · exact .inr (.inl h1)
  · exact .inr (.inr ⟨b, off, c, h1, fun j hj => by
      have h3 := h2 j hj
      rw [← h3]
      exact World.cell?_of_block (w := W) (a := ⟨b, off + j, none⟩) (ho.block b (by have := cell_lt h3; exact this) (hS b off j _ h3))⟩)
theorem secs_cut {W : World} {a : Option Addr} {c n k : Nat} {r : List (Sec × Value)} (h : n - 1 ≠ 0 → ∃ b, a = some ⟨b, 0, none⟩ ∧ ∀ j u, (rowC (r.take k ++ r.drop (k + 1)))[j]? = some u → W.cell? ⟨b, 0 + j, none⟩ = some u) (hn : r.length = n) (hk : k < n) (hg : Good W r) : SecsAt W (.slice a (n - 1) c) (r.take k ++ r.drop (k + 1)) := by
  have hl : (r.take k ++ r.drop (k + 1)).length = n - 1 := by rw [List.length_append, List.length_take, List.length_drop]; omega
  refine ⟨a, c, by rw [hl], fun hne => ?_, fun x hx => ?_⟩
  · obtain ⟨b, hb, hc⟩ := h (fun e => hne (List.length_eq_zero_iff.1 (by rw [hl]; exact e)))
    exact ⟨b, 0, hb, hc⟩
  · rcases List.mem_append.1 hx with h1 | h1
    · exact (hg x (List.mem_of_mem_take h1)).2.2
    · exact (hg x (List.mem_of_mem_drop h1)).2.2
theorem join_bad {w : World} {v : Value} {r : List (Sec × Value)} (h : SecsAt w v r) (hg : Good w r) (hn : r.length ≤ 1000) (hno : ¬ JoinOk (r.map Prod.fst)) :
    Calls Try.prog 10 #[v] w fun e w' => ∃ z : Int, z ≠ 0 ∧ e = .returned (.tuple #[.slice none 0 0, .int .i64 z]) ∧ Below w.heap.size w w' := by
  refine (stjoin_any h (fun x hx => (hg x hx).1) (Nat.le_trans hg.data (by omega)) (by omega)).mono ?_
  rintro e w' (⟨hok, _⟩ | ⟨_, z, hz, rfl, hb⟩)
  · exact absurd hok hno
  · exact ⟨z, hz, rfl, hb⟩
def setAt (w : World) (g k : Nat) (y : (Sec × Value)) : World := (((w.setCell ⟨g, k * 4, none⟩ (.int .u32 (y.1.turn : Int))).setCell ⟨g, k * 4 + 1, none⟩ (.int .u32 (y.1.place : Int))).setCell ⟨g, k * 4 + 2, none⟩ (.bool y.1.last)).setCell ⟨g, k * 4 + 3, none⟩ y.2
theorem RowIn.set4 {w : World} {g k : Nat} {r : List (Sec × Value)} (h : RowIn w g r) (hk : k < r.length) (y : (Sec × Value)) : RowIn (setAt w g k y) g (r.set k y) := by
  obtain ⟨x, hx⟩ : ∃ x, r[k]? = some x := ⟨r[k], List.getElem?_eq_getElem hk⟩
  have hg : ∀ z, (r.set k z)[k]? = some z := fun z => List.getElem?_set_self hk
  have h1 := h.set (j := 0) (x' := (⟨y.1.turn, x.1.place, x.1.last, []⟩, x.2)) (u := .int .u32 (y.1.turn : Int)) hx (by omega) rfl
  have h2 := h1.set (j := 1) (x' := (⟨y.1.turn, y.1.place, x.1.last, []⟩, x.2)) (u := .int .u32 (y.1.place : Int)) (hg _) (by omega) rfl
  rw [List.set_set] at h2
  have h3 := h2.set (j := 2) (x' := (⟨y.1.turn, y.1.place, y.1.last, []⟩, x.2)) (u := .bool y.1.last) (hg _) (by omega) rfl
  rw [List.set_set] at h3
  have h4 := h3.set (j := 3) (x' := y) (u := y.2) (hg _) (by omega) rfl
  rw [List.set_set] at h4
  exact h4
theorem setAt_only (w : World) (g k : Nat) (y : (Sec × Value)) : Only (fun b => b = g) w (setAt w g k y) :=
  (((Only.setCell (S := fun b => b = g) _ rfl _).trans (Only.setCell (S := fun b => b = g) _ rfl _) (fun _ _ h => h)).trans (Only.setCell (S := fun b => b = g) _ rfl _) (fun _ _ h => h)).trans (Only.setCell (S := fun b => b = g) _ rfl _) (fun _ _ h => h)
end Go.Proofs.Ytmclhnbilghnjaa
