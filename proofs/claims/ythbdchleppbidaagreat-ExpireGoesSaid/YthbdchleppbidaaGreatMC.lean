/- AgAt, PtRow, PtOwn, RgAt, AgApp, PtFit, PtApp, AgClo: laid into one. -/
import Derived.Test.YthbdchleppbidaaGreatMB
import Derived.Test.YthbdchleppbidaaGreatMA
import Derived.ChangeMaps5
import Derived.OpenShut
import Derived.Deep.Slices
import Derived.Deep.Strs
import Derived.ChangeSame
import Derived.Deep.RegionLaw
import Derived.Maps.AppendAt
import Derived.Lib.SliceRun
/- Aggregates: as values, in a block of their own; a slice of them as it lies, opened. -/
namespace Go.Proofs.YthbdchleppbidaaGreat
open Go.RowKit Go.Deep Go.ChangeShapes Go.WideShapes

def Ag.cells (t : Ag) : List Value := [.int .i64 t.at_, .int .i64 t.n, .int .i64 t.s, .int .i64 t.lo, .int .i64 t.hi]
/-- an aggregate as a value -/
def agV (t : Ag) : Value := .agg #[.int .i64 t.at_, .int .i64 t.n, .int .i64 t.s, .int .i64 t.lo, .int .i64 t.hi]
structure Ag.fits (t : Ag) : Prop where
  a0 : -9223372036854775808 ≤ t.at_
  a1 : t.at_ ≤ 9223372036854775807
  n0 : -9223372036854775808 ≤ t.n
  n1 : t.n ≤ 9223372036854775807
  s0 : -9223372036854775808 ≤ t.s
  s1 : t.s ≤ 9223372036854775807
  l0 : -9223372036854775808 ≤ t.lo
  l1 : t.lo ≤ 9223372036854775807
  h0 : -9223372036854775808 ≤ t.hi
  h1 : t.hi ≤ 9223372036854775807

/-! ### In a block of its own -/
def AgAt (W : World) (P : Nat) (t : Ag) : Prop := W.heap[P]? = some (.cells #[.int .i64 t.at_, .int .i64 t.n, .int .i64 t.s, .int .i64 t.lo, .int .i64 t.hi] 55 (0, 0))
theorem AgAt.keep {W W' : World} {P : Nat} {t : Ag} (h : AgAt W P t) (hb : Below W.heap.size W W') : AgAt W' P t := (hb.block P (lt_of_block h)).trans h
theorem AgAt.lt {W : World} {P : Nat} {t : Ag} (h : AgAt W P t) : P < W.heap.size := lt_of_block h
theorem AgAt.old {W : World} {P : Nat} {t : Ag} (h : AgAt W P t) (o : Obj) : AgAt (W.alloc o) P t := (Below.heap_alloc _ _ _ (lt_of_block h)).trans h
theorem AgAt.new (W : World) (t : Ag) : AgAt (W.alloc (.cells #[.int .i64 t.at_, .int .i64 t.n, .int .i64 t.s, .int .i64 t.lo, .int .i64 t.hi] 55)) W.heap.size t := heap_alloc_new W _
theorem AgAt.only {S : Nat → Prop} {W W' : World} {P : Nat} {t : Ag} (h : AgAt W P t) (ho : Only S W W') (hS : ¬ S P) : AgAt W' P t := (ho.block P (lt_of_block h) hS).trans h
theorem AgAt.drew {W : World} {P : Nat} {t : Ag} (h : AgAt W P t) : AgAt W.drew P t := h
/-- what a walk reads of it -/
structure AgC (W : World) (P : Nat) (t : Ag) : Prop where
  c0 : W.cell? ⟨P, 0, none⟩ = some (.int .i64 t.at_)
  c1 : W.cell? ⟨P, 1, none⟩ = some (.int .i64 t.n)
  c2 : W.cell? ⟨P, 2, none⟩ = some (.int .i64 t.s)
  c3 : W.cell? ⟨P, 3, none⟩ = some (.int .i64 t.lo)
  c4 : W.cell? ⟨P, 4, none⟩ = some (.int .i64 t.hi)
  f0 : W.frozen? ⟨P, 0, none⟩ = false
  f1 : W.frozen? ⟨P, 1, none⟩ = false
  f2 : W.frozen? ⟨P, 2, none⟩ = false
  f3 : W.frozen? ⟨P, 3, none⟩ = false
  f4 : W.frozen? ⟨P, 4, none⟩ = false
theorem AgAt.cells {W : World} {P : Nat} {t : Ag} (h : AgAt W P t) : AgC W P t := by
  unfold AgAt at h
  exact ⟨by simp [World.cell?, h], by simp [World.cell?, h], by simp [World.cell?, h], by simp [World.cell?, h], by simp [World.cell?, h], by simp [World.frozen?, h], by simp [World.frozen?, h], by simp [World.frozen?, h], by simp [World.frozen?, h], by simp [World.frozen?, h]⟩
/-- an aggregate stored -/
def setAg (w : World) (P : Nat) (t : Ag) : World := ((((w.setCell ⟨P, 0, none⟩ (.int .i64 t.at_)).setCell ⟨P, 1, none⟩ (.int .i64 t.n)).setCell ⟨P, 2, none⟩ (.int .i64 t.s)).setCell ⟨P, 3, none⟩ (.int .i64 t.lo)).setCell ⟨P, 4, none⟩ (.int .i64 t.hi)
theorem setAg_only (w : World) (P : Nat) (t : Ag) : Only (fun k => k = P) w (setAg w P t) :=
  (Only.setCell (S := fun k => k = P) _ rfl _).trans ((Only.setCell (S := fun k => k = P) _ rfl _).trans ((Only.setCell (S := fun k => k = P) _ rfl _).trans ((Only.setCell (S := fun k => k = P) _ rfl _).trans (Only.setCell (S := fun k => k = P) _ rfl _) (fun _ _ h => h)) (fun _ _ h => h)) (fun _ _ h => h)) (fun _ _ h => h)
theorem setAg_at {w : World} {P : Nat} {u : Ag} (h : AgAt w P u) (t : Ag) : AgAt (setAg w P t) P t := by
  have h1 := heap_setCell_same w P 0 _ _ (.int .i64 t.at_) h
  have h2 := heap_setCell_same _ P 1 _ _ (.int .i64 t.n) h1
  have h3 := heap_setCell_same _ P 2 _ _ (.int .i64 t.s) h2
  have h4 := heap_setCell_same _ P 3 _ _ (.int .i64 t.lo) h3
  have h5 := heap_setCell_same _ P 4 _ _ (.int .i64 t.hi) h4
  unfold AgAt setAg
  rw [h5]; simp
theorem ret_ag {fn : Func} {p : Tmp} (h : fn.results = #[.cell p 55]) {tmps : Array Value} {w : World} {Q : Nat} {t : Ag} (hp : tmps.getD p undef = .pointer (some ⟨Q, 0, none⟩)) (hq : AgAt w Q t) :
    (results fn tmps).run Tryz.prog w = .ok (agV t) w := by
  obtain ⟨c0, c1, c2, c3, c4, -, -, -, -, -⟩ := hq.cells
  rw [results_cell h, hp]
  unfold agV
  go_simp
theorem ret_ag2 {fn : Func} {p u : Tmp} (h : fn.results = #[.cell p 55, .tmp u]) {tmps : Array Value} {w : World} {Q : Nat} {t : Ag} (hp : tmps.getD p undef = .pointer (some ⟨Q, 0, none⟩)) (hq : AgAt w Q t) :
    (results fn tmps).run Tryz.prog w = .ok (.tuple #[agV t, tmps.getD u undef]) w := by
  obtain ⟨c0, c1, c2, c3, c4, -, -, -, -, -⟩ := hq.cells
  rw [results_cell_tmp h, hp]
  unfold agV
  go_simp

/-! ### A slice of them -/
def AgsAt (w : World) (b off : Nat) (l : List Ag) : Prop := ∀ i t, l[i]? = some t → w.cell? ⟨b, off + i * 5, none⟩ = some (.int .i64 t.at_) ∧ w.cell? ⟨b, off + i * 5 + 1, none⟩ = some (.int .i64 t.n) ∧ w.cell? ⟨b, off + i * 5 + 2, none⟩ = some (.int .i64 t.s) ∧ w.cell? ⟨b, off + i * 5 + 3, none⟩ = some (.int .i64 t.lo) ∧ w.cell? ⟨b, off + i * 5 + 4, none⟩ = some (.int .i64 t.hi)
/-- a slice of these aggregates -/
def ALies (w : World) (v : Value) (l : List Ag) : Prop := ∃ a b off cap, v = .slice a l.length cap ∧ (l ≠ [] → a = some ⟨b, off, none⟩) ∧ AgsAt w b off l
theorem AgsAt.only {S : Nat → Prop} {w w' : World} {b off : Nat} {l : List Ag} (h : AgsAt w b off l) (ho : Only S w w') (hS : ¬ S b) : AgsAt w' b off l := fun i t ht => by
  obtain ⟨h0, h1, h2, h3, h4⟩ := h i t ht
  have hlt := cell_lt h0
  have hb := ho.block b hlt hS
  exact ⟨by rw [← h0]; exact World.cell?_of_block (w := w) hb, by rw [← h1]; exact World.cell?_of_block (w := w) hb, by rw [← h2]; exact World.cell?_of_block (w := w) hb, by rw [← h3]; exact World.cell?_of_block (w := w) hb, by rw [← h4]; exact World.cell?_of_block (w := w) hb⟩
theorem AgsAt.beyond {w w' : World} {b off : Nat} {l : List Ag} (h : AgsAt w b off l) (hb : Below w.heap.size w w') : AgsAt w' b off l := h.only (only_beyond (S := fun _ => False) hb) (fun h => h)
theorem ALies.beyond {w w' : World} {v : Value} {l : List Ag} (h : ALies w v l) (hb : Below w.heap.size w w') : ALies w' v l := by
  obtain ⟨a, b, off, cap, h1, h2, h3⟩ := h
  exact ⟨a, b, off, cap, h1, h2, h3.beyond hb⟩
theorem flatA_length (x : List Ag) : (x.flatMap Ag.cells).length = x.length * 5 := by
  induction x with
  | nil => rfl
  | cons t r ih => rw [List.flatMap_cons, List.length_append, ih, List.length_cons]; simp [Ag.cells]; omega
theorem flatA_one (x : List Ag) : ∀ u ∈ x.flatMap Ag.cells, u.oneCell' = true := by
  intro u hu
  obtain ⟨t, _, hu⟩ := List.mem_flatMap.1 hu
  simp only [Ag.cells, List.mem_cons, List.not_mem_nil, or_false] at hu
  rcases hu with rfl | rfl | rfl | rfl | rfl <;> rfl
theorem flatA_get {K : List Ag} {j : Nat} {t : Ag} (h : K[j]? = some t) (i : Nat) (hi : i < 5) : (K.flatMap Ag.cells)[j * 5 + i]? = t.cells[i]? := by
  induction K generalizing j with
  | nil => simp at h
  | cons a r ih =>
    cases j with
    | zero =>
      obtain rfl : a = t := by simpa using h
      rw [List.flatMap_cons, List.getElem?_append_left (by simp [Ag.cells]; omega), Nat.zero_mul, Nat.zero_add]
    | succ j =>
      have h' : r[j]? = some t := by simpa using h
      rw [List.flatMap_cons, List.getElem?_append_right (by simp [Ag.cells]; omega), ← ih h']
      congr 1
      simp [Ag.cells]; omega
theorem infoAg : (Tryz.prog.info? 55).map (fun i => (i.zero, i.size, i.bytes)) = some (some (.agg #[.int .i64 0, .int .i64 0, .int .i64 0, .int .i64 0, .int .i64 0]), 5, 40) := by kernel_rfl
theorem cellsAg : Tryz.prog.cellsOf 55 = 5 := by kernel_rfl
theorem cellsAgI : Tryz.prog.cellsOf 2 = 1 := by kernel_rfl
section
variable {H : Type} {enc : TypeId × Value → H} {w : World} {base : Nat} {spare : Nat → Bool} {held : Bool} {P : Program}
theorem trod_structA5 {t : TypeId} {f0 f1 f2 f3 f4 : Field} {fuel : Nat} {cs : List Value} {x : DataW H × List MemPlace} (ht : P.underlying t = some (.struct #[f0, f1, f2, f3, f4])) (h : DataW.trod enc P w base spare held fuel t cs = some x) :
    ∃ y0 y1 y2 y3 y4 n, DataW.trod enc P w base spare held n f0.type ((cs.drop f0.offset).take (P.cellsOf f0.type)) = some y0 ∧ DataW.trod enc P w base spare held n f1.type ((cs.drop f1.offset).take (P.cellsOf f1.type)) = some y1 ∧
      DataW.trod enc P w base spare held n f2.type ((cs.drop f2.offset).take (P.cellsOf f2.type)) = some y2 ∧ DataW.trod enc P w base spare held n f3.type ((cs.drop f3.offset).take (P.cellsOf f3.type)) = some y3 ∧ DataW.trod enc P w base spare held n f4.type ((cs.drop f4.offset).take (P.cellsOf f4.type)) = some y4 := by
  obtain ⟨xs, n, _, rfl, hl, hlen, hf⟩ := DataW.trod_struct ht h
  match xs, hlen with
  | [y0, y1, y2, y3, y4], _ => exact ⟨y0, y1, y2, y3, y4, n, by simpa using hf 0 f0 rfl, by simpa using hf 1 f1 rfl, by simpa using hf 2 f2 rfl, by simpa using hf 3 f3 rfl, by simpa using hf 4 f4 rfl⟩
end
theorem five_ints {H : Type} {enc : TypeId × Value → H} {W : World} {spare : Nat → Bool} {held : Bool} {fuel : Nat} {u0 u1 u2 u3 u4 : Value} {x : DataW H × List MemPlace} (h : DataW.trod enc Tryz.prog W 0 spare held fuel 55 [u0, u1, u2, u3, u4] = some x) :
    ∃ t : Ag, u0 = .int .i64 t.at_ ∧ u1 = .int .i64 t.n ∧ u2 = .int .i64 t.s ∧ u3 = .int .i64 t.lo ∧ u4 = .int .i64 t.hi ∧ t.fits := by
  obtain ⟨y0, y1, y2, y3, y4, n', t0, t1, t2, t3, t4⟩ := trod_structA5 Tryz.underlying55 h
  simp only [cellsAgI] at t0 t1 t2 t3 t4
  obtain ⟨z0, e0, _, w0⟩ := DataW.trod_int Tryz.underlying2 t0
  obtain ⟨z1, e1, _, w1⟩ := DataW.trod_int Tryz.underlying2 t1
  obtain ⟨z2, e2, _, w2⟩ := DataW.trod_int Tryz.underlying2 t2
  obtain ⟨z3, e3, _, w3⟩ := DataW.trod_int Tryz.underlying2 t3
  obtain ⟨z4, e4, _, w4⟩ := DataW.trod_int Tryz.underlying2 t4
  simp at e0 e1 e2 e3 e4
  exact ⟨⟨z0, z1, z2, z3, z4⟩, e0, e1, e2, e3, e4, ⟨(bounds_i64 w0).1, (bounds_i64 w0).2, (bounds_i64 w1).1, (bounds_i64 w1).2, (bounds_i64 w2).1, (bounds_i64 w2).2, (bounds_i64 w3).1, (bounds_i64 w3).2, (bounds_i64 w4).1, (bounds_i64 w4).2⟩⟩
set_option maxRecDepth 100000 in
theorem open_agg {H : Type} {enc : TypeId × Value → H} {W : World} {spare : Nat → Bool} {held : Bool} {v : Value} {d : DataW H} {ps : List MemPlace} {r : Reach} {b0 : Nat} (hval : Value.okWide Tryz.prog W r b0 55 v)
    (hd : DataW.Trod enc Tryz.prog W 0 spare held 55 v d ps) : ∃ t : Ag, v = agV t ∧ t.fits := by
  obtain ⟨cs, rfl, hcs⟩ := okWide_struct Tryz.underlying55 hval
  obtain ⟨fuel, hf⟩ := hd
  rw [cellsAg] at hcs
  obtain ⟨cs, rfl⟩ : ∃ l : List Value, cs = l.toArray := ⟨cs.toList, by simp⟩
  match cs, hcs with
  | [u0, u1, u2, u3, u4], _ =>
    have hf' : DataW.trod enc Tryz.prog W 0 spare held fuel 55 [u0, u1, u2, u3, u4] = some (d, ps) := by simpa [Value.cells] using hf
    obtain ⟨t, rfl, rfl, rfl, rfl, rfl, h⟩ := five_ints hf'
    exact ⟨t, rfl, h⟩
set_option maxRecDepth 1000000 in
theorem open_aggs {H : Type} {enc : TypeId × Value → H} {W : World} {spare : Nat → Bool} {held : Bool} {v : Value} {d : DataW H} {ps : List MemPlace} {r : Reach} {b0 : Nat} (hval : Value.okWide Tryz.prog W r b0 52 v)
    (hd : DataW.Trod enc Tryz.prog W 0 spare held 52 v d ps) : ∃ l : List Ag, ALies W v l ∧ (∀ t ∈ l, t.fits) ∧ l.length ≤ maxLen := by
  obtain ⟨a, len, cap, rfl⟩ := okWide_slice Tryz.underlying52 hval
  obtain ⟨fuel, hf⟩ := hd
  rcases open_slice Tryz.underlying52 hf with ⟨hcs, _⟩ | ⟨ad, len', cap', m, n, D, Pl, hcs, _, hl, hm, hmm, _, hel⟩
  · simp [Value.cells] at hcs
    obtain ⟨rfl, rfl, rfl⟩ := hcs
    exact ⟨[], ⟨none, 0, 0, 0, rfl, fun h => absurd rfl h, fun i t h => by simp at h⟩, fun t h => by simp at h, by simp⟩
  · simp [Value.cells] at hcs
    obtain ⟨rfl, rfl, rfl⟩ := hcs
    have hlm : len ≤ m := by rw [hmm]; split <;> omega
    have each : ∀ i, i < len → ∃ t : Ag, (∀ j u, t.cells[j]? = some u → W.cell? ((ad.add (i * 5)).add j) = some u) ∧ t.fits := by
      intro i hi
      obtain ⟨cs', h1, h2⟩ := hel i (by omega)
      rw [cellsAg] at h1
      obtain ⟨_, hlen, hc⟩ := World.cells?_some h1
      match cs', hlen with
      | [u0, u1, u2, u3, u4], _ =>
        obtain ⟨t, rfl, rfl, rfl, rfl, rfl, hfit⟩ := five_ints h2
        refine ⟨t, fun j u hu => ?_, hfit⟩
        simp only [Ag.cells] at hu
        have hj : j < 5 := by have := (List.getElem?_eq_some_iff.1 hu).1; simpa using this
        rw [hc j hj, ← hu]
    obtain ⟨T, hT⟩ := choose_lt each
    have hget : ∀ i t, ((List.range len).map T)[i]? = some t → i < len ∧ t = T i := by
      intro i t h
      by_cases hi : i < len
      · simp [hi] at h; exact ⟨hi, h.symm⟩
      · simp [hi] at h
    have hin : ∀ t ∈ (List.range len).map T, t.fits := by
      intro t ht
      obtain ⟨i, hi, rfl⟩ := List.mem_map.1 ht
      exact (hT i (List.mem_range.1 hi)).2
    have hlen : ((List.range len).map T).length = len := by simp
    rcases Nat.eq_zero_or_pos len with h0 | h0
    · subst h0
      exact ⟨[], ⟨some ad, 0, 0, cap, rfl, fun h => absurd rfl h, fun i t h => by simp at h⟩, fun t h => by simp at h, by simp⟩
    · obtain ⟨b, off, spot⟩ := ad
      have hc0 := (hT 0 h0).1 0 _ rfl
      have hspot : spot = none := by simpa [Addr.add] using World.cell?_spot hc0
      subst hspot
      refine ⟨(List.range len).map T, ⟨_, b, off, cap, by rw [hlen], fun _ => rfl, fun i t ht => ?_⟩, hin, by rw [hlen]; omega⟩
      obtain ⟨hi, rfl⟩ := hget i t ht
      have h0 := (hT i hi).1 0 _ rfl
      have h1 := (hT i hi).1 1 _ rfl
      have h2 := (hT i hi).1 2 _ rfl
      have h3 := (hT i hi).1 3 _ rfl
      have h4 := (hT i hi).1 4 _ rfl
      rw [add_plain, add_plain] at h0 h1 h2 h3 h4
      exact ⟨h0, h1, h2, h3, h4⟩

/-! ### Rows of one's own -/
def AgRow (B : Nat) (w : World) (v : Value) (l : List Ag) : Prop := w.ownsRow B 55 5 v l.length (l.flatMap Ag.cells)
theorem AgRow.keep {B : Nat} {w w' : World} {v : Value} {l : List Ag} (h : AgRow B w v l) (hb : Below w.heap.size w w') : AgRow B w' v l := ownsRow_beyond h hb
theorem AgRow.base {B B' : Nat} {w : World} {v : Value} {l : List Ag} (h : AgRow B w v l) (hB : B' ≤ B) : AgRow B' w v l := row_base h hB
theorem AgRow.nil (B : Nat) (w : World) : AgRow B w (.slice none 0 0) [] := World.ownsRow_nil _ _ _ _
theorem AgRow.lies {B : Nat} {w : World} {v : Value} {l : List Ag} (h : AgRow B w v l) : ALies w v l := by
  unfold AgRow at h
  by_cases h0 : l = []
  · subst h0
    obtain ⟨a, c, rfl⟩ := own_slice h
    exact ⟨a, 0, 0, c, rfl, fun h => absurd rfl h, fun i t ht => by simp at ht⟩
  · obtain ⟨g, cap, rfl, _⟩ := h.form (by have := List.length_pos_iff.2 h0; omega)
    refine ⟨_, g, 0, cap, rfl, fun _ => rfl, fun i t ht => ?_⟩
    have hi := (List.getElem?_eq_some_iff.1 ht).1
    have e0 := flatA_get ht 0 (by omega)
    have e1 := flatA_get ht 1 (by omega)
    have e2 := flatA_get ht 2 (by omega)
    have e3 := flatA_get ht 3 (by omega)
    have e4 := flatA_get ht 4 (by omega)
    exact ⟨by rw [Nat.zero_add, h.cellAt (i * 5) (by omega)]; exact e0, by rw [Nat.zero_add, h.cellAt (i * 5 + 1) (by omega)]; exact e1, by rw [Nat.zero_add, h.cellAt (i * 5 + 2) (by omega)]; exact e2, by rw [Nat.zero_add, h.cellAt (i * 5 + 3) (by omega)]; exact e3, by rw [Nat.zero_add, h.cellAt (i * 5 + 4) (by omega)]; exact e4⟩
end Go.Proofs.YthbdchleppbidaaGreat
/- Rows of points as they lie; appends to them in regions that draw their order. No function of the program. -/
namespace Go.Proofs.YthbdchleppbidaaGreat
open Go.RowKit

theorem ins_len (x : List Pt) (j : Nat) (q : Pt) : (x.take j ++ q :: x.drop j).length = x.length + 1 := by
  have := congrArg List.length (List.take_append_drop j x)
  rw [List.length_append] at this ⊢
  rw [List.length_cons]; omega
theorem infoPt : (Tryz.prog.info? 47).map (fun i => (i.zero, i.size, i.bytes)) = some (some (.agg #[.int .i64 0, .int .i64 0]), 2, 16) := by kernel_rfl
theorem flatP_length (x : List Pt) : (x.flatMap Pt.cells).length = x.length * 2 := by
  induction x with
  | nil => rfl
  | cons t r ih => rw [List.flatMap_cons, List.length_append, ih, List.length_cons]; simp [Pt.cells]; omega
theorem flatP_one (x : List Pt) : ∀ u ∈ x.flatMap Pt.cells, u.oneCell' = true := by
  intro u hu
  obtain ⟨t, _, hu⟩ := List.mem_flatMap.1 hu
  simp only [Pt.cells, List.mem_cons, List.not_mem_nil, or_false] at hu
  rcases hu with rfl | rfl <;> rfl
theorem pts_cells {w : World} {g off : Nat} {x : List Pt} (h : PtsAt w g off x) : ∀ i u, (x.flatMap Pt.cells)[i]? = some u → w.cell? ⟨g, off + i, none⟩ = some u := by
  intro i u hu
  have hi := (List.getElem?_eq_some_iff.1 hu).1
  rw [flatP_length] at hi
  have ht : x[i / 2]? = some (x[i / 2]'(by omega)) := List.getElem?_eq_getElem (by omega)
  obtain ⟨h0, h1⟩ := h _ _ ht
  have hm : i % 2 = 0 ∨ i % 2 = 1 := by omega
  rcases hm with hm | hm
  · have h2 := flatP_get ht 0 (by omega)
    rw [show i / 2 * 2 + 0 = i by omega, hu] at h2
    rw [show off + i = off + i / 2 * 2 by omega, h0]; exact h2.symm
  · have h2 := flatP_get ht 1 (by omega)
    rw [show i / 2 * 2 + 1 = i by omega, hu] at h2
    rw [show off + i = off + i / 2 * 2 + 1 by omega, h1]; exact h2.symm
theorem cells_pts {w : World} {g off : Nat} {x : List Pt} (h : ∀ i u, (x.flatMap Pt.cells)[i]? = some u → w.cell? ⟨g, off + i, none⟩ = some u) : PtsAt w g off x := fun i t ht => by
  have h0 := flatP_get ht 0 (by omega)
  have h1 := flatP_get ht 1 (by omega)
  exact ⟨h (i * 2) _ h0, h (i * 2 + 1) _ h1⟩
theorem pts_drop {w : World} {g off : Nat} {x : List Pt} (j : Nat) (h : PtsAt w g off x) : PtsAt w g (off + j * 2) (x.drop j) := fun i t ht => by
  rw [List.getElem?_drop] at ht
  obtain ⟨h0, h1⟩ := h _ _ ht
  rw [show off + j * 2 + i * 2 = off + (j + i) * 2 by omega]
  exact ⟨h0, h1⟩
theorem pts_take {w : World} {g off : Nat} {x : List Pt} (j : Nat) (h : PtsAt w g off x) : PtsAt w g off (x.take j) := fun i t ht => by
  rw [List.getElem?_take] at ht
  split at ht
  · exact h _ _ ht
  · simp at ht
/-- the points that are wanted, as they lie -/
def WantAt (w : World) (v : Value) (x : List Pt) : Prop := (v = .slice none 0 0 ∧ x = []) ∨ ∃ g cap, v = .slice (some ⟨g, 0, none⟩) x.length cap ∧ x.length ≤ cap ∧ PtsAt w g 0 x
theorem want_row {B : Nat} {w : World} {v : Value} {l : List Pt} (h : w.ownsRow B 47 2 v l.length (l.flatMap Pt.cells)) : WantAt w v l := by
  rcases h.2 with ⟨rfl, h0⟩ | ⟨g, cap, cur, rfl, _, _, hnc, _⟩
  · exact .inl ⟨rfl, List.length_eq_zero_iff.1 h0⟩
  · refine .inr ⟨g, cap, rfl, hnc, cells_pts fun i u hu => ?_⟩
    have hi := (List.getElem?_eq_some_iff.1 hu).1
    rw [flatP_length] at hi
    rw [Nat.zero_add, h.cellAt i hi]; exact hu
theorem WantAt.beyond {w w' : World} {v : Value} {x : List Pt} (h : WantAt w v x) (hb : Below w.heap.size w w') : WantAt w' v x := by
  rcases h with h | ⟨g, cap, h1, h2, h3⟩
  · exact .inl h
  · exact .inr ⟨g, cap, h1, h2, h3.beyond hb⟩
theorem WantAt.plies {w : World} {v : Value} {x : List Pt} (h : WantAt w v x) : PLies w v x := by
  rcases h with ⟨rfl, rfl⟩ | ⟨g, cap, h1, _, h3⟩
  · exact ⟨none, 0, 0, 0, rfl, fun h => absurd rfl h, fun i t ht => by simp at ht⟩
  · exact ⟨_, g, 0, cap, h1, fun _ => rfl, h3⟩

/-! ### Appends in a region that draws its order -/
/-- a row of one's own, and what lies somewhere (perhaps nothing) -/
theorem step_append_own2 {P : Program} (w : World) {ops : Array Oper} {o : Oper} {a : Act} {K : Act → World → Prop} {Q : Exit → Act → World → Prop} {E : Prop} (hgd : o.guard = none) (s x : Operand) (t : TypeId)
    (ho : o.op = .call { callee := .builtin .append, args := #[s, x], argTypes := #[t, t] })
    (base : Nat) (e : TypeId) (i : TypeInfo) (z : Value) (size bytes : Nat) (ht : P.underlying t = some (.slice e)) (hi : P.info? e = some i) (hz : i.zero = some z)
    (hsize : i.size = size) (hby : i.bytes = bytes) (hzs : z.cells.size = size) (hsz : 0 < size)
    (v : Value) (n : Nat) (xs : List Value) (hs : a.eval s = v) (hown : w.ownsRow base e size v n xs)
    (y : Value) (m : Nat) (news : List Value) (hx : a.eval x = y) (hy : (y = .slice none 0 0 ∧ m = 0 ∧ news = []) ∨ ∃ ad c, y = .slice (some ad) m c ∧ news.length = m * size ∧ ∀ j u, news[j]? = some u → w.cell? (ad.add j) = some u) (h1 : ∀ u ∈ news, u.oneCell' = true)
    (h63 : n + m ≤ maxLen) (hbytes : (n + m) * bytes ≤ 140737488355328) (hbase : base ≤ w.heap.size)
    (h : ∀ v' w', w'.ownsRow base e size v' (n + m) (xs ++ news) → w.grownBy w' v.ownBlock → K (a.put o.dst v') w') : if Region.wanted o (yielded ops a.tmps) = true then Oper.wp P o a w K Q else E := by
  have hw : Region.wanted o (yielded ops a.tmps) = true := by simp [Region.wanted, hgd]
  rw [if_pos hw]
  rcases hy with ⟨rfl, rfl, rfl⟩ | ⟨ad, c, rfl, hl, hc⟩
  · have hrun := run_append_owned_none (P := P) (w := w) base t o.type e i size ht hi v n xs hown
    unfold Oper.wp
    simp [execOp, ho, resolve, invoke, builtin, hs, hx, hrun, Result.andThen]
    exact h _ _ (by simpa using hown) ⟨rfl, rfl, rfl, Nat.le_refl _, fun _ _ _ => rfl⟩
  · exact wp_append_own w s x t ho base e i z size bytes ht hi hz hsize hby hzs hsz v n xs hs hown ad m c news hx hl hc h1 h63 hbytes hbase fun v' w' h2 h3 _ => h v' w' h2 h3
/-- onto a slice without room: what lies there, and something, lie in a new row -/
theorem step_append_new2 {P : Program} (w : World) {ops : Array Oper} {o : Oper} {a : Act} {K : Act → World → Prop} {Q : Exit → Act → World → Prop} {E : Prop} (hgd : o.guard = none) (s x : Operand) (t : TypeId)
    (ho : o.op = .call { callee := .builtin .append, args := #[s, x], argTypes := #[t, t] })
    (e : TypeId) (i : TypeInfo) (z : Value) (size bytes : Nat) (ht : P.underlying t = some (.slice e)) (hi : P.info? e = some i) (hz : i.zero = some z)
    (hsize : i.size = size) (hby : i.bytes = bytes)
    (v : Value) (n : Nat) (olds : List Value) (hs : a.eval s = v) (hv : (v = .slice none 0 0 ∧ n = 0 ∧ olds = []) ∨ ∃ ad, v = .slice (some ad) n n ∧ olds.length = n * size ∧ ∀ j u, olds[j]? = some u → w.cell? (ad.add j) = some u)
    (ad : Addr) (m c : Nat) (news : List Value) (hx : a.eval x = .slice (some ad) m c) (hl : news.length = m * size) (hc : ∀ j u, news[j]? = some u → w.cell? (ad.add j) = some u) (hm : 0 < m)
    (h63 : n + m ≤ 1000000) (hb1 : bytes ≤ 1000000)
    (h : ∀ g cap w', Below w.heap.size w w' → (∀ j u, (olds ++ news)[j]? = some u → w'.cell? ⟨g, j, none⟩ = some u) → n + m ≤ cap → g < w'.heap.size → K (a.put o.dst (.slice (some ⟨g, 0, none⟩) (n + m) cap)) w') : if Region.wanted o (yielded ops a.tmps) = true then Oper.wp P o a w K Q else E := by
  have hw : Region.wanted o (yielded ops a.tmps) = true := by simp [Region.wanted, hgd]
  rw [if_pos hw]
  have hbb : (n + m) * bytes ≤ 140737488355328 := by
    have := Nat.mul_le_mul h63 hb1; omega
  have fin : ∀ (cap : Nat) (cells : Array Value), (∀ (j : Nat) (u : Value), (olds ++ news)[j]? = some u → cells[j]? = some u) → n + m ≤ cap → (Builtin.append_ #[t, t] o.type #[v, .slice (some ad) m c]).run P w = .ok (.slice (some ⟨w.heap.size, 0, none⟩) (n + m) cap) (w.drew.alloc (.cells cells e)) → Oper.wp P o a w K Q := by
    intro cap cells hcells hcap hrun
    unfold Oper.wp
    simp [execOp, ho, resolve, invoke, builtin, hs, hx, hrun, Result.andThen]
    refine h _ _ _ (((Below.refl w.heap.size w).drew).alloc (Nat.le_refl _) _) (fun j u hj => ?_) hcap (by simp)
    rw [cell_of_row _ w.heap.size j _ _ _ (heap_alloc_new w.drew _)]
    exact hcells j u hj
  rcases hv with ⟨rfl, rfl, rfl⟩ | ⟨ad0, rfl, hol, hoc⟩
  · have hrun := run_append_nil (P := P) w t o.type e i z ht hi hz ad m c news (by rw [hsize]; exact hl) hc hm (by omega) (by rw [hby]; simp only [Nat.zero_add] at hbb; omega)
    refine fin _ _ (fun j u hj => ?_) ?_ (by simpa using hrun)
    · rw [List.nil_append] at hj
      have hlt := (List.getElem?_eq_some_iff.1 hj).1
      rw [Array.getElem?_append_left (by simpa using hlt)]
      simpa using hj
    · have := grownCap_ge w m 0 e; omega
  · have hrun := run_append_grow (P := P) w t o.type e i z ht hi hz ad0 n n olds (by rw [hsize]; exact hol) hoc ad m c news (by rw [hsize]; exact hl) hc (by omega) (by omega) (by rw [hby]; exact growslice_fits (by omega) hbb)
    refine fin _ _ (fun j u hj => ?_) (grownCap_ge w (n + m) n e) hrun
    have hlt := (List.getElem?_eq_some_iff.1 hj).1
    rw [Array.getElem?_append_left (by simpa using hlt)]
    simpa using hj
end Go.Proofs.YthbdchleppbidaaGreat
/- Rows of points of one's own. No function of the program. -/
namespace Go.Proofs.YthbdchleppbidaaGreat
open Go.RowKit

/-- a row of points of one's own, at base B -/
def PtRowB (B : Nat) (w : World) (v : Value) (l : List Pt) : Prop := w.ownsRow B 47 2 v l.length (l.flatMap Pt.cells)
theorem PtRowB.keep {B : Nat} {w w' : World} {v : Value} {l : List Pt} (h : PtRowB B w v l) (hb : Below w.heap.size w w') : PtRowB B w' v l := ownsRow_beyond h hb
theorem PtRowB.base {B B' : Nat} {w : World} {v : Value} {l : List Pt} (h : PtRowB B w v l) (hB : B' ≤ B) : PtRowB B' w v l := row_base h hB
theorem PtRowB.plies {B : Nat} {w : World} {v : Value} {l : List Pt} (h : PtRowB B w v l) : PLies w v l := plies_row h
theorem PtRowB.nil (B : Nat) (w : World) : PtRowB B w (.slice none 0 0) [] := World.ownsRow_nil _ _ _ _
theorem PtRowB.opened {B : Nat} {w : World} {v : Value} {l : List Pt} (h : PtRowB B w v l) : (v = .slice none 0 0 ∧ l = []) ∨ ∃ g cap R, v = .slice (some ⟨g, 0, none⟩) l.length cap ∧ B ≤ g ∧ Arr w g 47 (l.flatMap Pt.cells ++ R) ∧ R.length = (cap - l.length) * 2 ∧ l.length ≤ cap ∧ cap ≤ maxLen := by
  rcases h.2 with ⟨rfl, h0⟩ | ⟨g, cap, cur, rfl, hb, hg, hnc, hcm, hcs, ht⟩
  · exact .inl ⟨rfl, List.length_eq_zero_iff.1 h0⟩
  · refine .inr ⟨g, cap, cur.toList.drop (l.length * 2), rfl, hb, ?_, ?_, hnc, hcm⟩
    · show _ = _
      rw [← ht, List.take_append_drop, Array.toArray_toList]; exact hg
    · rw [List.length_drop, Array.length_toList, hcs]; omega
theorem PtRowB.shut {B : Nat} {w : World} {g cap : Nat} {l : List Pt} {R : List Value} (hb : B ≤ g) (hg : Arr w g 47 (l.flatMap Pt.cells ++ R)) (hR : R.length = (cap - l.length) * 2) (hnc : l.length ≤ cap) (hcm : cap ≤ maxLen) : PtRowB B w (.slice (some ⟨g, 0, none⟩) l.length cap) l := by
  refine ⟨flatP_length l, .inr ⟨g, cap, _, rfl, hb, hg, hnc, hcm, ?_, ?_⟩⟩
  · rw [List.size_toArray, List.length_append, flatP_length, hR]; omega
  · rw [List.take_append, List.take_of_length_le (by rw [flatP_length]; omega), flatP_length, Nat.sub_self, List.take_zero, List.append_nil]
theorem PtRowB.far {B vb : Nat} {w : World} {v : Value} {l : List Pt} (h : PtRowB B w v l) (hvb : w.heap.size ≤ vb) : v.ownBlock ≠ some vb := fun e => by have := (h.lt _ e).2; omega
end Go.Proofs.YthbdchleppbidaaGreat
/- A range in a block of its own. No function of the program. -/
namespace Go.Proofs.YthbdchleppbidaaGreat
open Go.RowKit

/-- a range in a block of its own -/
def RgAt (W : World) (P : Nat) (a b : Int) : Prop := W.heap[P]? = some (.cells #[.int .i64 a, .int .i64 b] 41 (0, 0))
theorem RgAt.keep {W W' : World} {P : Nat} {a b : Int} (h : RgAt W P a b) (hb : Below W.heap.size W W') : RgAt W' P a b := (hb.block P (lt_of_block h)).trans h
theorem RgAt.old {W : World} {P : Nat} {a b : Int} (h : RgAt W P a b) (o : Obj) : RgAt (W.alloc o) P a b := (Below.heap_alloc _ _ _ (lt_of_block h)).trans h
theorem RgAt.new (W : World) (a b : Int) : RgAt (W.alloc (.cells #[.int .i64 a, .int .i64 b] 41)) W.heap.size a b := heap_alloc_new W _
theorem RgAt.cells {W : World} {P : Nat} {a b : Int} (h : RgAt W P a b) : W.cell? ⟨P, 0, none⟩ = some (.int .i64 a) ∧ W.cell? ⟨P, 1, none⟩ = some (.int .i64 b) ∧ W.frozen? ⟨P, 0, none⟩ = false ∧ W.frozen? ⟨P, 1, none⟩ = false := cells2 h
theorem RgAt.only {S : Nat → Prop} {W W' : World} {P : Nat} {a b : Int} (h : RgAt W P a b) (ho : Only S W W') (hS : ¬ S P) : RgAt W' P a b := (ho.block P (lt_of_block h) hS).trans h
theorem RgAt.drew {W : World} {P : Nat} {a b : Int} (h : RgAt W P a b) : RgAt W.drew P a b := h
end Go.Proofs.YthbdchleppbidaaGreat
/- append of aggregates to a row of one's own: where it lies, too. -/
namespace Go.Proofs.YthbdchleppbidaaGreat
open Go.RowKit

theorem AgRow.opened {B : Nat} {w : World} {v : Value} {l : List Ag} (h : AgRow B w v l) : (v = .slice none 0 0 ∧ l = []) ∨ ∃ g cap R, v = .slice (some ⟨g, 0, none⟩) l.length cap ∧ B ≤ g ∧ Arr w g 55 (l.flatMap Ag.cells ++ R) ∧ R.length = (cap - l.length) * 5 ∧ l.length ≤ cap ∧ cap ≤ maxLen := by
  rcases h.2 with ⟨rfl, h0⟩ | ⟨g, cap, cur, rfl, hb, hg, hnc, hcm, hcs, ht⟩
  · exact .inl ⟨rfl, List.length_eq_zero_iff.1 h0⟩
  · refine .inr ⟨g, cap, cur.toList.drop (l.length * 5), rfl, hb, ?_, ?_, hnc, hcm⟩
    · show _ = _
      rw [← ht, List.take_append_drop, Array.toArray_toList]; exact hg
    · rw [List.length_drop, Array.length_toList, hcs]; omega
theorem ags_cells {w : World} {g off : Nat} {x : List Ag} (h : AgsAt w g off x) : ∀ i u, (x.flatMap Ag.cells)[i]? = some u → w.cell? ⟨g, off + i, none⟩ = some u := by
  intro i u hu
  have hi := (List.getElem?_eq_some_iff.1 hu).1
  rw [flatA_length] at hi
  have ht : x[i / 5]? = some (x[i / 5]'(by omega)) := List.getElem?_eq_getElem (by omega)
  obtain ⟨h0, h1, h2, h3, h4⟩ := h _ _ ht
  have key : ∀ j, j < 5 → i % 5 = j → (x[i / 5]'(by omega)).cells[j]? = some u := fun j hj hm => by
    have h2 := flatA_get ht j hj
    rw [show i / 5 * 5 + j = i by omega, hu] at h2
    exact h2.symm
  have hm : i % 5 = 0 ∨ i % 5 = 1 ∨ i % 5 = 2 ∨ i % 5 = 3 ∨ i % 5 = 4 := by omega
  rcases hm with hm | hm | hm | hm | hm
  · have k := key 0 (by omega) hm
    rw [show off + i = off + i / 5 * 5 by omega, h0]; exact k
  · have k := key 1 (by omega) hm
    rw [show off + i = off + i / 5 * 5 + 1 by omega, h1]; exact k
  · have k := key 2 (by omega) hm
    rw [show off + i = off + i / 5 * 5 + 2 by omega, h2]; exact k
  · have k := key 3 (by omega) hm
    rw [show off + i = off + i / 5 * 5 + 3 by omega, h3]; exact k
  · have k := key 4 (by omega) hm
    rw [show off + i = off + i / 5 * 5 + 4 by omega, h4]; exact k
theorem cells_ags {w : World} {g off : Nat} {x : List Ag} (h : ∀ i u, (x.flatMap Ag.cells)[i]? = some u → w.cell? ⟨g, off + i, none⟩ = some u) : AgsAt w g off x := fun i t ht => by
  have h0 := flatA_get ht 0 (by omega)
  have h1 := flatA_get ht 1 (by omega)
  have h2 := flatA_get ht 2 (by omega)
  have h3 := flatA_get ht 3 (by omega)
  have h4 := flatA_get ht 4 (by omega)
  exact ⟨h (i * 5) _ h0, h (i * 5 + 1) _ h1, h (i * 5 + 2) _ h2, h (i * 5 + 3) _ h3, h (i * 5 + 4) _ h4⟩

/-- points to be appended: nil, or at a place -/
def SrcA (w : World) (y : Value) (bs : List Ag) : Prop := (y = .slice none 0 0 ∧ bs = []) ∨ ∃ ad c, y = .slice (some ad) bs.length c ∧ ∀ j u, (bs.flatMap Ag.cells)[j]? = some u → w.cell? (ad.add j) = some u
theorem AgRow.src {B : Nat} {w : World} {v : Value} {l : List Ag} (h : AgRow B w v l) : SrcA w v l := by
  rcases h.opened with ⟨rfl, rfl⟩ | ⟨g, cap, R, rfl, _, hg, _⟩
  · exact .inl ⟨rfl, rfl⟩
  · refine .inr ⟨_, cap, rfl, fun j u hu => ?_⟩
    rw [add_at, Nat.zero_add]
    exact hg.cell (by rw [List.getElem?_append_left (List.getElem?_eq_some_iff.1 hu).1]; exact hu)
theorem SrcA.keep {w w' : World} {y : Value} {bs : List Ag} (h : SrcA w y bs) (hb : Below w.heap.size w w') : SrcA w' y bs := by
  rcases h with h | ⟨ad, c, h1, h2⟩
  · exact .inl h
  · refine .inr ⟨ad, c, h1, fun j u hu => ?_⟩
    have h3 := h2 j u hu
    rw [← h3]
    exact World.cell?_of_block (w := w) (hb.block _ (cell_lt h3))
theorem wpList_append_ags {w : World} {ops : Array Oper} {rest : List Oper} {o : Oper} {a : Act} {Q : Exit → Act → World → Prop} (hgd : o.guard = none) (sl x : Operand)
    (ho : o.op = .call { callee := .builtin .append, args := #[sl, x], argTypes := #[52, 52] }) (B : Nat) (v : Value) (l : List Ag) (hs : a.eval sl = v) (hown : AgRow B w v l)
    (y : Value) (bs : List Ag) (hx : a.eval x = y) (hsrc : SrcA w y bs) (hb : l.length + bs.length ≤ 1000000) (hB : B ≤ w.heap.size)
    (h : ∀ v' w', Hid (AgRow B w' v' (l ++ bs)) → Hid (w.grownBy w' v.ownBlock) → wpList Tryz.prog ops Q rest (a.put o.dst v') w') : wpList Tryz.prog ops Q (o :: rest) a w := by
  obtain ⟨i0, hi, hz0, hz1, hz2⟩ := info_parts infoAg
  rcases hsrc with ⟨rfl, rfl⟩ | ⟨ad, c, rfl, hc⟩
  · refine wpList_append_own_none (P := Tryz.prog) hgd sl x 52 ho B 55 i0 5 Tryz.underlying52 hi v _ _ hs hown hx ?_
    exact h v w (by rw [List.append_nil]; exact hown) ⟨rfl, rfl, rfl, Nat.le_refl _, fun _ _ _ => rfl⟩
  · refine wpList_append_own_at _ hgd sl x 52 ho B 55 i0 (.agg #[.int .i64 0, .int .i64 0, .int .i64 0, .int .i64 0, .int .i64 0]) 5 40 Tryz.underlying52 hi hz0 hz1 hz2 rfl (by decide) _ _ _ hs hown ad bs.length c (bs.flatMap Ag.cells) hx (flatA_length bs) hc (flatA_one bs) (by unfold maxLen; omega) (by omega) hB ?_
    intro v' w' h1 h2 _ _
    refine h v' w' ?_ h2
    show w'.ownsRow B _ 5 v' (l ++ bs).length ((l ++ bs).flatMap Ag.cells)
    rw [List.length_append, List.flatMap_append]; exact h1
/-- what append gives, whatever operation asks for it -/
theorem app_ags {w : World} {B : Nat} {v y : Value} {l bs : List Ag} (ty : TypeId) (hown : AgRow B w v l) (hsrc : SrcA w y bs) (hb : l.length + bs.length ≤ 1000000) (hB : B ≤ w.heap.size) :
    ∃ v' w', (Builtin.append_ #[52, 52] ty #[v, y]).run Tryz.prog w = .ok v' w' ∧ AgRow B w' v' (l ++ bs) ∧ Below B w w' := by
  obtain ⟨i0, hi, hz0, hz1, hz2⟩ := info_parts infoAg
  rcases hsrc with ⟨rfl, rfl⟩ | ⟨ad, c, rfl, hc⟩
  · exact ⟨v, w, run_append_owned_none (P := Tryz.prog) (w := w) B 52 ty 55 i0 5 Tryz.underlying52 hi v _ _ hown, by rw [List.append_nil]; exact hown, Below.refl _ _⟩
  · obtain ⟨v', w', hr, h1, h2, _, _⟩ := run_append_own_at (P := Tryz.prog) (w := w) B 52 ty 55 i0 (.agg #[.int .i64 0, .int .i64 0, .int .i64 0, .int .i64 0, .int .i64 0]) 5 40 Tryz.underlying52 hi hz0 hz1 hz2 rfl (by decide) v _ _ hown ad bs.length c (bs.flatMap Ag.cells) (flatA_length bs) hc (flatA_one bs) (by unfold maxLen; omega) (by omega) hB
    refine ⟨v', w', hr, ?_, (Below.refl B w).grown h2 hB (fun b hb => (hown.lt b hb).1)⟩
    show w'.ownsRow B _ 5 v' (l ++ bs).length ((l ++ bs).flatMap Ag.cells)
    rw [List.length_append, List.flatMap_append]; exact h1
theorem own_emptyA (w : World) : AgRow w.heap.size (w.alloc (.cells #[] 55)) (.slice (some ⟨w.heap.size, 0, none⟩) 0 0) [] := World.ownsRow_made w #[] 0 (Nat.le_refl _) (Nat.zero_le _) rfl
/-- a row of points just built lies -/
theorem builtA_lies (w : World) (k : List Ag) : ALies (w.alloc (.cells (k.flatMap Ag.cells).toArray 55)) (.slice (some ⟨w.heap.size, 0, none⟩) k.length k.length) k := by
  refine ⟨_, w.heap.size, 0, k.length, rfl, fun _ => rfl, cells_ags fun i u hu => ?_⟩
  have hg : Arr (w.alloc (.cells (k.flatMap Ag.cells).toArray 55)) w.heap.size 55 (k.flatMap Ag.cells) := heap_alloc_new w _
  rw [Nat.zero_add]
  exact hg.cell hu
theorem srcA_lies {w : World} {v : Value} {l : List Ag} (h : ALies w v l) (hne : l ≠ []) : SrcA w v l := by
  obtain ⟨a, b, off, cap, rfl, h1, h2⟩ := h
  have e := h1 hne
  subst e
  exact .inr ⟨_, cap, rfl, fun j u hu => by rw [add_at]; exact ags_cells h2 j u hu⟩
/-- the first of a row, as a source -/
theorem srcA_take {B : Nat} {w : World} {v : Value} {l : List Ag} (h : AgRow B w v l) {n : Nat} (hn : n ≤ l.length) : ∃ ad cap, v = .slice ad l.length cap ∧ l.length ≤ cap ∧ ((ad = none ∧ l = []) ∨ SrcA w (.slice ad n cap) (l.take n)) := by
  rcases h.opened with ⟨rfl, rfl⟩ | ⟨g, cap, R, rfl, _, hg, _, hc, _⟩
  · exact ⟨none, 0, rfl, Nat.le_refl _, .inl ⟨rfl, rfl⟩⟩
  · refine ⟨_, cap, rfl, hc, .inr (.inr ⟨_, cap, by rw [List.length_take, Nat.min_eq_left hn], fun j u hu => ?_⟩)⟩
    rw [add_at, Nat.zero_add]
    have hj := (List.getElem?_eq_some_iff.1 hu).1
    rw [flatA_length, List.length_take, Nat.min_eq_left hn] at hj
    refine hg.cell ?_
    rw [List.getElem?_append_left (by rw [flatA_length]; omega)]
    have e : l.flatMap Ag.cells = (l.take n).flatMap Ag.cells ++ (l.drop n).flatMap Ag.cells := by rw [← List.flatMap_append, List.take_append_drop]
    rw [e, List.getElem?_append_left (by rw [flatA_length, List.length_take, Nat.min_eq_left hn]; omega)]
    exact hu
/-- what append gives, and where the row lies then -/
theorem app_ags2 {w : World} {B : Nat} {v y : Value} {l bs : List Ag} (ty : TypeId) (hown : AgRow B w v l) (hsrc : SrcA w y bs) (hb : l.length + bs.length ≤ 1000000) (hB : B ≤ w.heap.size) :
    ∃ v' w', (Builtin.append_ #[52, 52] ty #[v, y]).run Tryz.prog w = .ok v' w' ∧ AgRow B w' v' (l ++ bs) ∧ w.grownBy w' v.ownBlock ∧ (v'.ownBlock = v.ownBlock ∨ v'.ownBlock = some w.heap.size) := by
  obtain ⟨i0, hi, hz0, hz1, hz2⟩ := info_parts infoAg
  rcases hsrc with ⟨rfl, rfl⟩ | ⟨ad, c, rfl, hc⟩
  · exact ⟨v, w, run_append_owned_none (P := Tryz.prog) (w := w) B 52 ty 55 i0 5 Tryz.underlying52 hi v _ _ hown, by rw [List.append_nil]; exact hown, ⟨rfl, rfl, rfl, Nat.le_refl _, fun _ _ _ => rfl⟩, .inl rfl⟩
  · obtain ⟨v', w', hr, h1, h2, _, h3⟩ := run_append_own_at (P := Tryz.prog) (w := w) B 52 ty 55 i0 (.agg #[.int .i64 0, .int .i64 0, .int .i64 0, .int .i64 0, .int .i64 0]) 5 40 Tryz.underlying52 hi hz0 hz1 hz2 rfl (by decide) v _ _ hown ad bs.length c (bs.flatMap Ag.cells) (flatA_length bs) hc (flatA_one bs) (by unfold maxLen; omega) (by omega) hB
    refine ⟨v', w', hr, ?_, h2, h3⟩
    show w'.ownsRow B _ 5 v' (l ++ bs).length ((l ++ bs).flatMap Ag.cells)
    rw [List.length_append, List.flatMap_append]; exact h1
/-- append in a region that draws its order -/
theorem step_append_ags {w : World} {ops : Array Oper} {o : Oper} {a : Act} {K : Act → World → Prop} {Q : Exit → Act → World → Prop} {E : Prop} (hgd : o.guard = none) (sl x : Operand)
    (ho : o.op = .call { callee := .builtin .append, args := #[sl, x], argTypes := #[52, 52] }) (B : Nat) (v : Value) (l : List Ag) (hs : a.eval sl = v) (hown : AgRow B w v l)
    (y : Value) (bs : List Ag) (hx : a.eval x = y) (hsrc : SrcA w y bs) (hb : l.length + bs.length ≤ 1000000) (hB : B ≤ w.heap.size)
    (h : ∀ v' w', Hid (AgRow B w' v' (l ++ bs)) → Hid (w.grownBy w' v.ownBlock) → Hid (v'.ownBlock = v.ownBlock ∨ v'.ownBlock = some w.heap.size) → K (a.put o.dst v') w') : if Region.wanted o (yielded ops a.tmps) = true then Oper.wp Tryz.prog o a w K Q else E := by
  obtain ⟨v', w', hr, h1, h2, h3⟩ := app_ags2 o.type hown hsrc hb hB
  have hw : Region.wanted o (yielded ops a.tmps) = true := by simp [Region.wanted, hgd]
  rw [if_pos hw]
  unfold Oper.wp
  simp [execOp, ho, resolve, invoke, builtin, hs, hx, hr, Result.andThen]
  exact h _ _ h1 h2 h3
end Go.Proofs.YthbdchleppbidaaGreat
/- Points, and aggregates, that came in: their capacity holds their length; parts of them. No function of the program. -/
namespace Go.Proofs.YthbdchleppbidaaGreat
open Go.RowKit Go.Deep Go.ChangeShapes Go.WideShapes

set_option maxRecDepth 1000000 in
theorem open_fits {H : Type} {enc : TypeId × Value → H} {W : World} {spare : Nat → Bool} {held : Bool} {v : Value} {d : DataW H} {ps : List MemPlace} {r : Reach} {b0 : Nat} {t e : TypeId} (ht : Tryz.prog.underlying t = some (.slice e)) (hval : Value.okWide Tryz.prog W r b0 t v)
    (hd : DataW.Trod enc Tryz.prog W 0 spare held t v d ps) : Fits v := by
  obtain ⟨a, len, cap, rfl⟩ := okWide_slice ht hval
  obtain ⟨fuel, hf⟩ := hd
  refine fits_slice ?_
  rcases open_slice ht hf with ⟨hcs, _⟩ | ⟨ad, len', cap', m, n, D, Pl, hcs, _, hl, hm, hmm, _, hel⟩
  · simp [Value.cells] at hcs
    omega
  · simp [Value.cells] at hcs
    obtain ⟨rfl, rfl, rfl⟩ := hcs
    first | exact hl | omega
set_option maxRecDepth 1000000 in
theorem open_pts2 {H : Type} {enc : TypeId × Value → H} {W : World} {spare : Nat → Bool} {held : Bool} {v : Value} {d : DataW H} {ps : List MemPlace} {r : Reach} {b0 : Nat} (hval : Value.okWide Tryz.prog W r b0 44 v)
    (hd : DataW.Trod enc Tryz.prog W 0 spare held 44 v d ps) : ∃ l : List Pt, PLies W v l ∧ Fits v ∧ (∀ t ∈ l, t.fits) ∧ l.length ≤ maxLen := by
  obtain ⟨l, h1, h2, h3⟩ := open_pts hval hd
  exact ⟨l, h1, open_fits Tryz.underlying44 hval hd, h2, h3⟩
set_option maxRecDepth 1000000 in
theorem open_aggs2 {H : Type} {enc : TypeId × Value → H} {W : World} {spare : Nat → Bool} {held : Bool} {v : Value} {d : DataW H} {ps : List MemPlace} {r : Reach} {b0 : Nat} (hval : Value.okWide Tryz.prog W r b0 52 v)
    (hd : DataW.Trod enc Tryz.prog W 0 spare held 52 v d ps) : ∃ l : List Ag, ALies W v l ∧ Fits v ∧ (∀ t ∈ l, t.fits) ∧ l.length ≤ maxLen := by
  obtain ⟨l, h1, h2, h3⟩ := open_aggs hval hd
  exact ⟨l, h1, open_fits Tryz.underlying52 hval hd, h2, h3⟩
theorem row_fits {w : World} {B s : Nat} {e : TypeId} {v : Value} {n : Nat} {xs : List Value} (h : w.ownsRow B e s v n xs) : Fits v := by
  rcases h.2 with ⟨rfl, h0⟩ | ⟨g, cap, cur, rfl, _, _, hnc, _⟩
  · exact fits_slice (by omega)
  · exact fits_slice hnc
/-! ### Parts -/
theorem partl_len {α : Type} (l : List α) {i j : Nat} (hj : j ≤ l.length) : ((l.drop i).take (j - i)).length = j - i := by rw [List.length_take, List.length_drop]; omega
theorem pts_part {w : World} {b off : Nat} {l : List Pt} (h : PtsAt w b off l) {i j : Nat} (hj : j ≤ l.length) (c : Nat) : PLies w (.slice (some ⟨b, off + i * 2, none⟩) (j - i) c) ((l.drop i).take (j - i)) :=
  ⟨some ⟨b, off + i * 2, none⟩, b, off + i * 2, c, by rw [partl_len l hj], fun _ => rfl, pts_take _ (pts_drop i h)⟩
theorem ags_drop {w : World} {g off : Nat} {x : List Ag} (j : Nat) (h : AgsAt w g off x) : AgsAt w g (off + j * 5) (x.drop j) := fun i t ht => by
  rw [List.getElem?_drop] at ht
  have h0 := h _ _ ht
  rw [show off + j * 5 + i * 5 = off + (j + i) * 5 by omega]
  exact h0
theorem ags_take {w : World} {g off : Nat} {x : List Ag} (j : Nat) (h : AgsAt w g off x) : AgsAt w g off (x.take j) := fun i t ht => by
  rw [List.getElem?_take] at ht
  split at ht
  · exact h _ _ ht
  · simp at ht
theorem ags_part {w : World} {b off : Nat} {l : List Ag} (h : AgsAt w b off l) {i j : Nat} (hj : j ≤ l.length) (c : Nat) : ALies w (.slice (some ⟨b, off + i * 5, none⟩) (j - i) c) ((l.drop i).take (j - i)) :=
  ⟨some ⟨b, off + i * 5, none⟩, b, off + i * 5, c, by rw [partl_len l hj], fun _ => rfl, ags_take _ (ags_drop i h)⟩
theorem mem_part {α : Type} {l : List α} {i n : Nat} {x : α} (h : x ∈ (l.drop i).take n) : x ∈ l := List.mem_of_mem_drop (List.mem_of_mem_take h)
end Go.Proofs.YthbdchleppbidaaGreat
/- append of points to a row of one's own: where it lies, too. -/
namespace Go.Proofs.YthbdchleppbidaaGreat
open Go.RowKit

/-- points to be appended: nil, or at a place -/
def SrcP (w : World) (y : Value) (bs : List Pt) : Prop := (y = .slice none 0 0 ∧ bs = []) ∨ ∃ ad c, y = .slice (some ad) bs.length c ∧ ∀ j u, (bs.flatMap Pt.cells)[j]? = some u → w.cell? (ad.add j) = some u
theorem PtRowB.src {B : Nat} {w : World} {v : Value} {l : List Pt} (h : PtRowB B w v l) : SrcP w v l := by
  rcases h.opened with ⟨rfl, rfl⟩ | ⟨g, cap, R, rfl, _, hg, _⟩
  · exact .inl ⟨rfl, rfl⟩
  · refine .inr ⟨_, cap, rfl, fun j u hu => ?_⟩
    rw [add_at, Nat.zero_add]
    exact hg.cell (by rw [List.getElem?_append_left (List.getElem?_eq_some_iff.1 hu).1]; exact hu)
theorem SrcP.keep {w w' : World} {y : Value} {bs : List Pt} (h : SrcP w y bs) (hb : Below w.heap.size w w') : SrcP w' y bs := by
  rcases h with h | ⟨ad, c, h1, h2⟩
  · exact .inl h
  · refine .inr ⟨ad, c, h1, fun j u hu => ?_⟩
    have h3 := h2 j u hu
    rw [← h3]
    exact World.cell?_of_block (w := w) (hb.block _ (cell_lt h3))
theorem wpList_append_pts {w : World} {ops : Array Oper} {rest : List Oper} {o : Oper} {a : Act} {Q : Exit → Act → World → Prop} (hgd : o.guard = none) (sl x : Operand)
    (ho : o.op = .call { callee := .builtin .append, args := #[sl, x], argTypes := #[44, 44] }) (B : Nat) (v : Value) (l : List Pt) (hs : a.eval sl = v) (hown : PtRowB B w v l)
    (y : Value) (bs : List Pt) (hx : a.eval x = y) (hsrc : SrcP w y bs) (hb : l.length + bs.length ≤ 1000000) (hB : B ≤ w.heap.size)
    (h : ∀ v' w', Hid (PtRowB B w' v' (l ++ bs)) → Hid (w.grownBy w' v.ownBlock) → wpList Tryz.prog ops Q rest (a.put o.dst v') w') : wpList Tryz.prog ops Q (o :: rest) a w := by
  obtain ⟨i0, hi, hz0, hz1, hz2⟩ := info_parts infoPt
  rcases hsrc with ⟨rfl, rfl⟩ | ⟨ad, c, rfl, hc⟩
  · refine wpList_append_own_none (P := Tryz.prog) hgd sl x 44 ho B 47 i0 2 Tryz.underlying44 hi v _ _ hs hown hx ?_
    exact h v w (by rw [List.append_nil]; exact hown) ⟨rfl, rfl, rfl, Nat.le_refl _, fun _ _ _ => rfl⟩
  · refine wpList_append_own_at _ hgd sl x 44 ho B 47 i0 (.agg #[.int .i64 0, .int .i64 0]) 2 16 Tryz.underlying44 hi hz0 hz1 hz2 rfl (by decide) _ _ _ hs hown ad bs.length c (bs.flatMap Pt.cells) hx (flatP_length bs) hc (flatP_one bs) (by unfold maxLen; omega) (by omega) hB ?_
    intro v' w' h1 h2 _ _
    refine h v' w' ?_ h2
    show w'.ownsRow B _ 2 v' (l ++ bs).length ((l ++ bs).flatMap Pt.cells)
    rw [List.length_append, List.flatMap_append]; exact h1
/-- what append gives, whatever operation asks for it -/
theorem app_pts {w : World} {B : Nat} {v y : Value} {l bs : List Pt} (ty : TypeId) (hown : PtRowB B w v l) (hsrc : SrcP w y bs) (hb : l.length + bs.length ≤ 1000000) (hB : B ≤ w.heap.size) :
    ∃ v' w', (Builtin.append_ #[44, 44] ty #[v, y]).run Tryz.prog w = .ok v' w' ∧ PtRowB B w' v' (l ++ bs) ∧ Below B w w' := by
  obtain ⟨i0, hi, hz0, hz1, hz2⟩ := info_parts infoPt
  rcases hsrc with ⟨rfl, rfl⟩ | ⟨ad, c, rfl, hc⟩
  · exact ⟨v, w, run_append_owned_none (P := Tryz.prog) (w := w) B 44 ty 47 i0 2 Tryz.underlying44 hi v _ _ hown, by rw [List.append_nil]; exact hown, Below.refl _ _⟩
  · obtain ⟨v', w', hr, h1, h2, _, _⟩ := run_append_own_at (P := Tryz.prog) (w := w) B 44 ty 47 i0 (.agg #[.int .i64 0, .int .i64 0]) 2 16 Tryz.underlying44 hi hz0 hz1 hz2 rfl (by decide) v _ _ hown ad bs.length c (bs.flatMap Pt.cells) (flatP_length bs) hc (flatP_one bs) (by unfold maxLen; omega) (by omega) hB
    refine ⟨v', w', hr, ?_, (Below.refl B w).grown h2 hB (fun b hb => (hown.lt b hb).1)⟩
    show w'.ownsRow B _ 2 v' (l ++ bs).length ((l ++ bs).flatMap Pt.cells)
    rw [List.length_append, List.flatMap_append]; exact h1
theorem own_emptyP (w : World) : PtRowB w.heap.size (w.alloc (.cells #[] 47)) (.slice (some ⟨w.heap.size, 0, none⟩) 0 0) [] := World.ownsRow_made w #[] 0 (Nat.le_refl _) (Nat.zero_le _) rfl
/-- a row of points just built lies -/
theorem builtV_lies (w : World) (k : List Pt) : PLies (w.alloc (.cells (k.flatMap Pt.cells).toArray 47)) (.slice (some ⟨w.heap.size, 0, none⟩) k.length k.length) k := by
  refine ⟨_, w.heap.size, 0, k.length, rfl, fun _ => rfl, cells_pts fun i u hu => ?_⟩
  have hg : Arr (w.alloc (.cells (k.flatMap Pt.cells).toArray 47)) w.heap.size 47 (k.flatMap Pt.cells) := heap_alloc_new w _
  rw [Nat.zero_add]
  exact hg.cell hu
theorem src_lies {w : World} {v : Value} {l : List Pt} (h : PLies w v l) (hne : l ≠ []) : SrcP w v l := by
  obtain ⟨a, b, off, cap, rfl, h1, h2⟩ := h
  have e := h1 hne
  subst e
  exact .inr ⟨_, cap, rfl, fun j u hu => by rw [add_at]; exact pts_cells h2 j u hu⟩
end Go.Proofs.YthbdchleppbidaaGreat
/- Aggregates cloned. -/
namespace Go.Proofs.YthbdchleppbidaaGreat
open Go.RowKit

set_option maxHeartbeats 4000000 in
set_option maxRecDepth 100000 in
theorem agclo_any {w : World} {v : Value} {l : List Ag} (hv : ALies w v l) (hn : l.length ≤ 1000000000000) :
    Calls Tryz.prog 30 #[v] w fun e w' => ∃ v', e = .returned v' ∧ AgRow w.heap.size w' v' l ∧ Below w.heap.size w w' := by
  obtain ⟨i0, hi, hz0, hz1, hz2⟩ := info_parts infoAg
  obtain ⟨a, b, off, cap, rfl, hadr, hpts⟩ := hv
  cases a with
  | none =>
    have hl : l = [] := Classical.byContradiction fun h => by have := hadr h; cases this
    subst hl
    have hq := Lib.run_eql_slice_nil (P := Tryz.prog) w 52 55 none 0 cap 0 0 Tryz.underlying52
    clear hadr hpts hi
    go_enter Tryz.func30, Tryz.ntmps30
    go_wp2
    go_ret
    exact ⟨_, rfl, AgRow.nil _ _, Below.refl _ _⟩
  | some ad =>
    have HNW : Hid (∀ j u, (l.flatMap Ag.cells)[j]? = some u → (w.alloc (.cells #[] 55)).cell? (ad.add j) = some u) := Lib.hid fun j u hu => by
      have hne : l ≠ [] := by rintro rfl; simp at hu
      have e := hadr hne
      injection e with e; subst e
      rw [add_at]
      have hc := ags_cells hpts j u hu
      rw [← hc]
      exact World.cell?_of_block (w := w) (Below.heap_alloc _ _ _ (by have := cell_lt hc; exact this))
    have HLN := Lib.hid hn
    have HE : Hid ((w.alloc (.cells #[] 55)).ownsRow w.heap.size 55 5 (.slice (some ⟨w.heap.size, 0, none⟩) 0 0) 0 []) := Lib.hid (World.ownsRow_made w #[] 0 (Nat.le_refl _) (Nat.zero_le _) rfl)
    have hq := Lib.run_eql_slice_nil (P := Tryz.prog) w 52 55 (some ad) l.length cap 0 0 Tryz.underlying52
    clear hadr hpts hn
    go_enter Tryz.func30, Tryz.ntmps30
    go_wp2_with (at_builtin; refine wpList_append_own_at _ rfl (.tmp 5) (.tmp 6) 52 rfl w.heap.size 55 i0 (.agg #[.int .i64 0, .int .i64 0, .int .i64 0, .int .i64 0, .int .i64 0]) 5 40 Tryz.underlying52 hi hz0 hz1 hz2 rfl (by decide) _ _ _ rfl HE.out ad l.length cap (l.flatMap Ag.cells) rfl (flatA_length l) HNW.out (flatA_one l) (by have := HLN.out; unfold maxLen; omega) (by have := HLN.out; omega) (by simp) ?_; intro v7 W7 hown7 hgrow7 _ hwhere7; have HR7 : Hid (AgRow w.heap.size W7 v7 l) := Lib.hid (by unfold AgRow; simpa using hown7); have HB7 : Hid (Below w.heap.size w W7) := Lib.hid (((Below.refl _ w).alloc (Nat.le_refl _) _).grown hgrow7 (by simp) (fun b hb => (HE.out.lt b hb).1)); clear hown7 hgrow7 hwhere7)
    go_ret
    exact ⟨_, rfl, HR7.out, HB7.out⟩
set_option maxHeartbeats 4000000 in
theorem agclo_none (w : World) :
    Calls Tryz.prog 30 #[.slice none 0 0] w fun e w' => e = .returned (.slice none 0 0) ∧ w' = w := by
  have hq := Lib.run_eql_slice_nil (P := Tryz.prog) w 52 55 none 0 0 0 0 Tryz.underlying52
  go_enter Tryz.func30, Tryz.ntmps30
  go_wp2
  go_ret
  exact ⟨rfl, rfl⟩
end Go.Proofs.YthbdchleppbidaaGreat
