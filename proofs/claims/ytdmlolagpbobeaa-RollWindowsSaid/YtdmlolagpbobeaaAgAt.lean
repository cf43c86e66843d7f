/- Aggregates: as values, in a block of their own; a slice of them as it lies, opened. -/
import Derived.Test.YtdmlolagpbobeaaRoL
import Derived.Test.YtdmlolagpbobeaaGenC
import Derived.ChangeMaps5
import Derived.OpenShut
import Derived.Deep.Slices
import Derived.Deep.Strs
import Derived.ChangeSame
namespace Go.Proofs.Ytdmlolagpbobeaa
open Go.RowKit Go.Deep Go.ChangeShapes Go.WideShapes

def Ag.cells (t : Ag) : List Value := [.int .i64 t.at_, .int .i64 t.n, .int .i64 t.s, .int .i64 t.lo, .int .i64 t.hi]
/-- an aggregate as a value -/
def agV (t : Ag) : Value := .agg #[.int .i64 t.at_, .int .i64 t.n, .int .i64 t.s, .int .i64 t.lo, .int .i64 t.hi]
structure Ag.fits (t : Ag) : Prop where
  a0 : -9223372036854775808 ≤ t.at_
  a1 : t.at_ ≤ 9223372036854775807
  n0 : -9223372036854775808 ≤ t.n
  n1 : t.n ≤ 9223372036854775807
  s0 : -9223372036854775808 ≤ t.s
  s1 : t.s ≤ 9223372036854775807
  l0 : -9223372036854775808 ≤ t.lo
  l1 : t.lo ≤ 9223372036854775807
  h0 : -9223372036854775808 ≤ t.hi
  h1 : t.hi ≤ 9223372036854775807

/-! ### In a block of its own -/
def AgAt (W : World) (P : Nat) (t : Ag) : Prop := W.heap[P]? = some (.cells #[.int .i64 t.at_, .int .i64 t.n, .int .i64 t.s, .int .i64 t.lo, .int .i64 t.hi] 25 (0, 0))
theorem AgAt.keep {W W' : World} {P : Nat} {t : Ag} (h : AgAt W P t) (hb : Below W.heap.size W W') : AgAt W' P t := (hb.block P (lt_of_block h)).trans h
theorem AgAt.lt {W : World} {P : Nat} {t : Ag} (h : AgAt W P t) : P < W.heap.size := lt_of_block h
theorem AgAt.old {W : World} {P : Nat} {t : Ag} (h : AgAt W P t) (o : Obj) : AgAt (W.alloc o) P t := (Below.heap_alloc _ _ _ (lt_of_block h)).trans h
theorem AgAt.new (W : World) (t : Ag) : AgAt (W.alloc (.cells #[.int .i64 t.at_, .int .i64 t.n, .int .i64 t.s, .int .i64 t.lo, .int .i64 t.hi] 25)) W.heap.size t := heap_alloc_new W _
theorem AgAt.only {S : Nat → Prop} {W W' : World} {P : Nat} {t : Ag} (h : AgAt W P t) (ho : Only S W W') (hS : ¬ S P) : AgAt W' P t := (ho.block P (lt_of_block h) hS).trans h
theorem AgAt.drew {W : World} {P : Nat} {t : Ag} (h : AgAt W P t) : AgAt W.drew P t := h
/-- what a walk reads of it -/
structure AgC (W : World) (P : Nat) (t : Ag) : Prop where
  c0 : W.cell? ⟨P, 0, none⟩ = some (.int .i64 t.at_)
  c1 : W.cell? ⟨P, 1, none⟩ = some (.int .i64 t.n)
  c2 : W.cell? ⟨P, 2, none⟩ = some (.int .i64 t.s)
  c3 : W.cell? ⟨P, 3, none⟩ = some (.int .i64 t.lo)
  c4 : W.cell? ⟨P, 4, none⟩ = some (.int .i64 t.hi)
  f0 : W.frozen? ⟨P, 0, none⟩ = false
  f1 : W.frozen? ⟨P, 1, none⟩ = false
  f2 : W.frozen? ⟨P, 2, none⟩ = false
  f3 : W.frozen? ⟨P, 3, none⟩ = false
  f4 : W.frozen? ⟨P, 4, none⟩ = false
theorem AgAt.cells {W : World} {P : Nat} {t : Ag} (h : AgAt W P t) : AgC W P t := by
  unfold AgAt at h
  exact ⟨by simp [World.cell?, h], by simp [World.cell?, h], by simp [World.cell?, h], by simp [World.cell?, h], by simp [World.cell?, h], by simp [World.frozen?, h], by simp [World.frozen?, h], by simp [World.frozen?, h], by simp [World.frozen?, h], by simp [World.frozen?, h]⟩
/-- an aggregate stored -/
def setAg (w : World) (P : Nat) (t : Ag) : World := ((((w.setCell ⟨P, 0, none⟩ (.int .i64 t.at_)).setCell ⟨P, 1, none⟩ (.int .i64 t.n)).setCell ⟨P, 2, none⟩ (.int .i64 t.s)).setCell ⟨P, 3, none⟩ (.int .i64 t.lo)).setCell ⟨P, 4, none⟩ (.int .i64 t.hi)
theorem setAg_only (w : World) (P : Nat) (t : Ag) : Only (fun k => k = P) w (setAg w P t) :=
  (Only.setCell (S := fun k => k = P) _ rfl _).trans ((Only.setCell (S := fun k => k = P) _ rfl _).trans ((Only.setCell (S := fun k => k = P) _ rfl _).trans ((Only.setCell (S := fun k => k = P) _ rfl _).trans (Only.setCell (S := fun k => k = P) _ rfl _) (fun _ _ h => h)) (fun _ _ h => h)) (fun _ _ h => h)) (fun _ _ h => h)
theorem setAg_at {w : World} {P : Nat} {u : Ag} (h : AgAt w P u) (t : Ag) : AgAt (setAg w P t) P t := by
  have h1 := heap_setCell_same w P 0 _ _ (.int .i64 t.at_) h
  have h2 := heap_setCell_same _ P 1 _ _ (.int .i64 t.n) h1
  have h3 := heap_setCell_same _ P 2 _ _ (.int .i64 t.s) h2
  have h4 := heap_setCell_same _ P 3 _ _ (.int .i64 t.lo) h3
  have h5 := heap_setCell_same _ P 4 _ _ (.int .i64 t.hi) h4
  unfold AgAt setAg
  rw [h5]; simp
theorem ret_ag {fn : Func} {p : Tmp} (h : fn.results = #[.cell p 25]) {tmps : Array Value} {w : World} {Q : Nat} {t : Ag} (hp : tmps.getD p undef = .pointer (some ⟨Q, 0, none⟩)) (hq : AgAt w Q t) :
    (results fn tmps).run Try.prog w = .ok (agV t) w := by
  obtain ⟨c0, c1, c2, c3, c4, -, -, -, -, -⟩ := hq.cells
  rw [results_cell h, hp]
  unfold agV
  go_simp
theorem ret_ag2 {fn : Func} {p u : Tmp} (h : fn.results = #[.cell p 25, .tmp u]) {tmps : Array Value} {w : World} {Q : Nat} {t : Ag} (hp : tmps.getD p undef = .pointer (some ⟨Q, 0, none⟩)) (hq : AgAt w Q t) :
    (results fn tmps).run Try.prog w = .ok (.tuple #[agV t, tmps.getD u undef]) w := by
  obtain ⟨c0, c1, c2, c3, c4, -, -, -, -, -⟩ := hq.cells
  rw [results_cell_tmp h, hp]
  unfold agV
  go_simp

/-! ### A slice of them -/
def AgsAt (w : World) (b off : Nat) (l : List Ag) : Prop := ∀ i t, l[i]? = some t → w.cell? ⟨b, off + i * 5, none⟩ = some (.int .i64 t.at_) ∧ w.cell? ⟨b, off + i * 5 + 1, none⟩ = some (.int .i64 t.n) ∧ w.cell? ⟨b, off + i * 5 + 2, none⟩ = some (.int .i64 t.s) ∧ w.cell? ⟨b, off + i * 5 + 3, none⟩ = some (.int .i64 t.lo) ∧ w.cell? ⟨b, off + i * 5 + 4, none⟩ = some (.int .i64 t.hi)
/-- a slice of these aggregates -/
def ALies (w : World) (v : Value) (l : List Ag) : Prop := ∃ a b off cap, v = .slice a l.length cap ∧ (l ≠ [] → a = some ⟨b, off, none⟩) ∧ AgsAt w b off l
theorem AgsAt.only {S : Nat → Prop} {w w' : World} {b off : Nat} {l : List Ag} (h : AgsAt w b off l) (ho : Only S w w') (hS : ¬ S b) : AgsAt w' b off l := fun i t ht => by
  obtain ⟨h0, h1, h2, h3, h4⟩ := h i t ht
  have hlt := cell_lt h0
  have hb := ho.block b hlt hS
  exact ⟨by rw [← h0]; exact World.cell?_of_block (w := w) hb, by rw [← h1]; exact World.cell?_of_block (w := w) hb, by rw [← h2]; exact World.cell?_of_block (w := w) hb, by rw [← h3]; exact World.cell?_of_block (w := w) hb, by rw [← h4]; exact World.cell?_of_block (w := w) hb⟩
theorem AgsAt.beyond {w w' : World} {b off : Nat} {l : List Ag} (h : AgsAt w b off l) (hb : Below w.heap.size w w') : AgsAt w' b off l := h.only (only_beyond (S := fun _ => False) hb) (fun h => h)
theorem ALies.beyond {w w' : World} {v : Value} {l : List Ag} (h : ALies w v l) (hb : Below w.heap.size w w') : ALies w' v l := by
  obtain ⟨a, b, off, cap, h1, h2, h3⟩ := h
  exact ⟨a, b, off, cap, h1, h2, h3.beyond hb⟩
theorem flatA_length (x : List Ag) : (x.flatMap Ag.cells).length = x.length * 5 := by
  induction x with
  | nil => rfl
  | cons t r ih => rw [List.flatMap_cons, List.length_append, ih, List.length_cons]; simp [Ag.cells]; omega
theorem flatA_one (x : List Ag) : ∀ u ∈ x.flatMap Ag.cells, u.oneCell' = true := by
  intro u hu
  obtain ⟨t, _, hu⟩ := List.mem_flatMap.1 hu
  simp only [Ag.cells, List.mem_cons, List.not_mem_nil, or_false] at hu
  rcases hu with rfl | rfl | rfl | rfl | rfl <;> rfl
theorem flatA_get {K : List Ag} {j : Nat} {t : Ag} (h : K[j]? = some t) (i : Nat) (hi : i < 5) : (K.flatMap Ag.cells)[j * 5 + i]? = t.cells[i]? := by
  induction K generalizing j with
  | nil => simp at h
  | cons a r ih =>
    cases j with
    | zero =>
      obtain rfl : a = t := by simpa using h
      rw [List.flatMap_cons, List.getElem?_append_left (by simp [Ag.cells]; omega), Nat.zero_mul, Nat.zero_add]
    | succ j =>
      have h' : r[j]? = some t := by simpa using h
      rw [List.flatMap_cons, List.getElem?_append_right (by simp [Ag.cells]; omega), ← ih h']
      congr 1
      simp [Ag.cells]; omega
theorem infoAg : (Try.prog.info? 25).map (fun i => (i.zero, i.size, i.bytes)) = some (some (.agg #[.int .i64 0, .int .i64 0, .int .i64 0, .int .i64 0, .int .i64 0]), 5, 40) := by kernel_rfl
theorem cellsAg : Try.prog.cellsOf 25 = 5 := by kernel_rfl
theorem cellsAgI : Try.prog.cellsOf 2 = 1 := by kernel_rfl
section
variable {H : Type} {enc : TypeId × Value → H} {w : World} {base : Nat} {spare : Nat → Bool} {held : Bool} {P : Program}
theorem trod_struct5 {t : TypeId} {f0 f1 f2 f3 f4 : Field} {fuel : Nat} {cs : List Value} {x : DataW H × List MemPlace} (ht : P.underlying t = some (.struct #[f0, f1, f2, f3, f4])) (h : DataW.trod enc P w base spare held fuel t cs = some x) :
    ∃ y0 y1 y2 y3 y4 n, DataW.trod enc P w base spare held n f0.type ((cs.drop f0.offset).take (P.cellsOf f0.type)) = some y0 ∧ DataW.trod enc P w base spare held n f1.type ((cs.drop f1.offset).take (P.cellsOf f1.type)) = some y1 ∧
      DataW.trod enc P w base spare held n f2.type ((cs.drop f2.offset).take (P.cellsOf f2.type)) = some y2 ∧ DataW.trod enc P w base spare held n f3.type ((cs.drop f3.offset).take (P.cellsOf f3.type)) = some y3 ∧ DataW.trod enc P w base spare held n f4.type ((cs.drop f4.offset).take (P.cellsOf f4.type)) = some y4 := by
  obtain ⟨xs, n, _, rfl, hl, hlen, hf⟩ := DataW.trod_struct ht h
  match xs, hlen with
  | [y0, y1, y2, y3, y4], _ => exact ⟨y0, y1, y2, y3, y4, n, by simpa using hf 0 f0 rfl, by simpa using hf 1 f1 rfl, by simpa using hf 2 f2 rfl, by simpa using hf 3 f3 rfl, by simpa using hf 4 f4 rfl⟩
end
theorem five_ints {H : Type} {enc : TypeId × Value → H} {W : World} {spare : Nat → Bool} {held : Bool} {fuel : Nat} {u0 u1 u2 u3 u4 : Value} {x : DataW H × List MemPlace} (h : DataW.trod enc Try.prog W 0 spare held fuel 25 [u0, u1, u2, u3, u4] = some x) :
    ∃ t : Ag, u0 = .int .i64 t.at_ ∧ u1 = .int .i64 t.n ∧ u2 = .int .i64 t.s ∧ u3 = .int .i64 t.lo ∧ u4 = .int .i64 t.hi ∧ t.fits := by
  obtain ⟨y0, y1, y2, y3, y4, n', t0, t1, t2, t3, t4⟩ := trod_struct5 Try.underlying25 h
  simp only [cellsAgI] at t0 t1 t2 t3 t4
  obtain ⟨z0, e0, _, w0⟩ := DataW.trod_int Try.underlying2 t0
  obtain ⟨z1, e1, _, w1⟩ := DataW.trod_int Try.underlying2 t1
  obtain ⟨z2, e2, _, w2⟩ := DataW.trod_int Try.underlying2 t2
  obtain ⟨z3, e3, _, w3⟩ := DataW.trod_int Try.underlying2 t3
  obtain ⟨z4, e4, _, w4⟩ := DataW.trod_int Try.underlying2 t4
  simp at e0 e1 e2 e3 e4
  exact ⟨⟨z0, z1, z2, z3, z4⟩, e0, e1, e2, e3, e4, ⟨(bounds_i64 w0).1, (bounds_i64 w0).2, (bounds_i64 w1).1, (bounds_i64 w1).2, (bounds_i64 w2).1, (bounds_i64 w2).2, (bounds_i64 w3).1, (bounds_i64 w3).2, (bounds_i64 w4).1, (bounds_i64 w4).2⟩⟩
set_option maxRecDepth 100000 in
theorem open_agg {H : Type} {enc : TypeId × Value → H} {W : World} {spare : Nat → Bool} {held : Bool} {v : Value} {d : DataW H} {ps : List MemPlace} {r : Reach} {b0 : Nat} (hval : Value.okWide Try.prog W r b0 25 v)
    (hd : DataW.Trod enc Try.prog W 0 spare held 25 v d ps) : ∃ t : Ag, v = agV t ∧ t.fits := by
  obtain ⟨cs, rfl, hcs⟩ := okWide_struct Try.underlying25 hval
  obtain ⟨fuel, hf⟩ := hd
  rw [cellsAg] at hcs
  obtain ⟨cs, rfl⟩ : ∃ l : List Value, cs = l.toArray := ⟨cs.toList, by simp⟩
  match cs, hcs with
  | [u0, u1, u2, u3, u4], _ =>
    have hf' : DataW.trod enc Try.prog W 0 spare held fuel 25 [u0, u1, u2, u3, u4] = some (d, ps) := by simpa [Value.cells] using hf
    obtain ⟨t, rfl, rfl, rfl, rfl, rfl, h⟩ := five_ints hf'
    exact ⟨t, rfl, h⟩
set_option maxRecDepth 1000000 in
theorem open_aggs {H : Type} {enc : TypeId × Value → H} {W : World} {spare : Nat → Bool} {held : Bool} {v : Value} {d : DataW H} {ps : List MemPlace} {r : Reach} {b0 : Nat} (hval : Value.okWide Try.prog W r b0 34 v)
    (hd : DataW.Trod enc Try.prog W 0 spare held 34 v d ps) : ∃ l : List Ag, ALies W v l ∧ (∀ t ∈ l, t.fits) ∧ l.length ≤ maxLen := by
  obtain ⟨a, len, cap, rfl⟩ := okWide_slice Try.underlying34 hval
  obtain ⟨fuel, hf⟩ := hd
  rcases open_slice Try.underlying34 hf with ⟨hcs, _⟩ | ⟨ad, len', cap', m, n, D, Pl, hcs, _, hl, hm, hmm, _, hel⟩
  · simp [Value.cells] at hcs
    obtain ⟨rfl, rfl, rfl⟩ := hcs
    exact ⟨[], ⟨none, 0, 0, 0, rfl, fun h => absurd rfl h, fun i t h => by simp at h⟩, fun t h => by simp at h, by simp⟩
  · simp [Value.cells] at hcs
    obtain ⟨rfl, rfl, rfl⟩ := hcs
    have hlm : len ≤ m := by rw [hmm]; split <;> omega
    have each : ∀ i, i < len → ∃ t : Ag, (∀ j u, t.cells[j]? = some u → W.cell? ((ad.add (i * 5)).add j) = some u) ∧ t.fits := by
      intro i hi
      obtain ⟨cs', h1, h2⟩ := hel i (by omega)
      rw [cellsAg] at h1
      obtain ⟨_, hlen, hc⟩ := World.cells?_some h1
      match cs', hlen with
      | [u0, u1, u2, u3, u4], _ =>
        obtain ⟨t, rfl, rfl, rfl, rfl, rfl, hfit⟩ := five_ints h2
        refine ⟨t, fun j u hu => ?_, hfit⟩
        simp only [Ag.cells] at hu
        have hj : j < 5 := by have := (List.getElem?_eq_some_iff.1 hu).1; simpa using this
        rw [hc j hj, ← hu]
    obtain ⟨T, hT⟩ := choose_lt each
    have hget : ∀ i t, ((List.range len).map T)[i]? = some t → i < len ∧ t = T i := by
      intro i t h
      by_cases hi : i < len
      · simp [hi] at h; exact ⟨hi, h.symm⟩
      · simp [hi] at h
    have hin : ∀ t ∈ (List.range len).map T, t.fits := by
      intro t ht
      obtain ⟨i, hi, rfl⟩ := List.mem_map.1 ht
      exact (hT i (List.mem_range.1 hi)).2
    have hlen : ((List.range len).map T).length = len := by simp
    rcases Nat.eq_zero_or_pos len with h0 | h0
    · subst h0
      exact ⟨[], ⟨some ad, 0, 0, cap, rfl, fun h => absurd rfl h, fun i t h => by simp at h⟩, fun t h => by simp at h, by simp⟩
    · obtain ⟨b, off, spot⟩ := ad
      have hc0 := (hT 0 h0).1 0 _ rfl
      have hspot : spot = none := by simpa [Addr.add] using World.cell?_spot hc0
      subst hspot
      refine ⟨(List.range len).map T, ⟨_, b, off, cap, by rw [hlen], fun _ => rfl, fun i t ht => ?_⟩, hin, by rw [hlen]; omega⟩
      obtain ⟨hi, rfl⟩ := hget i t ht
      have h0 := (hT i hi).1 0 _ rfl
      have h1 := (hT i hi).1 1 _ rfl
      have h2 := (hT i hi).1 2 _ rfl
      have h3 := (hT i hi).1 3 _ rfl
      have h4 := (hT i hi).1 4 _ rfl
      rw [add_plain, add_plain] at h0 h1 h2 h3 h4
      exact ⟨h0, h1, h2, h3, h4⟩

/-! ### Rows of one's own -/
def AgRow (B : Nat) (w : World) (v : Value) (l : List Ag) : Prop := w.ownsRow B 25 5 v l.length (l.flatMap Ag.cells)
theorem AgRow.keep {B : Nat} {w w' : World} {v : Value} {l : List Ag} (h : AgRow B w v l) (hb : Below w.heap.size w w') : AgRow B w' v l := ownsRow_beyond h hb
theorem AgRow.base {B B' : Nat} {w : World} {v : Value} {l : List Ag} (h : AgRow B w v l) (hB : B' ≤ B) : AgRow B' w v l := row_base h hB
theorem AgRow.nil (B : Nat) (w : World) : AgRow B w (.slice none 0 0) [] := World.ownsRow_nil _ _ _ _
theorem AgRow.lies {B : Nat} {w : World} {v : Value} {l : List Ag} (h : AgRow B w v l) : ALies w v l := by
  unfold AgRow at h
  by_cases h0 : l = []
  · subst h0
    obtain ⟨a, c, rfl⟩ := own_slice h
    exact ⟨a, 0, 0, c, rfl, fun h => absurd rfl h, fun i t ht => by simp at ht⟩
  · obtain ⟨g, cap, rfl, _⟩ := h.form (by have := List.length_pos_iff.2 h0; omega)
    refine ⟨_, g, 0, cap, rfl, fun _ => rfl, fun i t ht => ?_⟩
    have hi := (List.getElem?_eq_some_iff.1 ht).1
    have e0 := flatA_get ht 0 (by omega)
    have e1 := flatA_get ht 1 (by omega)
    have e2 := flatA_get ht 2 (by omega)
    have e3 := flatA_get ht 3 (by omega)
    have e4 := flatA_get ht 4 (by omega)
    exact ⟨by rw [Nat.zero_add, h.cellAt (i * 5) (by omega)]; exact e0, by rw [Nat.zero_add, h.cellAt (i * 5 + 1) (by omega)]; exact e1, by rw [Nat.zero_add, h.cellAt (i * 5 + 2) (by omega)]; exact e2, by rw [Nat.zero_add, h.cellAt (i * 5 + 3) (by omega)]; exact e3, by rw [Nat.zero_add, h.cellAt (i * 5 + 4) (by omega)]; exact e4⟩
end Go.Proofs.Ytdmlolagpbobeaa
