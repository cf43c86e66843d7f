/- Points: a slice of them as it lies, opened; rising rows of them. -/
import Derived.Test.YtdmlolagpbobeaaCore
import Derived.OpenShut
import Derived.Deep.Slices
import Derived.Deep.Strs
import Derived.ChangeSame
namespace Go.Proofs.Ytdmlolagpbobeaa
open Go.RowKit Go.Deep Go.ChangeShapes Go.WideShapes

structure Pt where
  a : Int
  v : Int
deriving DecidableEq, Inhabited
def Pt.cells (t : Pt) : List Value := [.int .i64 t.a, .int .i64 t.v]
def Pt.fits (t : Pt) : Prop := -9223372036854775808 ≤ t.a ∧ t.a ≤ 9223372036854775807 ∧ -9223372036854775808 ≤ t.v ∧ t.v ≤ 9223372036854775807
def PtsAt (w : World) (b off : Nat) (l : List Pt) : Prop := ∀ i t, l[i]? = some t → w.cell? ⟨b, off + i * 2, none⟩ = some (.int .i64 t.a) ∧ w.cell? ⟨b, off + i * 2 + 1, none⟩ = some (.int .i64 t.v)
/-- a slice of these points -/
def PLies (w : World) (v : Value) (l : List Pt) : Prop := ∃ a b off cap, v = .slice a l.length cap ∧ (l ≠ [] → a = some ⟨b, off, none⟩) ∧ PtsAt w b off l
theorem PtsAt.only {S : Nat → Prop} {w w' : World} {b off : Nat} {l : List Pt} (h : PtsAt w b off l) (ho : Only S w w') (hS : ¬ S b) : PtsAt w' b off l := fun i t ht => by
  obtain ⟨h1, h2⟩ := h i t ht
  have hlt := cell_lt h1
  have hb := ho.block b hlt hS
  exact ⟨by rw [← h1]; exact World.cell?_of_block (w := w) hb, by rw [← h2]; exact World.cell?_of_block (w := w) hb⟩
theorem PtsAt.beyond {w w' : World} {b off : Nat} {l : List Pt} (h : PtsAt w b off l) (hb : Below w.heap.size w w') : PtsAt w' b off l := h.only (only_beyond (S := fun _ => False) hb) (fun h => h)
theorem PLies.beyond {w w' : World} {v : Value} {l : List Pt} (h : PLies w v l) (hb : Below w.heap.size w w') : PLies w' v l := by
  obtain ⟨a, b, off, cap, h1, h2, h3⟩ := h
  exact ⟨a, b, off, cap, h1, h2, h3.beyond hb⟩
theorem flatP_get {K : List Pt} {j : Nat} {t : Pt} (h : K[j]? = some t) (i : Nat) (hi : i < 2) : (K.flatMap Pt.cells)[j * 2 + i]? = t.cells[i]? := by
  induction K generalizing j with
  | nil => simp at h
  | cons a r ih =>
    cases j with
    | zero =>
      obtain rfl : a = t := by simpa using h
      rw [List.flatMap_cons, List.getElem?_append_left (by simp [Pt.cells]; omega), Nat.zero_mul, Nat.zero_add]
    | succ j =>
      have h' : r[j]? = some t := by simpa using h
      rw [List.flatMap_cons, List.getElem?_append_right (by simp [Pt.cells]; omega), ← ih h']
      congr 1
      simp [Pt.cells]; omega
theorem plies_row {B : Nat} {w : World} {v : Value} {l : List Pt} (h : w.ownsRow B 31 2 v l.length (l.flatMap Pt.cells)) : PLies w v l := by
  by_cases h0 : l = []
  · subst h0
    obtain ⟨a, c, rfl⟩ := own_slice h
    exact ⟨a, 0, 0, c, rfl, fun h => absurd rfl h, fun i t ht => by simp at ht⟩
  · obtain ⟨g, cap, rfl, _⟩ := h.form (by have := List.length_pos_iff.2 h0; omega)
    refine ⟨_, g, 0, cap, rfl, fun _ => rfl, fun i t ht => ?_⟩
    have hi := (List.getElem?_eq_some_iff.1 ht).1
    have e0 := flatP_get ht 0 (by omega)
    have e1 := flatP_get ht 1 (by omega)
    exact ⟨by rw [Nat.zero_add, h.cellAt (i * 2) (by omega)]; exact e0, by rw [Nat.zero_add, h.cellAt (i * 2 + 1) (by omega)]; exact e1⟩

theorem cellsPt : Try.prog.cellsOf 31 = 2 := by kernel_rfl
theorem cellsI64 : Try.prog.cellsOf 2 = 1 := by kernel_rfl
set_option maxRecDepth 1000000 in
theorem open_pts {H : Type} {enc : TypeId × Value → H} {W : World} {spare : Nat → Bool} {held : Bool} {v : Value} {d : DataW H} {ps : List MemPlace} {r : Reach} {b0 : Nat} (hval : Value.okWide Try.prog W r b0 22 v)
    (hd : DataW.Trod enc Try.prog W 0 spare held 22 v d ps) : ∃ l : List Pt, PLies W v l ∧ (∀ t ∈ l, t.fits) ∧ l.length ≤ maxLen := by
  obtain ⟨a, len, cap, rfl⟩ := okWide_slice Try.underlying22 hval
  obtain ⟨fuel, hf⟩ := hd
  rcases open_slice Try.underlying22 hf with ⟨hcs, _⟩ | ⟨ad, len', cap', m, n, D, Pl, hcs, _, hl, hm, hmm, _, hel⟩
  · simp [Value.cells] at hcs
    obtain ⟨rfl, rfl, rfl⟩ := hcs
    exact ⟨[], ⟨none, 0, 0, 0, rfl, fun h => absurd rfl h, fun i t h => by simp at h⟩, fun t h => by simp at h, by simp⟩
  · simp [Value.cells] at hcs
    obtain ⟨rfl, rfl, rfl⟩ := hcs
    have hlm : len ≤ m := by rw [hmm]; split <;> omega
    have each : ∀ i, i < len → ∃ t : Pt, (∀ j u, t.cells[j]? = some u → W.cell? ((ad.add (i * 2)).add j) = some u) ∧ t.fits := by
      intro i hi
      obtain ⟨cs', h1, h2⟩ := hel i (by omega)
      rw [cellsPt] at h1
      obtain ⟨_, hlen, hc⟩ := World.cells?_some h1
      obtain ⟨y0, y1, n', _, _, t0, t1⟩ := trod_struct2 Try.underlying31 h2
      simp only [cellsI64] at t0 t1
      match cs', hlen with
      | [u0, u1], _ =>
        obtain ⟨z0, e0, _, w0⟩ := DataW.trod_int Try.underlying2 t0
        obtain ⟨z1, e1, _, w1⟩ := DataW.trod_int Try.underlying2 t1
        simp at e0 e1
        have b0 := bounds_i64 w0
        have b1 := bounds_i64 w1
        refine ⟨⟨z0, z1⟩, fun j u hu => ?_, b0.1, b0.2, b1.1, b1.2⟩
        simp only [Pt.cells] at hu
        have hj : j < 2 := by have := (List.getElem?_eq_some_iff.1 hu).1; simpa using this
        rw [hc j hj, ← hu, e0, e1]
    obtain ⟨T, hT⟩ := choose_lt each
    have hget : ∀ i t, ((List.range len).map T)[i]? = some t → i < len ∧ t = T i := by
      intro i t h
      by_cases hi : i < len
      · simp [hi] at h; exact ⟨hi, h.symm⟩
      · simp [hi] at h
    have hin : ∀ t ∈ (List.range len).map T, t.fits := by
      intro t ht
      obtain ⟨i, hi, rfl⟩ := List.mem_map.1 ht
      exact (hT i (List.mem_range.1 hi)).2
    have hlen : ((List.range len).map T).length = len := by simp
    rcases Nat.eq_zero_or_pos len with h0 | h0
    · subst h0
      exact ⟨[], ⟨some ad, 0, 0, cap, rfl, fun h => absurd rfl h, fun i t h => by simp at h⟩, fun t h => by simp at h, by simp⟩
    · obtain ⟨b, off, spot⟩ := ad
      have hc0 := (hT 0 h0).1 0 _ rfl
      have hspot : spot = none := by simpa [Addr.add] using World.cell?_spot hc0
      subst hspot
      refine ⟨(List.range len).map T, ⟨_, b, off, cap, by rw [hlen], fun _ => rfl, fun i t ht => ?_⟩, hin, by rw [hlen]; omega⟩
      obtain ⟨hi, rfl⟩ := hget i t ht
      have h0 := (hT i hi).1 0 _ rfl
      have h1 := (hT i hi).1 1 _ rfl
      rw [add_plain, add_plain] at h0 h1
      exact ⟨h0, h1⟩

/-! ### The bits of a chunk -/
/-- a number told as a signed one -/
def wrapS (x : Int) : Int := (x + 9223372036854775808) % 18446744073709551616 - 9223372036854775808
theorem wrapS_eq (x : Int) : IntKind.i64.wrap x = wrapS x := by rw [IntKind.wrap_i64]; unfold wrapS; omega
theorem wrapS_in (x : Int) : -9223372036854775808 ≤ wrapS x ∧ wrapS x ≤ 9223372036854775807 := by unfold wrapS; omega
theorem wrapS_of {x : Int} (h0 : -9223372036854775808 ≤ x) (h1 : x ≤ 9223372036854775807) : wrapS x = x := by unfold wrapS; omega
/-- ticks may be, and rise -/
def Rises (l : List Pt) : Prop := (∀ t ∈ l, 0 ≤ t.a ∧ t.a ≤ 1099511627776) ∧ ∀ (i : Nat) (p q : Pt), l[i]? = some p → l[i + 1]? = some q → p.a < q.a
theorem getD_at {l : List Pt} {i : Nat} {t : Pt} (h : l[i]? = some t) : l.getD i default = t := by simp [List.getD, h]
def Srt (l : List Pt) : Prop := l.Pairwise fun p q => p.a < q.a
theorem srt_of {l : List Pt} (h : Rises l) : Srt l := by
  have key : ∀ (j i : Nat) (p q : Pt), i < j → l[i]? = some p → l[j]? = some q → p.a < q.a := by
    intro j
    induction j with
    | zero => intro i p q hi; omega
    | succ j ih =>
      intro i p q hi hp hq
      have hj : j < l.length := by have := (List.getElem?_eq_some_iff.1 hq).1; omega
      have hm : l[j]? = some l[j] := List.getElem?_eq_getElem hj
      have h1 := h.2 j _ _ hm hq
      rcases Nat.lt_or_ge i j with h2 | h2
      · have h3 := ih i p _ h2 hp hm; omega
      · obtain rfl : i = j := by omega
        rw [hm] at hp; rw [← Option.some.inj hp]; exact h1
  exact List.pairwise_iff_getElem.2 fun i j hi hj hij => key j i _ _ hij (List.getElem?_eq_getElem hi) (List.getElem?_eq_getElem hj)
theorem flat_snoc {acc : List Pt} {t : Pt} {B : Nat} {w : World} {v : Value} (h : w.ownsRow B 31 2 v (acc.length + 1) (acc.flatMap Pt.cells ++ t.cells)) : w.ownsRow B 31 2 v (acc ++ [t]).length ((acc ++ [t]).flatMap Pt.cells) := by
  rw [List.length_append, List.flatMap_append]; simpa using h
end Go.Proofs.Ytdmlolagpbobeaa
