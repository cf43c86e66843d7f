/- PtL, SeL, SatL, RoL, WiL, SeC: laid into one. -/
import Derived.Test.YthbdchleppbidaaGreatMA
import Derived.OpenShut
import Derived.Deep.Slices
import Derived.Deep.Strs
import Derived.ChangeSame
import Derived.Test.YthbdchleppbidaaGreatRows
/- Points: a slice of them as it lies, opened; rising rows of them. -/
namespace Go.Proofs.YthbdchleppbidaaGreat
open Go.RowKit Go.Deep Go.ChangeShapes Go.WideShapes

structure Pt where
  a : Int
  v : Int
deriving DecidableEq, Inhabited
def Pt.cells (t : Pt) : List Value := [.int .i64 t.a, .int .i64 t.v]
def Pt.fits (t : Pt) : Prop := -9223372036854775808 ≤ t.a ∧ t.a ≤ 9223372036854775807 ∧ -9223372036854775808 ≤ t.v ∧ t.v ≤ 9223372036854775807
def PtsAt (w : World) (b off : Nat) (l : List Pt) : Prop := ∀ i t, l[i]? = some t → w.cell? ⟨b, off + i * 2, none⟩ = some (.int .i64 t.a) ∧ w.cell? ⟨b, off + i * 2 + 1, none⟩ = some (.int .i64 t.v)
/-- a slice of these points -/
def PLies (w : World) (v : Value) (l : List Pt) : Prop := ∃ a b off cap, v = .slice a l.length cap ∧ (l ≠ [] → a = some ⟨b, off, none⟩) ∧ PtsAt w b off l
theorem PtsAt.only {S : Nat → Prop} {w w' : World} {b off : Nat} {l : List Pt} (h : PtsAt w b off l) (ho : Only S w w') (hS : ¬ S b) : PtsAt w' b off l := fun i t ht => by
  obtain ⟨h1, h2⟩ := h i t ht
  have hlt := cell_lt h1
  have hb := ho.block b hlt hS
  exact ⟨by rw [← h1]; exact World.cell?_of_block (w := w) hb, by rw [← h2]; exact World.cell?_of_block (w := w) hb⟩
theorem PtsAt.beyond {w w' : World} {b off : Nat} {l : List Pt} (h : PtsAt w b off l) (hb : Below w.heap.size w w') : PtsAt w' b off l := h.only (only_beyond (S := fun _ => False) hb) (fun h => h)
theorem PLies.beyond {w w' : World} {v : Value} {l : List Pt} (h : PLies w v l) (hb : Below w.heap.size w w') : PLies w' v l := by
  obtain ⟨a, b, off, cap, h1, h2, h3⟩ := h
  exact ⟨a, b, off, cap, h1, h2, h3.beyond hb⟩
theorem flatP_get {K : List Pt} {j : Nat} {t : Pt} (h : K[j]? = some t) (i : Nat) (hi : i < 2) : (K.flatMap Pt.cells)[j * 2 + i]? = t.cells[i]? := by
  induction K generalizing j with
  | nil => simp at h
  | cons a r ih =>
    cases j with
    | zero =>
      obtain rfl : a = t := by simpa using h
      rw [List.flatMap_cons, List.getElem?_append_left (by simp [Pt.cells]; omega), Nat.zero_mul, Nat.zero_add]
    | succ j =>
      have h' : r[j]? = some t := by simpa using h
      rw [List.flatMap_cons, List.getElem?_append_right (by simp [Pt.cells]; omega), ← ih h']
      congr 1
      simp [Pt.cells]; omega
theorem plies_row {B : Nat} {w : World} {v : Value} {l : List Pt} (h : w.ownsRow B 47 2 v l.length (l.flatMap Pt.cells)) : PLies w v l := by
  by_cases h0 : l = []
  · subst h0
    obtain ⟨a, c, rfl⟩ := own_slice h
    exact ⟨a, 0, 0, c, rfl, fun h => absurd rfl h, fun i t ht => by simp at ht⟩
  · obtain ⟨g, cap, rfl, _⟩ := h.form (by have := List.length_pos_iff.2 h0; omega)
    refine ⟨_, g, 0, cap, rfl, fun _ => rfl, fun i t ht => ?_⟩
    have hi := (List.getElem?_eq_some_iff.1 ht).1
    have e0 := flatP_get ht 0 (by omega)
    have e1 := flatP_get ht 1 (by omega)
    exact ⟨by rw [Nat.zero_add, h.cellAt (i * 2) (by omega)]; exact e0, by rw [Nat.zero_add, h.cellAt (i * 2 + 1) (by omega)]; exact e1⟩

theorem cellsPt : Tryz.prog.cellsOf 47 = 2 := by kernel_rfl
theorem cellsI64 : Tryz.prog.cellsOf 2 = 1 := by kernel_rfl
set_option maxRecDepth 1000000 in
theorem open_pts {H : Type} {enc : TypeId × Value → H} {W : World} {spare : Nat → Bool} {held : Bool} {v : Value} {d : DataW H} {ps : List MemPlace} {r : Reach} {b0 : Nat} (hval : Value.okWide Tryz.prog W r b0 44 v)
    (hd : DataW.Trod enc Tryz.prog W 0 spare held 44 v d ps) : ∃ l : List Pt, PLies W v l ∧ (∀ t ∈ l, t.fits) ∧ l.length ≤ maxLen := by
  obtain ⟨a, len, cap, rfl⟩ := okWide_slice Tryz.underlying44 hval
  obtain ⟨fuel, hf⟩ := hd
  rcases open_slice Tryz.underlying44 hf with ⟨hcs, _⟩ | ⟨ad, len', cap', m, n, D, Pl, hcs, _, hl, hm, hmm, _, hel⟩
  · simp [Value.cells] at hcs
    obtain ⟨rfl, rfl, rfl⟩ := hcs
    exact ⟨[], ⟨none, 0, 0, 0, rfl, fun h => absurd rfl h, fun i t h => by simp at h⟩, fun t h => by simp at h, by simp⟩
  · simp [Value.cells] at hcs
    obtain ⟨rfl, rfl, rfl⟩ := hcs
    have hlm : len ≤ m := by rw [hmm]; split <;> omega
    have each : ∀ i, i < len → ∃ t : Pt, (∀ j u, t.cells[j]? = some u → W.cell? ((ad.add (i * 2)).add j) = some u) ∧ t.fits := by
      intro i hi
      obtain ⟨cs', h1, h2⟩ := hel i (by omega)
      rw [cellsPt] at h1
      obtain ⟨_, hlen, hc⟩ := World.cells?_some h1
      obtain ⟨y0, y1, n', _, _, t0, t1⟩ := trod_struct2 Tryz.underlying47 h2
      simp only [cellsI64] at t0 t1
      match cs', hlen with
      | [u0, u1], _ =>
        obtain ⟨z0, e0, _, w0⟩ := DataW.trod_int Tryz.underlying2 t0
        obtain ⟨z1, e1, _, w1⟩ := DataW.trod_int Tryz.underlying2 t1
        simp at e0 e1
        have b0 := bounds_i64 w0
        have b1 := bounds_i64 w1
        refine ⟨⟨z0, z1⟩, fun j u hu => ?_, b0.1, b0.2, b1.1, b1.2⟩
        simp only [Pt.cells] at hu
        have hj : j < 2 := by have := (List.getElem?_eq_some_iff.1 hu).1; simpa using this
        rw [hc j hj, ← hu, e0, e1]
    obtain ⟨T, hT⟩ := choose_lt each
    have hget : ∀ i t, ((List.range len).map T)[i]? = some t → i < len ∧ t = T i := by
      intro i t h
      by_cases hi : i < len
      · simp [hi] at h; exact ⟨hi, h.symm⟩
      · simp [hi] at h
    have hin : ∀ t ∈ (List.range len).map T, t.fits := by
      intro t ht
      obtain ⟨i, hi, rfl⟩ := List.mem_map.1 ht
      exact (hT i (List.mem_range.1 hi)).2
    have hlen : ((List.range len).map T).length = len := by simp
    rcases Nat.eq_zero_or_pos len with h0 | h0
    · subst h0
      exact ⟨[], ⟨some ad, 0, 0, cap, rfl, fun h => absurd rfl h, fun i t h => by simp at h⟩, fun t h => by simp at h, by simp⟩
    · obtain ⟨b, off, spot⟩ := ad
      have hc0 := (hT 0 h0).1 0 _ rfl
      have hspot : spot = none := by simpa [Addr.add] using World.cell?_spot hc0
      subst hspot
      refine ⟨(List.range len).map T, ⟨_, b, off, cap, by rw [hlen], fun _ => rfl, fun i t ht => ?_⟩, hin, by rw [hlen]; omega⟩
      obtain ⟨hi, rfl⟩ := hget i t ht
      have h0 := (hT i hi).1 0 _ rfl
      have h1 := (hT i hi).1 1 _ rfl
      rw [add_plain, add_plain] at h0 h1
      exact ⟨h0, h1⟩

/-! ### The bits of a chunk -/
/-- a number told as a signed one -/
def wrapS (x : Int) : Int := (x + 9223372036854775808) % 18446744073709551616 - 9223372036854775808
theorem wrapS_eq (x : Int) : IntKind.i64.wrap x = wrapS x := by rw [IntKind.wrap_i64]; unfold wrapS; omega
theorem wrapS_in (x : Int) : -9223372036854775808 ≤ wrapS x ∧ wrapS x ≤ 9223372036854775807 := by unfold wrapS; omega
theorem wrapS_of {x : Int} (h0 : -9223372036854775808 ≤ x) (h1 : x ≤ 9223372036854775807) : wrapS x = x := by unfold wrapS; omega
/-- ticks may be, and rise -/
def Rises (l : List Pt) : Prop := (∀ t ∈ l, 0 ≤ t.a ∧ t.a ≤ 1099511627776) ∧ ∀ (i : Nat) (p q : Pt), l[i]? = some p → l[i + 1]? = some q → p.a < q.a
theorem getD_at {l : List Pt} {i : Nat} {t : Pt} (h : l[i]? = some t) : l.getD i default = t := by simp [List.getD, h]
def Srt (l : List Pt) : Prop := l.Pairwise fun p q => p.a < q.a
theorem srt_of {l : List Pt} (h : Rises l) : Srt l := by
  have key : ∀ (j i : Nat) (p q : Pt), i < j → l[i]? = some p → l[j]? = some q → p.a < q.a := by
    intro j
    induction j with
    | zero => intro i p q hi; omega
    | succ j ih =>
      intro i p q hi hp hq
      have hj : j < l.length := by have := (List.getElem?_eq_some_iff.1 hq).1; omega
      have hm : l[j]? = some l[j] := List.getElem?_eq_getElem hj
      have h1 := h.2 j _ _ hm hq
      rcases Nat.lt_or_ge i j with h2 | h2
      · have h3 := ih i p _ h2 hp hm; omega
      · obtain rfl : i = j := by omega
        rw [hm] at hp; rw [← Option.some.inj hp]; exact h1
  exact List.pairwise_iff_getElem.2 fun i j hi hj hij => key j i _ _ hij (List.getElem?_eq_getElem hi) (List.getElem?_eq_getElem hj)
theorem flat_snoc {acc : List Pt} {t : Pt} {B : Nat} {w : World} {v : Value} (h : w.ownsRow B 47 2 v (acc.length + 1) (acc.flatMap Pt.cells ++ t.cells)) : w.ownsRow B 47 2 v (acc ++ [t]).length ((acc ++ [t]).flatMap Pt.cells) := by
  rw [List.length_append, List.flatMap_append]; simpa using h
end Go.Proofs.YthbdchleppbidaaGreat
/- A series, plainly: points of rising ticks; what is put, got and cut. -/
namespace Go.Proofs.YthbdchleppbidaaGreat

/-- the value at a tick -/
def atP : List Pt → Int → Option Int
  | [], _ => none
  | p :: r, x => if p.a = x then some p.v else atP r x
/-- one point put -/
def putP : List Pt → Pt → List Pt
  | [], p => [p]
  | q :: r, p => if p.a < q.a then p :: q :: r else if q.a < p.a then q :: putP r p else p :: r
/-- all of these, one behind the other -/
def putL (s l : List Pt) : List Pt := l.foldl putP s
/-- those in a range -/
def getL (s : List Pt) (a b : Int) : List Pt := s.filter fun p => decide (a ≤ p.a) && decide (p.a < b)
/-- those that stay if it is cut -/
def cutL (s : List Pt) (a b : Int) : List Pt := s.filter fun p => !(decide (a ≤ p.a) && decide (p.a < b))

theorem srt_nil : Srt [] := List.Pairwise.nil
theorem srt_cons {p : Pt} {r : List Pt} : Srt (p :: r) ↔ (∀ q ∈ r, p.a < q.a) ∧ Srt r := List.pairwise_cons
theorem srt_tail {p : Pt} {r : List Pt} (h : Srt (p :: r)) : Srt r := (srt_cons.1 h).2
theorem atP_mem {s : List Pt} (hs : Srt s) {x v : Int} : atP s x = some v ↔ (⟨x, v⟩ : Pt) ∈ s := by
  induction s with
  | nil => simp [atP]
  | cons p r ih =>
    obtain ⟨h1, h2⟩ := srt_cons.1 hs
    unfold atP
    by_cases h : p.a = x
    · rw [if_pos h, List.mem_cons]
      constructor
      · intro e; injection e with e; exact .inl (by cases p; simp at h e; rw [h, e])
      · rintro (e | e)
        · rw [← e]
        · have := h1 _ e; simp only at this; omega
    · rw [if_neg h, ih h2, List.mem_cons]
      constructor
      · exact .inr
      · rintro (e | e)
        · exact absurd (by rw [← e]) h
        · exact e
theorem atP_none {s : List Pt} {x : Int} (h : ∀ p ∈ s, p.a ≠ x) : atP s x = none := by
  induction s with
  | nil => rfl
  | cons p r ih =>
    unfold atP
    rw [if_neg (h p (by simp))]
    exact ih fun q hq => h q (List.mem_cons_of_mem _ hq)
/-- two series of the same values at all ticks are the same -/
theorem ser_ext {s t : List Pt} (hs : Srt s) (ht : Srt t) (h : ∀ x, atP s x = atP t x) : s = t := by
  induction s generalizing t with
  | nil =>
    cases t with
    | nil => rfl
    | cons q t =>
      have := h q.a
      simp [atP] at this
  | cons p s ih =>
    obtain ⟨h1, h2⟩ := srt_cons.1 hs
    cases t with
    | nil =>
      have := h p.a
      simp [atP] at this
    | cons q t =>
      obtain ⟨k1, k2⟩ := srt_cons.1 ht
      have hp : (⟨p.a, p.v⟩ : Pt) ∈ q :: t := (atP_mem ht).1 ((h p.a).symm.trans ((atP_mem hs).2 (by cases p; simp)))
      have hq : (⟨q.a, q.v⟩ : Pt) ∈ p :: s := (atP_mem hs).1 ((h q.a).trans ((atP_mem ht).2 (by cases q; simp)))
      have e : p = q := by
        rcases List.mem_cons.1 hp with e | e
        · cases p; exact e
        · rcases List.mem_cons.1 hq with e' | e'
          · cases q; exact e'.symm
          · have a1 := k1 _ e
            have a2 := h1 _ e'
            simp only at a1 a2; omega
      subst e
      refine congrArg _ (ih h2 k2 fun x => ?_)
      have hx := h x
      simp only [atP] at hx
      by_cases hpx : p.a = x
      · rw [atP_none (fun r hr => by have := h1 r hr; omega), atP_none (fun r hr => by have := k1 r hr; omega)]
      · rw [if_neg hpx, if_neg hpx] at hx; exact hx
theorem putP_mem {s : List Pt} {p t : Pt} (h : t ∈ putP s p) : t = p ∨ t ∈ s := by
  induction s with
  | nil => simp [putP] at h; exact .inl h
  | cons q r ih =>
    unfold putP at h
    split at h
    · rcases List.mem_cons.1 h with h | h
      · exact .inl h
      · exact .inr h
    · split at h
      · rcases List.mem_cons.1 h with h | h
        · exact .inr (by rw [h]; simp)
        · rcases ih h with h | h
          · exact .inl h
          · exact .inr (List.mem_cons_of_mem _ h)
      · rcases List.mem_cons.1 h with h | h
        · exact .inl h
        · exact .inr (List.mem_cons_of_mem _ h)
theorem putP_srt {s : List Pt} (hs : Srt s) (p : Pt) : Srt (putP s p) := by
  induction s with
  | nil => exact srt_cons.2 ⟨fun q h => by simp at h, srt_nil⟩
  | cons q r ih =>
    obtain ⟨h1, h2⟩ := srt_cons.1 hs
    unfold putP
    split
    · rename_i h
      exact srt_cons.2 ⟨fun t ht => by
        rcases List.mem_cons.1 ht with rfl | ht
        · exact h
        · have := h1 t ht; omega, hs⟩
    · split
      · rename_i h
        exact srt_cons.2 ⟨fun t ht => by
          rcases putP_mem ht with rfl | ht
          · exact h
          · exact h1 t ht, ih h2⟩
      · rename_i h k
        exact srt_cons.2 ⟨fun t ht => by have := h1 t ht; omega, h2⟩
theorem putP_at {s : List Pt} (hs : Srt s) (p : Pt) (x : Int) : atP (putP s p) x = if p.a = x then some p.v else atP s x := by
  induction s with
  | nil => rfl
  | cons q r ih =>
    obtain ⟨h1, h2⟩ := srt_cons.1 hs
    unfold putP
    split
    · rfl
    · split
      · rename_i h
        show (if q.a = x then some q.v else atP (putP r p) x) = _
        rw [ih h2]
        by_cases hq : q.a = x
        · rw [if_pos hq, if_neg (by omega)]
          show _ = atP (q :: r) x
          unfold atP; rw [if_pos hq]
        · rw [if_neg hq]
          by_cases hp : p.a = x
          · rw [if_pos hp, if_pos hp]
          · rw [if_neg hp, if_neg hp]
            show _ = atP (q :: r) x
            conv => rhs; unfold atP
            rw [if_neg hq]
      · rename_i h k
        show (if p.a = x then some p.v else atP r x) = _
        by_cases hp : p.a = x
        · rw [if_pos hp, if_pos hp]
        · rw [if_neg hp, if_neg hp]
          show _ = atP (q :: r) x
          conv => rhs; unfold atP
          rw [if_neg (by omega)]
theorem putL_srt {s : List Pt} (hs : Srt s) (l : List Pt) : Srt (putL s l) := by
  induction l generalizing s with
  | nil => exact hs
  | cons p l ih => exact ih (putP_srt hs p)
/-- the last one of a tick counts -/
def lastP : List Pt → Int → Option Int
  | [], _ => none
  | p :: l, x => match lastP l x with
    | some v => some v
    | none => if p.a = x then some p.v else none
theorem putL_at {s : List Pt} (hs : Srt s) (l : List Pt) (x : Int) : atP (putL s l) x = match lastP l x with | some v => some v | none => atP s x := by
  induction l generalizing s with
  | nil => rfl
  | cons p l ih =>
    have h := ih (putP_srt hs p)
    show atP (putL (putP s p) l) x = _
    rw [h, show lastP (p :: l) x = (match lastP l x with | some v => some v | none => if p.a = x then some p.v else none) from rfl]
    cases lastP l x with
    | some v => rfl
    | none =>
      simp only
      rw [putP_at hs]
      by_cases hp : p.a = x
      · rw [if_pos hp, if_pos hp]
      · rw [if_neg hp, if_neg hp]
theorem putL_append (s l k : List Pt) : putL s (l ++ k) = putL (putL s l) k := by simp [putL, List.foldl_append]
/-- what is there already, put again, changes nothing -/
theorem putL_again {s : List Pt} (hs : Srt s) (l : List Pt) : putL (putL s l) l = putL s l := by
  refine ser_ext (putL_srt (putL_srt hs l) l) (putL_srt hs l) fun x => ?_
  rw [putL_at (putL_srt hs l), putL_at hs]
  cases lastP l x <;> rfl
theorem filter_srt {s : List Pt} (hs : Srt s) (f : Pt → Bool) : Srt (s.filter f) := List.Pairwise.filter f hs
theorem getL_srt {s : List Pt} (hs : Srt s) (a b : Int) : Srt (getL s a b) := filter_srt hs _
theorem cutL_srt {s : List Pt} (hs : Srt s) (a b : Int) : Srt (cutL s a b) := filter_srt hs _
theorem filter_at {s : List Pt} (hs : Srt s) (f : Int → Bool) (x : Int) : atP (s.filter fun p => f p.a) x = if f x = true then atP s x else none := by
  induction s with
  | nil => simp [atP]
  | cons p r ih =>
    obtain ⟨h1, h2⟩ := srt_cons.1 hs
    have hi := ih h2
    by_cases hf : f p.a = true
    · rw [List.filter_cons_of_pos (by exact hf)]
      unfold atP
      rw [hi]
      by_cases hp : p.a = x
      · rw [if_pos hp, if_pos hp, if_pos (by rw [← hp]; exact hf)]
      · rw [if_neg hp, if_neg hp]
    · rw [List.filter_cons_of_neg (by exact hf), hi]
      conv => rhs; unfold atP
      by_cases hp : p.a = x
      · rw [if_neg (by rw [← hp]; exact hf), if_neg (by rw [← hp]; exact hf)]
      · rw [if_neg hp]
theorem getL_at {s : List Pt} (hs : Srt s) (a b x : Int) : atP (getL s a b) x = if (decide (a ≤ x) && decide (x < b)) = true then atP s x else none := filter_at hs (fun y => decide (a ≤ y) && decide (y < b)) x
theorem cutL_at {s : List Pt} (hs : Srt s) (a b x : Int) : atP (cutL s a b) x = if (!(decide (a ≤ x) && decide (x < b))) = true then atP s x else none := filter_at hs (fun y => !(decide (a ≤ y) && decide (y < b))) x
theorem lastP_srt {l : List Pt} (hl : Srt l) (x : Int) : lastP l x = atP l x := by
  induction l with
  | nil => rfl
  | cons p l ih =>
    obtain ⟨h1, h2⟩ := srt_cons.1 hl
    unfold lastP atP
    rw [ih h2]
    by_cases hp : p.a = x
    · rw [atP_none (fun q hq => by have := h1 q hq; omega)]
    · rw [if_neg hp, if_neg hp]
      cases atP l x <;> rfl
/-- a range that is cut, and put again, is as it was -/
theorem cut_put {s : List Pt} (hs : Srt s) (a b : Int) : putL (cutL s a b) (getL s a b) = s := by
  refine ser_ext (putL_srt (cutL_srt hs a b) _) hs fun x => ?_
  rw [putL_at (cutL_srt hs a b), lastP_srt (getL_srt hs a b), getL_at hs, cutL_at hs]
  cases h : (decide (a ≤ x) && decide (x < b)) with
  | true => simp; cases atP s x <;> rfl
  | false => simp
theorem cut_len_two (s : List Pt) (a b : Int) : (cutL s a b).length + (getL s a b).length = s.length := by
  unfold cutL getL
  induction s with
  | nil => rfl
  | cons p r ih =>
    cases h : (decide (a ≤ p.a) && decide (p.a < b)) with
    | true => rw [List.filter_cons_of_neg (by simp [h]), List.filter_cons_of_pos (by simp [h]), List.length_cons, List.length_cons]; omega
    | false => rw [List.filter_cons_of_pos (by simp [h]), List.filter_cons_of_neg (by simp [h]), List.length_cons, List.length_cons]; omega
/-- what two ranges, one behind the other, have -/
theorem getL_parts {s : List Pt} (hs : Srt s) {a b c : Int} (hab : a ≤ b) (hbc : b ≤ c) : getL s a b ++ getL s b c = getL s a c := by
  unfold getL
  induction s with
  | nil => rfl
  | cons p r ih =>
    obtain ⟨h1, h2⟩ := srt_cons.1 hs
    have hi := ih h2
    have f1 : ∀ u v : Int, List.filter (fun p : Pt => decide (u ≤ p.a) && decide (p.a < v)) (p :: r) = if u ≤ p.a ∧ p.a < v then p :: List.filter (fun p : Pt => decide (u ≤ p.a) && decide (p.a < v)) r else List.filter (fun p : Pt => decide (u ≤ p.a) && decide (p.a < v)) r := fun u v => by
      by_cases h : u ≤ p.a ∧ p.a < v
      · rw [if_pos h, List.filter_cons_of_pos (by simp [h])]
      · rw [if_neg h, List.filter_cons_of_neg (by simpa using h)]
    rw [f1, f1, f1]
    by_cases k1 : a ≤ p.a
    · by_cases k2 : p.a < b
      · rw [if_pos ⟨k1, k2⟩, if_neg (by omega), if_pos (by omega), List.cons_append, hi]
      · have e : List.filter (fun p : Pt => decide (a ≤ p.a) && decide (p.a < b)) r = [] := List.filter_eq_nil_iff.2 fun q hq => by have := h1 q hq; simp; omega
        rw [e, List.nil_append] at hi
        rw [if_neg (by omega), e, List.nil_append, hi]
        by_cases k3 : p.a < c
        · rw [if_pos (by omega), if_pos (by omega)]
        · rw [if_neg (by omega), if_neg (by omega)]
    · rw [if_neg (by omega), if_neg (by omega), if_neg (by omega), hi]
theorem putP_len (s : List Pt) (p : Pt) (hs : Srt s) : (putP s p).length = if (atP s p.a).isSome = true then s.length else s.length + 1 := by
  induction s with
  | nil => rfl
  | cons q r ih =>
    obtain ⟨h1, h2⟩ := srt_cons.1 hs
    have e0 : atP (q :: r) p.a = if q.a = p.a then some q.v else atP r p.a := rfl
    rw [e0]
    unfold putP
    by_cases h : p.a < q.a
    · rw [if_pos h, if_neg (show ¬ q.a = p.a by omega), atP_none (fun t ht => by have := h1 t ht; omega)]; simp
    · rw [if_neg h]
      by_cases k : q.a < p.a
      · rw [if_pos k, if_neg (show ¬ q.a = p.a by omega), List.length_cons, ih h2, List.length_cons]
        by_cases m : (atP r p.a).isSome = true
        · rw [if_pos m, if_pos m]
        · rw [if_neg m, if_neg m]
      · rw [if_neg k, if_pos (show q.a = p.a by omega)]; simp
theorem putP_le (s : List Pt) (p : Pt) (hs : Srt s) : s.length ≤ (putP s p).length ∧ (putP s p).length ≤ s.length + 1 := by
  rw [putP_len s p hs]; split <;> omega
theorem putL_le {s : List Pt} (hs : Srt s) (l : List Pt) : s.length ≤ (putL s l).length ∧ (putL s l).length ≤ s.length + l.length := by
  induction l generalizing s with
  | nil => exact ⟨Nat.le_refl _, Nat.le_refl _⟩
  | cons p l ih =>
    have h1 := putP_le s p hs
    have h2 := ih (putP_srt hs p)
    show s.length ≤ (putL (putP s p) l).length ∧ (putL (putP s p) l).length ≤ s.length + (l.length + 1)
    omega
/-- what may be put stays so -/
theorem putL_all {s l : List Pt} {Q : Pt → Prop} (hs : ∀ p ∈ s, Q p) (hl : ∀ p ∈ l, Q p) : ∀ p ∈ putL s l, Q p := by
  induction l generalizing s with
  | nil => exact hs
  | cons q l ih =>
    refine ih (fun p hp => ?_) (fun p hp => hl p (List.mem_cons_of_mem _ hp))
    rcases putP_mem hp with rfl | hp
    · exact hl _ (by simp)
    · exact hs p hp
/-- of points that may be, all are got by the whole range -/
theorem getL_all {s : List Pt} {a b : Int} (h : ∀ p ∈ s, a ≤ p.a ∧ p.a < b) : getL s a b = s := List.filter_eq_self.2 fun p hp => by have := h p hp; simp; omega
/-- points that are there already change nothing -/
theorem putL_sub {s l : List Pt} (hs : Srt s) (hl : Srt l) (h : ∀ p ∈ l, p ∈ s) : putL s l = s := by
  refine ser_ext (putL_srt hs l) hs fun x => ?_
  rw [putL_at hs, lastP_srt hl]
  cases e : atP l x with
  | none => rfl
  | some v => exact ((atP_mem hs).2 (h _ ((atP_mem hl).1 e))).symm
/-- rising points, put into an empty series, are it -/
theorem putL_own {l : List Pt} (hl : Srt l) : putL [] l = l := by
  refine ser_ext (putL_srt srt_nil l) hl fun x => ?_
  rw [putL_at srt_nil, lastP_srt hl]
  cases atP l x <;> rfl
theorem srt_take {s : List Pt} (hs : Srt s) (n : Nat) : Srt (s.take n) := List.Pairwise.sublist (List.take_sublist n s) hs
end Go.Proofs.YthbdchleppbidaaGreat
/- Numbers saturated to 64 bits, plainly. -/
namespace Go.Proofs.YthbdchleppbidaaGreat

/-- a whole number, saturated to 64 bits -/
def sat (x : Int) : Int := if x < -9223372036854775808 then -9223372036854775808 else if 9223372036854775807 < x then 9223372036854775807 else x

theorem sat_lo (x : Int) : -9223372036854775808 ≤ sat x := by unfold sat; (repeat' split) <;> omega
theorem sat_hi (x : Int) : sat x ≤ 9223372036854775807 := by unfold sat; (repeat' split) <;> omega
theorem sat_in {x : Int} (h : -9223372036854775808 ≤ x) (h' : x ≤ 9223372036854775807) : sat x = x := by unfold sat; (repeat' split) <;> omega
theorem sat_under {x : Int} (h : x ≤ -9223372036854775808) : sat x = -9223372036854775808 := by unfold sat; (repeat' split) <;> omega
theorem sat_over {x : Int} (h : 9223372036854775807 ≤ x) : sat x = 9223372036854775807 := by unfold sat; (repeat' split) <;> omega
end Go.Proofs.YthbdchleppbidaaGreat
/- Aggregates, plainly: what points come to, saturated step by step; groups of one window; wide windows by narrow ones. -/
namespace Go.Proofs.YthbdchleppbidaaGreat

structure Ag where
  at_ : Int
  n : Int
  s : Int
  lo : Int
  hi : Int
deriving DecidableEq, Inhabited
/-- a value more -/
def stepA (a : Ag) (v : Int) : Ag := if a.n = 0 then ⟨a.at_, 1, v, v, v⟩ else ⟨a.at_, a.n + 1, sat (a.s + v), if v < a.lo then v else a.lo, if a.hi < v then v else a.hi⟩
def noAg (k : Int) : Ag := ⟨k, 0, 0, 0, 0⟩
/-- the aggregate of points -/
def ofA (k : Int) (g : List Pt) : Ag := g.foldl (fun a p => stepA a p.v) (noAg k)
/-- two aggregates together -/
def joinA2 (a b : Ag) : Ag := ⟨a.at_, sat (a.n + b.n), sat (a.s + b.s), if b.lo < a.lo then b.lo else a.lo, if a.hi < b.hi then b.hi else a.hi⟩
/-- the next one joined: those without values don't count -/
def joinStep (acc : Option Ag) (b : Ag) : Option Ag := if b.n < 1 then acc else match acc with
  | none => some b
  | some a => some (joinA2 a b)
def joinA (k : Int) (l : List Ag) : Option Ag := (l.foldl joinStep none).map fun a => { a with at_ := k }
/-- groups of one key, one behind the other -/
def runs {α : Type} (f : α → Int) : List α → List (Int × List α)
  | [] => []
  | x :: r => match runs f r with
    | [] => [(f x, [x])]
    | (k, g) :: t => if f x = k then (k, x :: g) :: t else (f x, [x]) :: (k, g) :: t
theorem runs_cons {α : Type} (f : α → Int) (x : α) (r : List α) : runs f (x :: r) = match runs f r with
    | [] => [(f x, [x])]
    | (k, g) :: t => if f x = k then (k, x :: g) :: t else (f x, [x]) :: (k, g) :: t := rfl
theorem runs_nil_iff {α : Type} (f : α → Int) (l : List α) : runs f l = [] ↔ l = [] := by
  cases l with
  | nil => simp [runs]
  | cons x r =>
    rw [runs_cons]
    constructor
    · intro h
      split at h
      · cases h
      · split at h <;> cases h
    · intro h; cases h
/-- a group has something, and all of its key -/
theorem runs_keys {α : Type} (f : α → Int) (l : List α) : ∀ e ∈ runs f l, e.2 ≠ [] ∧ ∀ x ∈ e.2, f x = e.1 := by
  induction l with
  | nil => simp [runs]
  | cons x r ih =>
    rw [runs_cons]
    cases h : runs f r with
    | nil =>
      intro e he
      obtain rfl : e = (f x, [x]) := by simpa using he
      simp
    | cons kg t =>
      obtain ⟨k, g⟩ := kg
      rw [h] at ih
      simp only
      by_cases hk : f x = k
      · rw [if_pos hk]
        intro e he
        rcases List.mem_cons.1 he with rfl | he
        · refine ⟨by simp, fun y hy => ?_⟩
          rcases List.mem_cons.1 hy with rfl | hy
          · exact hk
          · exact (ih (k, g) (by simp)).2 y hy
        · exact ih e (List.mem_cons_of_mem _ he)
      · rw [if_neg hk]
        intro e he
        rcases List.mem_cons.1 he with rfl | he
        · simp
        · exact ih e he
/-- all groups together are the list -/
theorem runs_all {α : Type} (f : α → Int) (l : List α) : (runs f l).flatMap Prod.snd = l := by
  induction l with
  | nil => rfl
  | cons x r ih =>
    rw [runs_cons]
    cases h : runs f r with
    | nil =>
      rw [(runs_nil_iff f r).1 h]; rfl
    | cons kg t =>
      obtain ⟨k, g⟩ := kg
      rw [h] at ih
      simp only
      by_cases hk : f x = k
      · rw [if_pos hk, List.flatMap_cons, List.cons_append]
        rw [List.flatMap_cons] at ih
        rw [ih]
      · rw [if_neg hk, List.flatMap_cons, ih]; rfl
/-- groups by a wide key of the groups by a narrow one are the narrow groups of the wide ones -/
theorem runs_wide {α : Type} (f g : α → Int) (F : Int → Int) (hF : ∀ x, F (f x) = g x) (l : List α) :
    runs (fun e : Int × List α => F e.1) (runs f l) = (runs g l).map fun e => (e.1, runs f e.2) := by
  induction l with
  | nil => rfl
  | cons x r ih =>
    rw [runs_cons f x r, runs_cons g x r]
    cases hf : runs f r with
    | nil =>
      have hr := (runs_nil_iff f r).1 hf
      subst hr
      have e : runs g ([] : List α) = [] := rfl
      rw [e]
      simp only [List.map_cons, List.map_nil]
      show runs (fun e : Int × List α => F e.1) [(f x, [x])] = [(g x, runs f [x])]
      simp [runs, hF]
    | cons kg t =>
      obtain ⟨k, h⟩ := kg
      rw [hf] at ih
      cases hg : runs g r with
      | nil =>
        have hr := (runs_nil_iff g r).1 hg
        subst hr
        cases hf
      | cons KG T =>
        obtain ⟨K, G⟩ := KG
        rw [hg] at ih
        rw [List.map_cons] at ih
        -- what is at the head of both
        obtain ⟨hne, hkey⟩ := runs_keys f r (k, h) (by rw [hf]; simp)
        obtain ⟨gne, gkey⟩ := runs_keys g r (K, G) (by rw [hg]; simp)
        have hrall := runs_all f r
        have grall := runs_all g r
        rw [hf, List.flatMap_cons] at hrall
        rw [hg, List.flatMap_cons] at grall
        obtain ⟨y, h', rfl⟩ : ∃ y h', h = y :: h' := by
          cases h with
          | nil => exact absurd rfl hne
          | cons y h' => exact ⟨y, h', rfl⟩
        obtain ⟨z, G', rfl⟩ : ∃ z G', G = z :: G' := by
          cases G with
          | nil => exact absurd rfl gne
          | cons z G' => exact ⟨z, G', rfl⟩
        have hyz : y = z := by
          have e1 : r = y :: (h' ++ t.flatMap Prod.snd) := by rw [← hrall]; rfl
          have e2 : r = z :: (G' ++ T.flatMap Prod.snd) := by rw [← grall]; rfl
          rw [e1] at e2
          injection e2
        subst hyz
        have hky : f y = k := hkey y (by simp)
        have hKy : g y = K := gkey y (by simp)
        have hFk : F k = K := by rw [← hky, hF, hKy]
        simp only
        by_cases hx : f x = k
        · have hgx : g x = K := by rw [← hF, hx, hFk]
          rw [if_pos hx, if_pos hgx, List.map_cons]
          rw [runs_cons] at ih ⊢
          -- the narrow groups of the wide one, with x ahead
          have e3 : runs f (x :: y :: G') = match runs f (y :: G') with
              | [] => [(f x, [x])]
              | (k, g) :: t => if f x = k then (k, x :: g) :: t else (f x, [x]) :: (k, g) :: t := rfl
          cases ht : runs (fun e : Int × List α => F e.1) t with
          | nil =>
            rw [ht] at ih
            simp only at ih ⊢
            injection ih with i1 i2
            injection i1 with i3 i4
            rw [e3, ← i4]
            simp only
            rw [if_pos hx, hFk, i2]
          | cons KE TE =>
            obtain ⟨KK, EE⟩ := KE
            rw [ht] at ih
            simp only at ih ⊢
            by_cases hkk : F k = KK
            · rw [if_pos hkk] at ih ⊢
              injection ih with i1 i2
              injection i1 with i3 i4
              rw [e3, ← i4]
              simp only
              rw [if_pos hx, i2, i3]
            · rw [if_neg hkk] at ih ⊢
              injection ih with i1 i2
              injection i1 with i3 i4
              rw [e3, ← i4]
              simp only
              rw [if_pos hx, i2, i3]
        · rw [if_neg hx]
          rw [runs_cons]
          have e4 : runs (fun e : Int × List α => F e.1) ((k, y :: h') :: t) = (K, runs f (y :: G')) :: T.map fun e => (e.1, runs f e.2) := ih
          rw [e4]
          simp only
          by_cases hgx : g x = K
          · rw [if_pos (by rw [hF]; exact hgx), if_pos hgx, List.map_cons]
            have hhead : ∃ h2 t2, runs f (y :: G') = (k, h2) :: t2 := by
              cases hc : runs f (y :: G') with
              | nil => exact absurd ((runs_nil_iff f _).1 hc) (by simp)
              | cons a b =>
                obtain ⟨k2, h2⟩ := a
                obtain ⟨n2, s2⟩ := runs_keys f (y :: G') (k2, h2) (by rw [hc]; simp)
                have a2 := runs_all f (y :: G')
                rw [hc, List.flatMap_cons] at a2
                cases h2 with
                | nil => exact absurd rfl n2
                | cons q h3 =>
                  have : q = y := by
                    have := congrArg List.head? a2
                    simpa using this
                  subst this
                  have hk2 : k2 = k := (s2 q (by simp)).symm.trans hky
                  exact ⟨_, _, by rw [hk2]⟩
            obtain ⟨h2, t2, e5⟩ := hhead
            have e6 : runs f (x :: y :: G') = (f x, [x]) :: runs f (y :: G') := by
              rw [runs_cons, e5]
              simp only
              rw [if_neg hx]
            rw [e6]
          · rw [if_neg (by rw [hF]; exact hgx), if_neg hgx, List.map_cons, List.map_cons, hF]
            rfl
/-! ### Where nothing saturates -/
def minF (m : Int) (g : List Pt) : Int := g.foldl (fun m p => if p.v < m then p.v else m) m
def maxF (m : Int) (g : List Pt) : Int := g.foldl (fun m p => if m < p.v then p.v else m) m
def sumF (g : List Pt) : Int := (g.map Pt.v).sum
theorem minF_min (m q : Int) (g : List Pt) : minF (if q < m then q else m) g = if minF q g < m then minF q g else m := by
  induction g generalizing m q with
  | nil => rfl
  | cons p r ih =>
    show minF (if p.v < (if q < m then q else m) then p.v else (if q < m then q else m)) r = if minF (if p.v < q then p.v else q) r < m then minF (if p.v < q then p.v else q) r else m
    rw [← ih m (if p.v < q then p.v else q)]
    congr 1
    (repeat' split) <;> omega
theorem maxF_max (m q : Int) (g : List Pt) : maxF (if m < q then q else m) g = if m < maxF q g then maxF q g else m := by
  induction g generalizing m q with
  | nil => rfl
  | cons p r ih =>
    show maxF (if (if m < q then q else m) < p.v then p.v else (if m < q then q else m)) r = if m < maxF (if q < p.v then p.v else q) r then maxF (if q < p.v then p.v else q) r else m
    rw [← ih m (if q < p.v then p.v else q)]
    congr 1
    (repeat' split) <;> omega
/-- values of at most so much -/
def SmallV (b : Int) (g : List Pt) : Prop := ∀ p ∈ g, -b ≤ p.v ∧ p.v ≤ b
theorem small_cons {b : Int} {p : Pt} {g : List Pt} : SmallV b (p :: g) ↔ (-b ≤ p.v ∧ p.v ≤ b) ∧ SmallV b g := by
  unfold SmallV; simp
theorem sum_small {b : Int} {g : List Pt} (h : SmallV b g) : -(b * g.length) ≤ sumF g ∧ sumF g ≤ b * g.length := by
  induction g with
  | nil => simp [sumF]
  | cons p r ih =>
    obtain ⟨h1, h2⟩ := small_cons.1 h
    obtain ⟨h3, h4⟩ := ih h2
    have e : sumF (p :: r) = p.v + sumF r := by simp [sumF]
    have e2 : b * ((p :: r).length : Nat) = b * (r.length : Nat) + b := by
      rw [List.length_cons, Int.natCast_add, Int.mul_add]; simp
    rw [e, e2]; omega
/-- more values, where nothing saturates -/
theorem step_fold {b : Int} (hb : 0 ≤ b) {a : Ag} {g : List Pt} (ha : 1 ≤ a.n) (h : SmallV b g) {N : Nat} (hs : -(b * N) ≤ a.s ∧ a.s ≤ b * N) (hN : b * (N + g.length : Nat) ≤ 9223372036854775807) :
    g.foldl (fun a p => stepA a p.v) a = ⟨a.at_, a.n + g.length, a.s + sumF g, minF a.lo g, maxF a.hi g⟩ := by
  induction g generalizing a N with
  | nil => simp [sumF, minF, maxF]
  | cons p r ih =>
    obtain ⟨h1, h2⟩ := small_cons.1 h
    have e1 : b * (N + (p :: r).length : Nat) = b * ((N + 1) + r.length : Nat) := by rw [List.length_cons]; congr 2; omega
    have e2 : b * ((N + 1 : Nat) : Int) = b * (N : Nat) + b := by rw [Int.natCast_add, Int.mul_add]; simp
    have e3 : b * ((N + 1 : Nat) : Int) ≤ b * ((N + 1) + r.length : Nat) := Int.mul_le_mul_of_nonneg_left (by omega) hb
    have hsat : sat (a.s + p.v) = a.s + p.v := sat_in (by omega) (by omega)
    have hst : stepA a p.v = ⟨a.at_, a.n + 1, a.s + p.v, if p.v < a.lo then p.v else a.lo, if a.hi < p.v then p.v else a.hi⟩ := by
      unfold stepA
      rw [if_neg (by omega), hsat]
    rw [List.foldl_cons, hst, ih (N := N + 1) (by simp only; omega) h2 (by simp only; omega) (by omega)]
    have e4 : sumF (p :: r) = p.v + sumF r := by simp [sumF]
    rw [e4]
    simp only [List.length_cons, Int.natCast_add]
    refine congr (congr (congr (congr (congrArg Ag.mk rfl) (by omega)) (by omega)) rfl) rfl
theorem ofA_is {b : Int} (hb : 0 ≤ b) {k : Int} {p : Pt} {r : List Pt} (h : SmallV b (p :: r)) (hN : b * ((p :: r).length : Nat) ≤ 9223372036854775807) :
    ofA k (p :: r) = ⟨k, (p :: r).length, sumF (p :: r), minF p.v r, maxF p.v r⟩ := by
  obtain ⟨h1, h2⟩ := small_cons.1 h
  unfold ofA
  have e : stepA (noAg k) p.v = ⟨k, 1, p.v, p.v, p.v⟩ := by unfold stepA noAg; rw [if_pos rfl]
  rw [List.foldl_cons, e, step_fold hb (N := 1) (by simp) h2 (by simp only; omega) (by rw [List.length_cons] at hN; rw [Nat.add_comm]; exact hN)]
  have e4 : sumF (p :: r) = p.v + sumF r := by simp [sumF]
  rw [e4]
  simp only [List.length_cons, Int.natCast_add]
  refine congr (congr (congr (congr (congrArg Ag.mk rfl) (by omega)) rfl) rfl) rfl
theorem sumF_append (g h : List Pt) : sumF (g ++ h) = sumF g + sumF h := by simp [sumF]
/-- aggregates joined are the aggregate of all -/
theorem join_parts {b : Int} (hb : 0 ≤ b) {L : List (Int × List Pt)} (hne : ∀ e ∈ L, e.2 ≠ []) (h : SmallV b (L.flatMap Prod.snd)) {a : Ag} (ha : 1 ≤ a.n) {N : Nat} (hs : -(b * N) ≤ a.s ∧ a.s ≤ b * N) (hn : a.n ≤ N) (hN : b * (N + (L.flatMap Prod.snd).length : Nat) ≤ 9223372036854775807) (hN2 : N + (L.flatMap Prod.snd).length ≤ 1000000) :
    (L.map fun e => ofA e.1 e.2).foldl joinStep (some a) = some ((L.flatMap Prod.snd).foldl (fun a p => stepA a p.v) a) := by
  induction L generalizing a N with
  | nil => rfl
  | cons e T ih =>
    obtain ⟨k, g⟩ := e
    rw [List.flatMap_cons] at h hN hN2 ⊢
    simp only at h hN hN2 ⊢
    obtain ⟨p, r, rfl⟩ : ∃ p r, g = p :: r := by
      cases g with
      | nil => exact absurd rfl (hne (k, []) (by simp))
      | cons p r => exact ⟨p, r, rfl⟩
    have hg : SmallV b (p :: r) := fun q hq => h q (List.mem_append_left _ hq)
    have ht : SmallV b (T.flatMap Prod.snd) := fun q hq => h q (List.mem_append_right _ hq)
    rw [List.length_append] at hN hN2
    have m1 : b * ((p :: r).length : Nat) ≤ b * (N + ((p :: r).length + (T.flatMap Prod.snd).length) : Nat) := Int.mul_le_mul_of_nonneg_left (by omega) hb
    have m2 : b * ((N + (p :: r).length : Nat) : Int) ≤ b * (N + ((p :: r).length + (T.flatMap Prod.snd).length) : Nat) := Int.mul_le_mul_of_nonneg_left (by omega) hb
    have m3 : b * ((N + (p :: r).length : Nat) : Int) = b * (N : Nat) + b * ((p :: r).length : Nat) := by rw [Int.natCast_add, Int.mul_add]
    have hsum := sum_small hg
    have e1 : (p :: r).foldl (fun a p => stepA a p.v) a = ⟨a.at_, a.n + (p :: r).length, a.s + sumF (p :: r), minF a.lo (p :: r), maxF a.hi (p :: r)⟩ := step_fold hb ha hg hs (by omega)
    have e2 : joinStep (some a) (ofA k (p :: r)) = some ((p :: r).foldl (fun a p => stepA a p.v) a) := by
      rw [ofA_is hb hg (by omega), e1]
      unfold joinStep
      rw [if_neg (by simp only [List.length_cons]; omega)]
      simp only
      unfold joinA2
      simp only
      rw [sat_in (x := a.n + ((p :: r).length : Nat)) (by omega) (by omega), sat_in (x := a.s + sumF (p :: r)) (by omega) (by omega)]
      have mm : minF a.lo (p :: r) = if minF p.v r < a.lo then minF p.v r else a.lo := minF_min a.lo p.v r
      have mx : maxF a.hi (p :: r) = if a.hi < maxF p.v r then maxF p.v r else a.hi := maxF_max a.hi p.v r
      rw [mm, mx]
    rw [List.map_cons, List.foldl_cons, e2, List.foldl_append]
    refine ih (fun e he => hne e (List.mem_cons_of_mem _ he)) ht (N := N + (p :: r).length) ?_ ?_ ?_ ?_ ?_
    · rw [e1]; simp only; omega
    · rw [e1]; simp only; omega
    · rw [e1]; simp only; omega
    · rw [Nat.add_assoc]; exact hN
    · omega
theorem join_runs {b : Int} (hb : 0 ≤ b) (f : Pt → Int) (k : Int) {g : List Pt} (hg : g ≠ []) (h : SmallV b g) (hN : b * (g.length : Nat) ≤ 9223372036854775807) (hN2 : g.length ≤ 1000000) :
    joinA k ((runs f g).map fun e => ofA e.1 e.2) = some (ofA k g) := by
  have hall := runs_all f g
  have hkeys := runs_keys f g
  cases hr : runs f g with
  | nil => exact absurd ((runs_nil_iff f g).1 hr) hg
  | cons e T =>
    obtain ⟨k0, g0⟩ := e
    rw [hr] at hall hkeys
    rw [List.flatMap_cons] at hall
    simp only at hall
    obtain ⟨p, r, rfl⟩ : ∃ p r, g0 = p :: r := by
      cases g0 with
      | nil => exact absurd rfl (hkeys (k0, []) (by simp)).1
      | cons p r => exact ⟨p, r, rfl⟩
    subst hall
    have hg0 : SmallV b (p :: r) := fun q hq => h q (List.mem_append_left _ hq)
    have ht : SmallV b (T.flatMap Prod.snd) := fun q hq => h q (List.mem_append_right _ hq)
    rw [List.length_append] at hN hN2
    have m1 : b * ((p :: r).length : Nat) ≤ b * ((p :: r).length + (T.flatMap Prod.snd).length : Nat) := Int.mul_le_mul_of_nonneg_left (by omega) hb
    have hsum := sum_small hg0
    have e1 := ofA_is hb (k := k0) hg0 (by omega)
    unfold joinA
    rw [List.map_cons, List.foldl_cons]
    have e2 : joinStep none (ofA k0 (p :: r)) = some (ofA k0 (p :: r)) := by
      rw [e1]; unfold joinStep; rw [if_neg (by simp only [List.length_cons]; omega)]
    rw [e2, join_parts hb (fun e he => (hkeys e (List.mem_cons_of_mem _ he)).1) ht (N := (p :: r).length) (by rw [e1]; simp only [List.length_cons]; omega) (by rw [e1]; exact hsum) (by rw [e1]; exact Int.le_refl _) hN hN2]
    simp only [Option.map_some]
    congr 1
    -- where it begins counts for nothing else
    have hat : ∀ (l : List Pt) (a : Ag), ({ l.foldl (fun a p => stepA a p.v) a with at_ := k } : Ag) = l.foldl (fun a p => stepA a p.v) { a with at_ := k } := fun l => by
      induction l with
      | nil => intro a; rfl
      | cons q l ih =>
        intro a
        rw [List.foldl_cons, List.foldl_cons, ih]
        congr 1
        unfold stepA
        by_cases h0 : a.n = 0
        · rw [if_pos h0, if_pos h0]
        · rw [if_neg h0, if_neg h0]
    rw [hat]
    unfold ofA
    rw [hat, ← List.foldl_append]
    rfl
/-- WIDE WINDOWS BY NARROW ONES -/
theorem wide_narrow {b : Int} (hb : 0 ≤ b) (f g : Pt → Int) (F : Int → Int) (hF : ∀ x, F (f x) = g x) {l : List Pt} (h : SmallV b l) (hN : b * (l.length : Nat) ≤ 9223372036854775807) (hN2 : l.length ≤ 1000000) :
    (runs (fun a : Ag => F a.at_) ((runs f l).map fun e => ofA e.1 e.2)).map (fun e => joinA e.1 e.2) = (runs g l).map fun e => some (ofA e.1 e.2) := by
  have hat : ∀ (k : Int) (q : List Pt), (ofA k q).at_ = k := fun k q => by
    unfold ofA
    have : ∀ (l : List Pt) (a : Ag), (l.foldl (fun a p => stepA a p.v) a).at_ = a.at_ := fun l => by
      induction l with
      | nil => intro a; rfl
      | cons p l ih =>
        intro a
        rw [List.foldl_cons, ih]
        unfold stepA
        by_cases h0 : a.n = 0
        · rw [if_pos h0]
        · rw [if_neg h0]
    rw [this]; rfl
  -- groups of the mapped list are the mapped groups
  have hmap : ∀ (L : List (Int × List Pt)), runs (fun a : Ag => F a.at_) (L.map fun e => ofA e.1 e.2) = (runs (fun e : Int × List Pt => F e.1) L).map fun E => (E.1, E.2.map fun e => ofA e.1 e.2) := fun L => by
    induction L with
    | nil => rfl
    | cons e T ih =>
      rw [List.map_cons, runs_cons, runs_cons, ih]
      cases runs (fun e : Int × List Pt => F e.1) T with
      | nil => simp [hat]
      | cons KG TT =>
        obtain ⟨K, G⟩ := KG
        simp only [List.map_cons, hat]
        by_cases hk : F e.1 = K
        · rw [if_pos hk, if_pos hk]; simp
        · rw [if_neg hk, if_neg hk]; simp
  rw [hmap, runs_wide f g F hF l, List.map_map, List.map_map]
  refine List.map_congr_left fun e he => ?_
  obtain ⟨hne, _⟩ := runs_keys g l e he
  have hsub : ∀ q ∈ e.2, q ∈ l := fun q hq => by
    rw [← runs_all g l]; exact List.mem_flatMap.2 ⟨e, he, hq⟩
  have hlen : e.2.length ≤ l.length := by
    have h1 : ∀ (L : List (Int × List Pt)), e ∈ L → e.2.length ≤ (L.flatMap Prod.snd).length := fun L hL => by
      induction L with
      | nil => simp at hL
      | cons x T ih =>
        rw [List.flatMap_cons, List.length_append]
        rcases List.mem_cons.1 hL with rfl | hL
        · omega
        · have := ih hL; omega
    have := h1 _ he
    rwa [runs_all] at this
  have m1 : b * (e.2.length : Nat) ≤ b * (l.length : Nat) := Int.mul_le_mul_of_nonneg_left (by omega) hb
  exact join_runs hb f e.1 hne (fun q hq => h q (hsub q hq)) (by omega) (by omega)
/-! ### The mean -/
theorem minF_le (m : Int) (g : List Pt) : minF m g ≤ m ∧ ∀ p ∈ g, minF m g ≤ p.v := by
  induction g generalizing m with
  | nil => exact ⟨Int.le_refl _, fun p hp => by simp at hp⟩
  | cons q r ih =>
    obtain ⟨h1, h2⟩ := ih (if q.v < m then q.v else m)
    have e : minF m (q :: r) = minF (if q.v < m then q.v else m) r := rfl
    rw [e]
    have h3 : (if q.v < m then q.v else m) ≤ m ∧ (if q.v < m then q.v else m) ≤ q.v := by split <;> omega
    refine ⟨by omega, fun p hp => ?_⟩
    rcases List.mem_cons.1 hp with rfl | hp
    · omega
    · exact h2 p hp
theorem maxF_ge (m : Int) (g : List Pt) : m ≤ maxF m g ∧ ∀ p ∈ g, p.v ≤ maxF m g := by
  induction g generalizing m with
  | nil => exact ⟨Int.le_refl _, fun p hp => by simp at hp⟩
  | cons q r ih =>
    obtain ⟨h1, h2⟩ := ih (if m < q.v then q.v else m)
    have e : maxF m (q :: r) = maxF (if m < q.v then q.v else m) r := rfl
    rw [e]
    have h3 : m ≤ (if m < q.v then q.v else m) ∧ q.v ≤ (if m < q.v then q.v else m) := by split <;> omega
    refine ⟨by omega, fun p hp => ?_⟩
    rcases List.mem_cons.1 hp with rfl | hp
    · omega
    · exact h2 p hp
theorem sum_between {c d : Int} {g : List Pt} (h : ∀ p ∈ g, c ≤ p.v ∧ p.v ≤ d) : c * g.length ≤ sumF g ∧ sumF g ≤ d * g.length := by
  induction g with
  | nil => simp [sumF]
  | cons p r ih =>
    obtain ⟨h3, h4⟩ := ih fun q hq => h q (List.mem_cons_of_mem _ hq)
    have h1 := h p (by simp)
    have e : sumF (p :: r) = p.v + sumF r := by simp [sumF]
    have e2 : ∀ b : Int, b * ((p :: r).length : Nat) = b * (r.length : Nat) + b := fun b => by
      rw [List.length_cons, Int.natCast_add, Int.mul_add]; simp
    rw [e, e2, e2]; omega
/-- the mean lies between the least and the greatest value -/
theorem mean_between {p : Pt} {r : List Pt} : minF p.v r ≤ sumF (p :: r) / ((p :: r).length : Nat) ∧ sumF (p :: r) / ((p :: r).length : Nat) ≤ maxF p.v r := by
  have h1 := minF_le p.v r
  have h2 := maxF_ge p.v r
  have hb := sum_between (c := minF p.v r) (d := maxF p.v r) (g := p :: r) fun q hq => by
    rcases List.mem_cons.1 hq with rfl | hq
    · exact ⟨h1.1, h2.1⟩
    · exact ⟨h1.2 q hq, h2.2 q hq⟩
  have hn : (0 : Int) < ((p :: r).length : Nat) := by rw [List.length_cons]; omega
  constructor
  · exact (Int.le_ediv_iff_mul_le hn).2 hb.1
  · have h3 : sumF (p :: r) / ((p :: r).length : Nat) < maxF p.v r + 1 := (Int.ediv_lt_iff_lt_mul hn).2 (by rw [Int.add_mul]; omega)
    omega
/-- how the law tells it -/
theorem mean_tells {s n : Int} (hn : 0 < n) : s / n * n ≤ s ∧ s < (s / n + 1) * n := by
  have h1 := Int.emod_add_mul_ediv s n
  have h2 := Int.emod_nonneg s (show n ≠ 0 by omega)
  have h3 := Int.emod_lt_of_pos s hn
  rw [Int.add_mul, Int.mul_comm (s / n) n]
  constructor <;> omega
end Go.Proofs.YthbdchleppbidaaGreat
/- Windows and ranges, plainly. -/
namespace Go.Proofs.YthbdchleppbidaaGreat
open Go.RowKit

/-- how many ticks a window of a tier has -/
def widthW (t : Int) : Int := if t = 0 then 1 else if t = 1 then 300 else if t = 2 then 3600 else 0
/-- has a tick a window of a tier? -/
def hasW (t a : Int) : Bool := decide (0 < widthW t) && decide (0 ≤ a)
/-- where it begins -/
def startW (t a : Int) : Int := if hasW t a = true then a - a % widthW t else 0
/-- where it ends -/
def endW (t a : Int) : Int := if hasW t a = true then startW t a + min (widthW t) (9223372036854775807 - startW t a) else 0
def closedW (t a n : Int) : Bool := hasW t a && decide (startW t a < startW t n)
theorem width_four (t : Int) : (t = 0 ∧ widthW t = 1) ∨ (t = 1 ∧ widthW t = 300) ∨ (t = 2 ∧ widthW t = 3600) ∨ (t ≠ 0 ∧ t ≠ 1 ∧ t ≠ 2 ∧ widthW t = 0) := by
  unfold widthW
  by_cases h0 : t = 0
  · exact .inl ⟨h0, by rw [if_pos h0]⟩
  by_cases h1 : t = 1
  · exact .inr (.inl ⟨h1, by rw [if_neg h0, if_pos h1]⟩)
  by_cases h2 : t = 2
  · exact .inr (.inr (.inl ⟨h2, by rw [if_neg h0, if_neg h1, if_pos h2]⟩))
  · exact .inr (.inr (.inr ⟨h0, h1, h2, by rw [if_neg h0, if_neg h1, if_neg h2]⟩))
theorem width_range (t : Int) : 0 ≤ widthW t ∧ widthW t ≤ 3600 := by rcases width_four t with h | h | h | h <;> omega
theorem has_iff {t a : Int} : hasW t a = true ↔ 0 < widthW t ∧ 0 ≤ a := by unfold hasW; simp
theorem start_at {t a : Int} (h : 0 ≤ a) : startW t a = if widthW t = 0 then 0 else a - a % widthW t := by
  unfold startW hasW
  have := width_range t
  by_cases h0 : widthW t = 0
  · rw [if_neg (by simp [h0]), if_pos h0]
  · rw [if_pos (by simp; omega), if_neg h0]
theorem start_range (t : Int) {a : Int} (h : a ≤ 9223372036854775807) : 0 ≤ startW t a ∧ startW t a ≤ 9223372036854775807 := by
  by_cases ha : 0 ≤ a
  · rw [start_at ha]
    rcases width_four t with ⟨_, e⟩ | ⟨_, e⟩ | ⟨_, e⟩ | ⟨_, _, _, e⟩ <;> rw [e]
    · rw [if_neg (by decide)]; omega
    · rw [if_neg (by decide)]; omega
    · rw [if_neg (by decide)]; omega
    · rw [if_pos rfl]; omega
  · unfold startW hasW
    rw [if_neg (by simp; omega)]; omega

/-- the cells of a range -/
def rg (a b : Int) : Value := .agg #[.int .i64 a, .int .i64 b]
def rightR (a b : Int) : Bool := decide (0 ≤ a) && decide (a < b) && decide (b ≤ 1099511627777)
def inR (a b x : Int) : Bool := decide (a ≤ x) && decide (x < b)
def meetsR (a b c d : Int) : Bool := decide (max a c < min b d)
/-- what is cut of a range -/
def partR (a b : Int) : List (Int × Int) := if a < b then [(a, b)] else []
def cutR (a b c d : Int) : List (Int × Int) := if meetsR a b c d = true then partR a c ++ partR d b else partR a b
def cellsR (l : List (Int × Int)) : List Value := l.flatMap fun p => [.int .i64 p.1, .int .i64 p.2]
end Go.Proofs.YthbdchleppbidaaGreat
/- A series, plainly: where a tick stands among rising points, and what is put, got and cut by places. -/
namespace Go.Proofs.YthbdchleppbidaaGreat

/-- how many points are ahead of a tick -/
def cntP : List Pt → Int → Nat
  | [], _ => 0
  | p :: r, x => if p.a < x then cntP r x + 1 else 0
theorem cnt_cons (p : Pt) (r : List Pt) (x : Int) : cntP (p :: r) x = if p.a < x then cntP r x + 1 else 0 := rfl
/-- is there a point of that tick? -/
def hasP (l : List Pt) (x : Int) : Bool := (atP l x).isSome
theorem cnt_le (l : List Pt) (x : Int) : cntP l x ≤ l.length := by
  induction l with
  | nil => exact Nat.le_refl _
  | cons p r ih => unfold cntP; split <;> simp <;> omega
theorem cnt_below {l : List Pt} {x : Int} {i : Nat} {q : Pt} (hi : i < cntP l x) (hq : l[i]? = some q) : q.a < x := by
  induction l generalizing i with
  | nil => simp at hq
  | cons p r ih =>
    unfold cntP at hi
    by_cases h : p.a < x
    · rw [if_pos h] at hi
      cases i with
      | zero => obtain rfl : p = q := by simpa using hq
                exact h
      | succ i => exact ih (i := i) (by omega) (by simpa using hq)
    · rw [if_neg h] at hi; omega
theorem cnt_above {l : List Pt} (hs : Srt l) {x : Int} {i : Nat} {q : Pt} (hi : cntP l x ≤ i) (hq : l[i]? = some q) : x ≤ q.a := by
  induction l generalizing i with
  | nil => simp at hq
  | cons p r ih =>
    obtain ⟨h1, h2⟩ := srt_cons.1 hs
    unfold cntP at hi
    by_cases h : p.a < x
    · rw [if_pos h] at hi
      cases i with
      | zero => omega
      | succ i => exact ih (i := i) h2 (by omega) (by simpa using hq)
    · cases i with
      | zero => obtain rfl : p = q := by simpa using hq
                omega
      | succ i => have := h1 q (List.mem_of_getElem? (by simpa using hq)); omega
/-- a place with just the lesser ticks ahead is the one -/
theorem cnt_is {l : List Pt} (hs : Srt l) {x : Int} {k : Nat} (hk : k ≤ l.length) (h1 : ∀ i q, i < k → l[i]? = some q → q.a < x) (h2 : ∀ i q, k ≤ i → l[i]? = some q → x ≤ q.a) : cntP l x = k := by
  have hc := cnt_le l x
  rcases Nat.lt_trichotomy (cntP l x) k with h | h | h
  · have hq : l[cntP l x]? = some (l[cntP l x]'(by omega)) := List.getElem?_eq_getElem (by omega)
    have a := h1 _ _ h hq
    have b := cnt_above hs (Nat.le_refl _) hq
    omega
  · exact h
  · have hq : l[k]? = some (l[k]'(by omega)) := List.getElem?_eq_getElem (by omega)
    have a := cnt_below h hq
    have b := h2 _ _ (Nat.le_refl _) hq
    omega
theorem has_at {l : List Pt} (hs : Srt l) (x : Int) : hasP l x = true ↔ ∃ q, l[cntP l x]? = some q ∧ q.a = x := by
  unfold hasP
  constructor
  · intro h
    obtain ⟨v, hv⟩ := Option.isSome_iff_exists.1 h
    obtain ⟨i, hi⟩ := List.mem_iff_getElem?.1 ((atP_mem hs).1 hv)
    rcases Nat.lt_trichotomy i (cntP l x) with h1 | h1 | h1
    · have := cnt_below h1 hi; simp at this
    · subst h1; exact ⟨_, hi, rfl⟩
    · have hlt := (List.getElem?_eq_some_iff.1 hi).1
      have hq : l[cntP l x]? = some (l[cntP l x]'(by omega)) := List.getElem?_eq_getElem (by omega)
      have a := cnt_above hs (Nat.le_refl _) hq
      have b := List.pairwise_iff_getElem.1 hs (cntP l x) i (by omega) hlt h1
      rw [(List.getElem?_eq_some_iff.1 hi).2] at b
      simp only at b; omega
  · rintro ⟨q, hq, rfl⟩
    rw [(atP_mem hs).2 (show (⟨q.a, q.v⟩ : Pt) ∈ l from List.mem_of_getElem? hq)]; rfl
theorem has_not {l : List Pt} (hs : Srt l) (x : Int) : hasP l x = false ↔ ∀ q, l[cntP l x]? = some q → q.a ≠ x := by
  constructor
  · intro h q hq e
    have := (has_at hs x).2 ⟨q, hq, e⟩
    rw [h] at this; cases this
  · intro h
    cases e : hasP l x with
    | false => rfl
    | true => obtain ⟨q, hq, e⟩ := (has_at hs x).1 e; exact absurd e (h q hq)
/-- a point put that is of a new tick -/
theorem put_new {l : List Pt} (hs : Srt l) (p : Pt) (h : hasP l p.a = false) : putP l p = l.take (cntP l p.a) ++ p :: l.drop (cntP l p.a) := by
  induction l with
  | nil => rfl
  | cons q r ih =>
    obtain ⟨h1, h2⟩ := srt_cons.1 hs
    unfold putP cntP
    by_cases hq : p.a < q.a
    · rw [if_pos hq, if_neg (show ¬ q.a < p.a by omega)]; rfl
    · rw [if_neg hq]
      by_cases hk : q.a < p.a
      · rw [if_pos hk, if_pos hk]
        have hr : hasP r p.a = false := by
          rw [← h]; unfold hasP
          rw [show atP (q :: r) p.a = if q.a = p.a then some q.v else atP r p.a from rfl, if_neg (by omega)]
        rw [ih h2 hr]; rfl
      · exfalso
        have : hasP (q :: r) p.a = true := by
          unfold hasP
          rw [show atP (q :: r) p.a = if q.a = p.a then some q.v else atP r p.a from rfl, if_pos (by omega)]; rfl
        rw [h] at this; cases this
/-- a point put over one of its tick -/
theorem put_old {l : List Pt} (hs : Srt l) (p : Pt) (h : hasP l p.a = true) : putP l p = l.set (cntP l p.a) p := by
  induction l with
  | nil => cases h
  | cons q r ih =>
    obtain ⟨h1, h2⟩ := srt_cons.1 hs
    unfold putP cntP
    by_cases hq : p.a < q.a
    · exfalso
      have : hasP (q :: r) p.a = false := by
        unfold hasP
        rw [atP_none (fun t ht => by
          rcases List.mem_cons.1 ht with rfl | ht
          · omega
          · have := h1 t ht; omega)]; rfl
      rw [h] at this; cases this
    · rw [if_neg hq]
      by_cases hk : q.a < p.a
      · rw [if_pos hk, if_pos hk]
        have hr : hasP r p.a = true := by
          rw [← h]; unfold hasP
          rw [show atP (q :: r) p.a = if q.a = p.a then some q.v else atP r p.a from rfl, if_neg (by omega)]
        rw [ih h2 hr]; rfl
      · rw [if_neg hk, if_neg hk]; rfl
theorem cnt_mono {l : List Pt} {a b : Int} (h : a ≤ b) : cntP l a ≤ cntP l b := by
  induction l with
  | nil => exact Nat.le_refl _
  | cons p r ih =>
    unfold cntP
    by_cases h1 : p.a < a
    · rw [if_pos h1, if_pos (show p.a < b by omega)]; omega
    · rw [if_neg h1]; omega
/-- where a range's points end -/
def endP (l : List Pt) (a b : Int) : Nat := max (cntP l a) (cntP l b)
theorem end_ge (l : List Pt) (a b : Int) : cntP l a ≤ endP l a b := Nat.le_max_left _ _
theorem end_le (l : List Pt) (a b : Int) : endP l a b ≤ l.length := Nat.max_le.2 ⟨cnt_le l a, cnt_le l b⟩
theorem end_cons (p : Pt) (r : List Pt) (a b : Int) : endP (p :: r) a b = if p.a < a then (if p.a < b then endP r a b + 1 else cntP r a + 1) else if p.a < b then cntP r b + 1 else 0 := by
  unfold endP
  rw [cnt_cons, cnt_cons]
  by_cases h1 : p.a < a
  · rw [if_pos h1, if_pos h1]
    by_cases h2 : p.a < b
    · rw [if_pos h2, if_pos h2]; omega
    · rw [if_neg h2, if_neg h2]; omega
  · rw [if_neg h1, if_neg h1]
    by_cases h2 : p.a < b
    · rw [if_pos h2]; omega
    · rw [if_neg h2]; rfl
theorem cnt_zero {r : List Pt} {x : Int} (h : ∀ q ∈ r, x ≤ q.a) : cntP r x = 0 := by
  cases r with
  | nil => rfl
  | cons q r => unfold cntP; rw [if_neg (by have := h q (by simp); omega)]
theorem get_all_of {r : List Pt} {x y b : Int} (hx : ∀ q ∈ r, x ≤ q.a ∧ y ≤ q.a) : (r.filter fun p => decide (x ≤ p.a) && decide (p.a < b)) = r.filter fun p => decide (y ≤ p.a) && decide (p.a < b) :=
  List.filter_congr fun q hq => by have := hx q hq; simp [this.1, this.2]
theorem take_cnt {r : List Pt} (hs : Srt r) {x b : Int} (hx : ∀ q ∈ r, x ≤ q.a) : (r.filter fun p => decide (x ≤ p.a) && decide (p.a < b)) = r.take (cntP r b) := by
  induction r with
  | nil => rfl
  | cons p r ih =>
    obtain ⟨h1, h2⟩ := srt_cons.1 hs
    have hp := hx p (by simp)
    unfold cntP
    by_cases hb : p.a < b
    · rw [if_pos hb, List.filter_cons_of_pos (by simp [hp, hb]), ih h2 (fun q hq => hx q (List.mem_cons_of_mem _ hq))]; rfl
    · rw [if_neg hb, List.take_zero]
      exact List.filter_eq_nil_iff.2 fun q hq => by
        rcases List.mem_cons.1 hq with rfl | hq
        · simp [hb]
        · have := h1 q hq; simp; omega
theorem drop_cnt {r : List Pt} (hs : Srt r) {x b : Int} (hx : ∀ q ∈ r, x ≤ q.a) : (r.filter fun p => !(decide (x ≤ p.a) && decide (p.a < b))) = r.drop (cntP r b) := by
  induction r with
  | nil => rfl
  | cons p r ih =>
    obtain ⟨h1, h2⟩ := srt_cons.1 hs
    have hp := hx p (by simp)
    unfold cntP
    by_cases hb : p.a < b
    · rw [if_pos hb, List.filter_cons_of_neg (by simp [hp, hb]), ih h2 (fun q hq => hx q (List.mem_cons_of_mem _ hq))]; rfl
    · rw [if_neg hb, List.drop_zero]
      exact List.filter_eq_self.2 fun q hq => by
        rcases List.mem_cons.1 hq with rfl | hq
        · simp [hb]
        · have := h1 q hq; simp; omega
/-- those in a range, by their places -/
theorem get_span {l : List Pt} (hs : Srt l) (a b : Int) : getL l a b = (l.drop (cntP l a)).take (endP l a b - cntP l a) := by
  unfold getL
  induction l with
  | nil => rfl
  | cons p r ih =>
    obtain ⟨h1, h2⟩ := srt_cons.1 hs
    have hi := ih h2
    rw [end_cons, cnt_cons]
    by_cases ha : p.a < a
    · rw [if_pos ha, if_pos ha, List.filter_cons_of_neg (by simp; omega)]
      by_cases hb : p.a < b
      · rw [if_pos hb, hi, show endP r a b + 1 - (cntP r a + 1) = endP r a b - cntP r a by omega]; rfl
      · have e : endP r a b = cntP r a := by
          have : cntP r b = 0 := cnt_zero fun q hq => by have := h1 q hq; omega
          unfold endP; omega
        rw [if_neg hb, hi, e, Nat.sub_self, Nat.sub_self]; rfl
    · rw [if_neg ha, if_neg ha]
      have hx : ∀ q ∈ p :: r, a ≤ q.a := fun q hq => by
        rcases List.mem_cons.1 hq with rfl | hq
        · omega
        · have := h1 q hq; omega
      rw [take_cnt hs hx, List.drop_zero, Nat.sub_zero]
      rw [cnt_cons]
/-- those that stay, by their places -/
theorem cut_span {l : List Pt} (hs : Srt l) (a b : Int) : cutL l a b = l.take (cntP l a) ++ l.drop (endP l a b) := by
  unfold cutL
  induction l with
  | nil => rfl
  | cons p r ih =>
    obtain ⟨h1, h2⟩ := srt_cons.1 hs
    have hi := ih h2
    rw [end_cons, cnt_cons]
    by_cases ha : p.a < a
    · rw [if_pos ha, if_pos ha, List.filter_cons_of_pos (by simp; omega)]
      by_cases hb : p.a < b
      · rw [if_pos hb, hi]; rfl
      · have e : endP r a b = cntP r a := by
          have : cntP r b = 0 := cnt_zero fun q hq => by have := h1 q hq; omega
          unfold endP; omega
        rw [if_neg hb, hi, e]; rfl
    · rw [if_neg ha, if_neg ha]
      have hx : ∀ q ∈ p :: r, a ≤ q.a := fun q hq => by
        rcases List.mem_cons.1 hq with rfl | hq
        · omega
        · have := h1 q hq; omega
      rw [drop_cnt hs hx, List.take_zero, List.nil_append]
      rw [cnt_cons]
theorem span_len {l : List Pt} (hs : Srt l) (a b : Int) : (getL l a b).length = endP l a b - cntP l a := by
  rw [get_span hs, List.length_take, List.length_drop]
  have := end_le l a b
  omega
end Go.Proofs.YthbdchleppbidaaGreat
