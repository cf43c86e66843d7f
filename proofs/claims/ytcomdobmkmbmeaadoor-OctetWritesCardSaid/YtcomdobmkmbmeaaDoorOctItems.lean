/- OctetWrites: items, their bytes, their cells; plain facts; a slice of items that came in, opened. -/
import Derived.Test.YtcomdobmkmbmeaaDoorOctOrd
import Derived.OpenShut
import Derived.Deep.Slices
import Derived.Deep.Strs
import Derived.Lib.SmallJoins
namespace Go.Proofs.YtcomdobmkmbmeaaDoor
open Go.RowKit Go.Deep Go.ChangeShapes Go.WideShapes

/-- an item: its kind, a number and a width, a text -/
structure Ot where
  k : Nat
  x : Nat
  n : Int
  s : ByteArray
def Ot.cells (t : Ot) : List Value := [.int .u8 (t.k : Int), .int .u64 (t.x : Int), .int .i64 t.n, .string t.s]
instance wideDec (n : Int) : Decidable (Wide n) := by unfold Wide; infer_instance
def Ot.good (t : Ot) : Bool := decide (t.k % 4 = 0 → Wide t.n ∧ wid t.x ≤ 8 * t.n.toNat)
def Ot.bytes (t : Ot) : List Nat := if t.k % 4 = 0 then numB t.x t.n.toNat else if t.k % 4 = 1 then numB t.x 8 else if t.k % 4 = 2 then numB t.s.size 2 ++ ordsOf t.s else ordsOf t.s
def keptO (l : List Ot) : List Ot := l.filter Ot.good
def allB (l : List Ot) : List Nat := (keptO l).flatMap Ot.bytes
def allC (l : List Ot) : List Value := (keptO l).flatMap Ot.cells

theorem takeO {l : List Ot} {k : Nat} {t : Ot} (h : l[k]? = some t) : l.take (k + 1) = l.take k ++ [t] := by
  obtain ⟨hk, e⟩ := List.getElem?_eq_some_iff.1 h
  rw [List.take_succ_eq_append_getElem hk, e]
theorem keptO_bad {l : List Ot} {k : Nat} {t : Ot} (h : l[k]? = some t) (hg : t.good = false) : keptO (l.take (k + 1)) = keptO (l.take k) := by
  rw [takeO h]; simp [keptO, hg]
theorem keptO_good {l : List Ot} {k : Nat} {t : Ot} (h : l[k]? = some t) (hg : t.good = true) : keptO (l.take (k + 1)) = keptO (l.take k) ++ [t] := by
  rw [takeO h]; simp [keptO, hg]
theorem keptO_le (l : List Ot) : (keptO l).length ≤ l.length := List.length_filter_le _ _
theorem allB_le (l : List Ot) (hs : ∀ t ∈ l, t.s.size ≤ 200) : (allB l).length ≤ 202 * l.length := by
  unfold allB keptO
  induction l with
  | nil => simp
  | cons t r ih =>
    have ih := ih (fun u hu => hs u (List.mem_cons_of_mem _ hu))
    have ht := hs t (by simp)
    rw [List.filter_cons]
    split
    · rename_i hg
      have hb : t.bytes.length ≤ 202 := by
        unfold Ot.bytes
        split
        · rename_i h0
          have h1 : Wide t.n := by simp only [Ot.good, decide_eq_true_eq] at hg; exact (hg h0).1
          rw [numB_length]; unfold Wide at h1; omega
        · split
          · rw [numB_length]; omega
          · split
            · rw [List.length_append, numB_length, ordsOf_length]; omega
            · rw [ordsOf_length]; omega
      simp only [List.flatMap_cons, List.length_append, List.length_cons]; omega
    · simp only [List.length_cons]; omega
theorem bytes_good {l : List Ot} {k : Nat} {t : Ot} (h : l[k]? = some t) (hg : t.good = true) : allB (l.take (k + 1)) = allB (l.take k) ++ t.bytes := by
  unfold allB; rw [keptO_good h hg, List.flatMap_append]; simp
theorem cells_good {l : List Ot} {k : Nat} {t : Ot} (h : l[k]? = some t) (hg : t.good = true) : allC (l.take (k + 1)) = allC (l.take k) ++ t.cells := by
  unfold allC; rw [keptO_good h hg, List.flatMap_append]; simp
theorem takeO_bounds {l : List Ot} {k : Nat} (hl : l.length ≤ 40) (hs : ∀ t ∈ l.take k, t.s.size ≤ 200) : (allB (l.take k)).length ≤ 8080 ∧ (keptO (l.take k)).length ≤ 40 := by
  have h1 := allB_le (l.take k) hs
  have h2 := keptO_le (l.take k)
  have h3 : (l.take k).length ≤ 40 := by rw [List.length_take]; omega
  omega
theorem keptO_mem {l : List Ot} {t : Ot} (h : t ∈ keptO l) : t ∈ l ∧ t.good = true := by simpa [keptO] using h
theorem allB_small (l : List Ot) : ∀ b ∈ allB l, b < 256 := by
  intro b hb
  obtain ⟨t, _, hb⟩ := List.mem_flatMap.1 hb
  unfold Ot.bytes at hb
  split at hb
  · exact numB_small _ _ b hb
  · split at hb
    · exact numB_small _ _ b hb
    · split at hb
      · rcases List.mem_append.1 hb with hb | hb
        · exact numB_small _ _ b hb
        · exact ordsOf_lt _ b hb
      · exact ordsOf_lt _ b hb
theorem flatO_split {K : List Ot} {j : Nat} {t : Ot} (h : K[j]? = some t) : ∃ post, K.flatMap Ot.bytes = (K.take j).flatMap Ot.bytes ++ (t.bytes ++ post) ∧ (K.take (j + 1)).flatMap Ot.bytes = (K.take j).flatMap Ot.bytes ++ t.bytes := by
  obtain ⟨hk, e⟩ := List.getElem?_eq_some_iff.1 h
  have h2 : (K.take (j + 1)).flatMap Ot.bytes = (K.take j).flatMap Ot.bytes ++ t.bytes := by rw [takeO h, List.flatMap_append]; simp
  refine ⟨(K.drop (j + 1)).flatMap Ot.bytes, ?_, h2⟩
  rw [← List.append_assoc, ← h2, ← List.flatMap_append, List.take_append_drop]
theorem flatC_get {K : List Ot} {j : Nat} {t : Ot} (h : K[j]? = some t) (i : Nat) (hi : i < 4) : (K.flatMap Ot.cells)[j * 4 + i]? = t.cells[i]? := by
  induction K generalizing j with
  | nil => simp at h
  | cons a r ih =>
    cases j with
    | zero =>
      obtain rfl : a = t := by simpa using h
      rw [List.flatMap_cons, List.getElem?_append_left (by simp [Ot.cells]; omega), Nat.zero_mul, Nat.zero_add]
    | succ j =>
      have h' : r[j]? = some t := by simpa using h
      rw [List.flatMap_cons, List.getElem?_append_right (by simp [Ot.cells]; omega), ← ih h']
      congr 1
      simp [Ot.cells]; omega

/-- the slice of items, as it lies -/
def OtsAt (w : World) (b off : Nat) (l : List Ot) : Prop := ∀ i t, l[i]? = some t → ∀ j u, t.cells[j]? = some u → w.cell? ⟨b, off + i * 4 + j, none⟩ = some u
theorem OtsAt.four {w : World} {b off : Nat} {l : List Ot} (h : OtsAt w b off l) {i : Nat} {t : Ot} (ht : l[i]? = some t) :
    w.cell? ⟨b, off + i * 4, none⟩ = some (.int .u8 (t.k : Int)) ∧ w.cell? ⟨b, off + i * 4 + 1, none⟩ = some (.int .u64 (t.x : Int)) ∧ w.cell? ⟨b, off + i * 4 + 2, none⟩ = some (.int .i64 t.n) ∧ w.cell? ⟨b, off + i * 4 + 3, none⟩ = some (.string t.s) :=
  ⟨h i t ht 0 _ rfl, h i t ht 1 _ rfl, h i t ht 2 _ rfl, h i t ht 3 _ rfl⟩
theorem OtsAt.below {B : Nat} {w w' : World} {b off : Nat} {l : List Ot} (h : OtsAt w b off l) (hb : Below B w w') (hB : b < B) : OtsAt w' b off l := fun i t ht j u hu => by
  rw [← h i t ht j u hu]; exact hb.cell (p := ⟨b, _, none⟩) hB

theorem cellsOt : Tryd.prog.cellsOf 30 = 4 := by kernel_rfl
theorem cellsU8 : Tryd.prog.cellsOf 5 = 1 := by kernel_rfl
theorem cellsU64 : Tryd.prog.cellsOf 28 = 1 := by kernel_rfl
theorem cellsInt : Tryd.prog.cellsOf 3 = 1 := by kernel_rfl
theorem cellsStr : Tryd.prog.cellsOf 9 = 1 := by kernel_rfl

/-- what an item of that type may be -/
def Ot.fits (t : Ot) : Prop := t.k < 256 ∧ t.x < 18446744073709551616 ∧ -9223372036854775808 ≤ t.n ∧ t.n ≤ 9223372036854775807 ∧ t.s.size ≤ maxLen

theorem list4 {α : Type} {l : List α} (h : l.length = 4) : ∃ a b c d, l = [a, b, c, d] := by
  match l, h with
  | [a, b, c, d], _ => exact ⟨a, b, c, d, rfl⟩
theorem open_ots {H : Type} {enc : TypeId × Value → H} {W : World} {spare : Nat → Bool} {held : Bool} {v : Value} {d : DataW H} {ps : List MemPlace} {r : Reach} {b0 : Nat} (hval : Value.okWide Tryd.prog W r b0 22 v)
    (hd : DataW.Trod enc Tryd.prog W 0 spare held 22 v d ps) :
    ∃ a b off cap, ∃ l : List Ot, v = .slice a l.length cap ∧ l.length ≤ maxLen ∧ (l ≠ [] → a = some ⟨b, off, none⟩ ∧ b < W.heap.size) ∧ OtsAt W b off l ∧ (∀ t ∈ l, t.fits) ∧ (l = [] → b = 0) := by
  obtain ⟨a, len, cap, rfl⟩ := okWide_slice Tryd.underlying22 hval
  obtain ⟨fuel, hf⟩ := hd
  rcases open_slice Tryd.underlying22 hf with ⟨hcs, _⟩ | ⟨ad, len', cap', m, n, D, Pl, hcs, _, hl, hm, hmm, _, hel⟩
  · simp [Value.cells] at hcs
    obtain ⟨rfl, rfl, rfl⟩ := hcs
    exact ⟨none, 0, 0, 0, [], rfl, by simp, fun h => absurd rfl h, fun i t h => by simp at h, fun t h => by simp at h, fun _ => rfl⟩
  · simp [Value.cells] at hcs
    obtain ⟨rfl, rfl, rfl⟩ := hcs
    have hlm : len ≤ m := by rw [hmm]; split <;> omega
    have each : ∀ i, i < len → ∃ t : Ot, (∀ j u, t.cells[j]? = some u → W.cell? ((ad.add (i * 4)).add j) = some u) ∧ t.fits := by
      intro i hi
      obtain ⟨cs', h1, h2⟩ := hel i (by omega)
      rw [cellsOt] at h1
      obtain ⟨_, hlen, hc⟩ := World.cells?_some h1
      obtain ⟨y0, y1, y2, y3, n', _, _, t0, t1, t2, t3⟩ := Joins.trod_struct4 Tryd.underlying30 h2
      simp only [cellsU8, cellsU64, cellsInt, cellsStr] at t0 t1 t2 t3
      obtain ⟨u0, u1, u2, u3, rfl⟩ := list4 hlen
      · obtain ⟨z0, e0, _, w0⟩ := DataW.trod_int Tryd.underlying5 t0
        obtain ⟨z1, e1, _, w1⟩ := DataW.trod_int Tryd.underlying28 t1
        obtain ⟨z2, e2, _, w2⟩ := DataW.trod_int Tryd.underlying3 t2
        obtain ⟨z3, e3, _, w3⟩ := DataW.trod_string Tryd.underlying9 t3
        simp at e0 e1 e2 e3
        have b0 := bounds_u8 w0
        have b1 := bounds_u64 w1
        have b2 := bounds_i64 w2
        refine ⟨⟨z0.toNat, z1.toNat, z2, z3⟩, fun j u hu => ?_, by simp only; omega, by simp only; omega, b2.1, b2.2, w3⟩
        have hz0 : ((z0.toNat : Nat) : Int) = z0 := by omega
        have hz1 : ((z1.toNat : Nat) : Int) = z1 := by omega
        simp only [Ot.cells, hz0, hz1] at hu
        have hj : j < 4 := by have := (List.getElem?_eq_some_iff.1 hu).1; simpa using this
        rw [hc j hj, ← hu, e0, e1, e2, e3]
    haveI : Inhabited Ot := ⟨⟨0, 0, 0, ⟨#[]⟩⟩⟩
    obtain ⟨T, hT⟩ := choose_lt each
    have hget : ∀ i t, ((List.range len).map T)[i]? = some t → i < len ∧ t = T i := by
      intro i t h
      by_cases hi : i < len
      · simp [hi] at h; exact ⟨hi, h.symm⟩
      · simp [hi] at h
    have hin : ∀ t ∈ (List.range len).map T, t.fits := by
      intro t ht
      obtain ⟨i, hi, rfl⟩ := List.mem_map.1 ht
      exact (hT i (List.mem_range.1 hi)).2
    have hlen : ((List.range len).map T).length = len := by simp
    rcases Nat.eq_zero_or_pos len with h0 | h0
    · subst h0
      exact ⟨some ad, 0, 0, cap, [], rfl, by simp, fun h => absurd rfl h, fun i t h => by simp at h, fun t h => by simp at h, fun _ => rfl⟩
    · obtain ⟨b, off, spot⟩ := ad
      have hc0 := (hT 0 h0).1 0 _ rfl
      have hspot : spot = none := by simpa [Addr.add] using World.cell?_spot hc0
      subst hspot
      have hbl : b < W.heap.size := by have := World.block_lt_of_cell? _ _ hc0; simpa [Addr.add] using this
      refine ⟨_, b, off, cap, (List.range len).map T, by rw [hlen], by rw [hlen]; omega, fun _ => ⟨rfl, hbl⟩, fun i t ht j u hu => ?_, hin, fun h => absurd (congrArg List.length h) (by simp; omega)⟩
      obtain ⟨hi, rfl⟩ := hget i t ht
      have hc := (hT i hi).1 j u hu
      rw [← hc, add_plain, add_plain]
end Go.Proofs.YtcomdobmkmbmeaaDoor
