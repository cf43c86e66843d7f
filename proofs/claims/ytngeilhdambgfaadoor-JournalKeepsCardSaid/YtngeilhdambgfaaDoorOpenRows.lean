/- A slice of slices of bytes that came in, opened. -/
import Derived.Test.YtngeilhdambgfaaDoorGen
import Derived.Deep.Matrix
namespace Go.Proofs.YtngeilhdambgfaaDoor
open Go.RowKit Go.Deep Go.ChangeShapes Go.WideShapes

/-- rows of bytes, as they lie -/
def RowsAt (w : World) (v : Value) (A : List (List Nat)) : Prop :=
  ∃ a c, v = .slice a A.length c ∧ (A ≠ [] → ∃ b off, a = some ⟨b, off, none⟩ ∧ ∀ i bs, A[i]? = some bs → ∃ u, w.cell? ⟨b, off + i, none⟩ = some u ∧ Lies w u bs)
theorem row_lies {w : World} {a : Option Addr} {L C : Nat} {zs : List Int} (hL : L ≤ C) (hz : zs.length = C) (hwf : ∀ n ∈ zs, (Lit.int .u8 n).wf = true) (hn : a = none → C = 0) (hc : ∀ a', a = some a' → ∀ c, c < C → w.cell? (a'.add c) = some (.int .u8 (zs.getD c 0))) :
    Lies w (.slice a L C) ((zs.take L).map Int.toNat) ∧ (∀ x ∈ (zs.take L).map Int.toNat, x < 256) ∧ ((zs.take L).map Int.toNat).length = L := by
  have hlen : ((zs.take L).map Int.toNat).length = L := by rw [List.length_map, List.length_take]; omega
  have hin : ∀ x ∈ (zs.take L).map Int.toNat, x < 256 := by
    intro x hx
    obtain ⟨z, hz1, rfl⟩ := List.mem_map.1 hx
    have := bounds_u8 (hwf z (List.mem_of_mem_take hz1))
    omega
  refine ⟨?_, hin, hlen⟩
  rcases Nat.eq_zero_or_pos L with h0 | h0
  · subst h0
    cases a with
    | none => exact .inl ⟨by rw [hn rfl], by simp⟩
    | some ad => exact .inr (.inl ⟨ad, C, rfl, by simp⟩)
  · cases a with
    | none => have := hn rfl; omega
    | some ad =>
      obtain ⟨b, off, rfl, hcc⟩ := ints_at (zs := zs) (fun i hi => hc ad rfl i (by omega)) (by omega)
      refine .inr (.inr ⟨b, off, C, by rw [hlen], fun j hj => ?_⟩)
      rw [hlen] at hj
      rw [hcc j (by omega)]
      have hjz : j < zs.length := by omega
      have hwj := bounds_u8 (hwf zs[j] (List.getElem_mem hjz))
      have e1 : zs.getD j 0 = zs[j] := by simp [List.getD, List.getElem?_eq_getElem hjz]
      have e2 : ((zs.take L).map Int.toNat).getD j 0 = zs[j].toNat := by simp [List.getD, hj, List.getElem?_eq_getElem hjz]
      rw [e1, e2]
      congr 2; omega
set_option maxRecDepth 100000 in
theorem open_rows {H : Type} {enc : TypeId × Value → H} {W : World} {held : Bool} {v : Value} {d : DataW H} {ps : List MemPlace} {r : Reach} {b0 : Nat} (hval : Value.okWide Tryd.prog W r b0 32 v)
    (hd : DataW.Trod enc Tryd.prog W 0 (fun _ => true) held 32 v d ps) : ∃ A : List (List Nat), RowsAt W v A ∧ (∀ bs ∈ A, ∀ x ∈ bs, x < 256) ∧ A.length ≤ maxLen := by
  obtain ⟨a, len, cap, rfl⟩ := okWide_slice Tryd.underlying32 hval
  obtain ⟨fuel, hf⟩ := hd
  have c2 : Tryd.prog.cellsOf 33 = 1 := by kernel_rfl
  rcases open_int_rows Tryd.underlying32 Tryd.underlying33 Tryd.underlying5 c2 cellsU8 hf with ⟨hcs, _⟩ | ⟨ad, len', cap', A, L, C, Z, hcs, _, hl, hm, _, hrows⟩
  · simp [Value.cells] at hcs
    obtain ⟨rfl, rfl, rfl⟩ := hcs
    exact ⟨[], ⟨none, 0, rfl, fun h => absurd rfl h⟩, fun bs h => by simp at h, by simp⟩
  · simp [Value.cells] at hcs
    obtain ⟨rfl, rfl, rfl⟩ := hcs
    have key : ∀ i, i < len → Lies W (.slice (A i) (L i) (C i)) (((Z i).take (L i)).map Int.toNat) ∧ (∀ x ∈ ((Z i).take (L i)).map Int.toNat, x < 256) ∧ (((Z i).take (L i)).map Int.toNat).length = L i := fun i hi => by
      obtain ⟨_, r1, _, r3, r4, r5, r6⟩ := hrows i (by omega)
      exact row_lies r1 r3 r4 r5 (fun a' ha => (r6 a' ha).2)
    refine ⟨(List.range len).map fun i => ((Z i).take (L i)).map Int.toNat, ⟨some ad, cap, by simp, fun hne => ?_⟩, fun bs hbs => ?_, by simp; omega⟩
    · have hpos : 0 < len := by rcases Nat.eq_zero_or_pos len with h | h; subst h; simp at hne; exact h
      obtain ⟨b, off, spot⟩ := ad
      have hspot : spot = none := by simpa [Addr.add] using World.cell?_spot (hrows 0 (by omega)).1
      subst hspot
      refine ⟨b, off, rfl, fun i bs hi => ?_⟩
      have hil : i < len := by have := (List.getElem?_eq_some_iff.1 hi).1; simpa using this
      simp [hil] at hi
      refine ⟨.slice (A i) (L i) (C i), ?_, by rw [← hi, ← List.map_take]; exact (key i hil).1⟩
      have := (hrows i (by omega)).1
      rwa [add_at] at this
    · obtain ⟨i, hi, rfl⟩ := List.mem_map.1 hbs
      exact (key i (by simpa using hi)).2.1
set_option maxRecDepth 100000 in
theorem open_rows2 {H : Type} {enc : TypeId × Value → H} {W : World} {held : Bool} {v : Value} {d : DataW H} {ps : List MemPlace} {r : Reach} {b0 : Nat} (hval : Value.okWide Tryd.prog W r b0 32 v)
    (hd : DataW.Trod enc Tryd.prog W 0 (fun _ => true) held 32 v d ps) : ∃ A : List (List Nat), RowsAt W v A ∧ Fits v ∧ (∀ bs ∈ A, ∀ x ∈ bs, x < 256) ∧ A.length ≤ maxLen := by
  obtain ⟨a, len, cap, rfl⟩ := okWide_slice Tryd.underlying32 hval
  obtain ⟨fuel, hf⟩ := hd
  have c2 : Tryd.prog.cellsOf 33 = 1 := by kernel_rfl
  rcases open_int_rows Tryd.underlying32 Tryd.underlying33 Tryd.underlying5 c2 cellsU8 hf with ⟨hcs, _⟩ | ⟨ad, len', cap', A, L, C, Z, hcs, _, hl, hm, _, hrows⟩
  · simp [Value.cells] at hcs
    obtain ⟨rfl, rfl, rfl⟩ := hcs
    exact ⟨[], ⟨none, 0, rfl, fun h => absurd rfl h⟩, fits_slice (Nat.le_refl _), fun bs h => by simp at h, by simp⟩
  · simp [Value.cells] at hcs
    obtain ⟨rfl, rfl, rfl⟩ := hcs
    have key : ∀ i, i < len → Lies W (.slice (A i) (L i) (C i)) (((Z i).take (L i)).map Int.toNat) ∧ (∀ x ∈ ((Z i).take (L i)).map Int.toNat, x < 256) ∧ (((Z i).take (L i)).map Int.toNat).length = L i := fun i hi => by
      obtain ⟨_, r1, _, r3, r4, r5, r6⟩ := hrows i (by omega)
      exact row_lies r1 r3 r4 r5 (fun a' ha => (r6 a' ha).2)
    refine ⟨(List.range len).map fun i => ((Z i).take (L i)).map Int.toNat, ⟨some ad, cap, by simp, fun hne => ?_⟩, fits_slice (by omega), fun bs hbs => ?_, by simp; omega⟩
    · have hpos : 0 < len := by rcases Nat.eq_zero_or_pos len with h | h; subst h; simp at hne; exact h
      obtain ⟨b, off, spot⟩ := ad
      have hspot : spot = none := by simpa [Addr.add] using World.cell?_spot (hrows 0 (by omega)).1
      subst hspot
      refine ⟨b, off, rfl, fun i bs hi => ?_⟩
      have hil : i < len := by have := (List.getElem?_eq_some_iff.1 hi).1; simpa using this
      simp [hil] at hi
      refine ⟨.slice (A i) (L i) (C i), ?_, by rw [← hi, ← List.map_take]; exact (key i hil).1⟩
      have := (hrows i (by omega)).1
      rwa [add_at] at this
    · obtain ⟨i, hi, rfl⟩ := List.mem_map.1 hbs
      exact (key i (by simpa using hi)).2.1
end Go.Proofs.YtngeilhdambgfaaDoor
