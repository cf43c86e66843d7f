/- Holds, and acts on holds, that came in, opened. -/
import Derived.Test.YtphgkkdpdiiioaaHoSort
import Derived.Test.YtphgkkdpdiiioaaOpenRange
namespace Go.Proofs.Ytphgkkdpdiiioaa
open Go.RowKit Go.Deep Go.ChangeShapes Go.WideShapes

section
variable {H : Type} {enc : TypeId × Value → H} {w : World} {base : Nat} {spare : Nat → Bool} {held : Bool} {P : Program}
theorem trod_structH3 {t : TypeId} {f0 f1 f2 : Field} {fuel : Nat} {cs : List Value} {x : DataW H × List MemPlace} (ht : P.underlying t = some (.struct #[f0, f1, f2])) (h : DataW.trod enc P w base spare held fuel t cs = some x) :
    ∃ y0 y1 y2 n, DataW.trod enc P w base spare held n f0.type ((cs.drop f0.offset).take (P.cellsOf f0.type)) = some y0 ∧ DataW.trod enc P w base spare held n f1.type ((cs.drop f1.offset).take (P.cellsOf f1.type)) = some y1 ∧
      DataW.trod enc P w base spare held n f2.type ((cs.drop f2.offset).take (P.cellsOf f2.type)) = some y2 := by
  obtain ⟨xs, n, _, rfl, hl, hlen, hf⟩ := DataW.trod_struct ht h
  match xs, hlen with
  | [y0, y1, y2], _ => exact ⟨y0, y1, y2, n, by simpa using hf 0 f0 rfl, by simpa using hf 1 f1 rfl, by simpa using hf 2 f2 rfl⟩
end
theorem cellsHo : Try.prog.cellsOf 30 = 4 := by kernel_rfl
theorem cellsHs : Try.prog.cellsOf 9 = 1 := by kernel_rfl
set_option maxRecDepth 1000000 in
/-- four cells that are a hold -/
theorem open_hold4 {H : Type} {enc : TypeId × Value → H} {W : World} {spare : Nat → Bool} {held : Bool} {fuel : Nat} {u0 u1 u2 u3 : Value} {x : DataW H × List MemPlace} (h : DataW.trod enc Try.prog W 0 spare held fuel 30 [u0, u1, u2, u3] = some x) :
    ∃ y : Hld, u0 = .string y.name ∧ u1 = .string y.ser ∧ u2 = .int .i64 y.a ∧ u3 = .int .i64 y.b ∧ y.In := by
  obtain ⟨y0, y1, y2, n, t0, t1, t2⟩ := trod_structH3 Try.underlying30 h
  simp only [cellsHs, cellsRange] at t0 t1 t2
  obtain ⟨z0, e0, _, w0⟩ := DataW.trod_string Try.underlying9 t0
  obtain ⟨z1, e1, _, w1⟩ := DataW.trod_string Try.underlying9 t1
  obtain ⟨x0, x1, nn, _, _, s0, s1⟩ := trod_struct2 Try.underlying24 t2
  simp only [cellsRgI] at s0 s1
  obtain ⟨z2, e2, _, w2⟩ := DataW.trod_int Try.underlying2 s0
  obtain ⟨z3, e3, _, w3⟩ := DataW.trod_int Try.underlying2 s1
  simp at e0 e1 e2 e3
  exact ⟨⟨z0, z1, z2, z3⟩, e0, e1, e2, e3, w0, w1, (bounds_i64 w2).1, (bounds_i64 w2).2, (bounds_i64 w3).1, (bounds_i64 w3).2⟩
set_option maxRecDepth 1000000 in
theorem open_holds {H : Type} {enc : TypeId × Value → H} {W : World} {spare : Nat → Bool} {held : Bool} {v : Value} {d : DataW H} {ps : List MemPlace} {r : Reach} {b0 : Nat} (hval : Value.okWide Try.prog W r b0 28 v)
    (hd : DataW.Trod enc Try.prog W 0 spare held 28 v d ps) : ∃ L : List Hld, HLies W v L ∧ (∀ x ∈ L, x.In) ∧ L.length ≤ maxLen := by
  obtain ⟨a, len, cap, rfl⟩ := okWide_slice Try.underlying28 hval
  obtain ⟨fuel, hf⟩ := hd
  rcases open_slice Try.underlying28 hf with ⟨hcs, _⟩ | ⟨ad, len', cap', m, n, D, Pl, hcs, _, hl, hm, hmm, _, hel⟩
  · simp [Value.cells] at hcs
    obtain ⟨rfl, rfl, rfl⟩ := hcs
    exact ⟨[], ⟨none, 0, 0, 0, rfl, fun h => absurd rfl h, fun i x h => by simp at h⟩, fun x h => by simp at h, by simp⟩
  · simp [Value.cells] at hcs
    obtain ⟨rfl, rfl, rfl⟩ := hcs
    have hlm : len ≤ m := by rw [hmm]; split <;> omega
    have each : ∀ i, i < len → ∃ x : Hld, (∀ j u, x.cells[j]? = some u → W.cell? ((ad.add (i * 4)).add j) = some u) ∧ x.In := by
      intro i hi
      obtain ⟨cs', h1, h2⟩ := hel i (by omega)
      rw [cellsHo] at h1
      obtain ⟨_, hlen, hc⟩ := World.cells?_some h1
      match cs', hlen with
      | [u0, u1, u2, u3], _ =>
        obtain ⟨y, e0, e1, e2, e3, hin⟩ := open_hold4 h2
        refine ⟨y, fun j u hu => ?_, hin⟩
        have hj : j < 4 := by have := (List.getElem?_eq_some_iff.1 hu).1; simpa [Hld.cells] using this
        rw [hc j hj, ← hu, e0, e1, e2, e3]
        rfl
    obtain ⟨T, hT⟩ := choose_lt each
    have hget : ∀ i t, ((List.range len).map T)[i]? = some t → i < len ∧ t = T i := by
      intro i t h
      by_cases hi : i < len
      · simp [hi] at h; exact ⟨hi, h.symm⟩
      · simp [hi] at h
    have hin : ∀ t ∈ (List.range len).map T, t.In := by
      intro t ht
      obtain ⟨i, hi, rfl⟩ := List.mem_map.1 ht
      exact (hT i (List.mem_range.1 hi)).2
    have hlen : ((List.range len).map T).length = len := by simp
    rcases Nat.eq_zero_or_pos len with h0 | h0
    · subst h0
      exact ⟨[], ⟨some ad, 0, 0, cap, rfl, fun h => absurd rfl h, fun i x h => by simp at h⟩, fun t h => by simp at h, by simp⟩
    · obtain ⟨b, off, spot⟩ := ad
      have hc0 := (hT 0 h0).1 0 _ rfl
      have hspot : spot = none := by simpa [Addr.add] using World.cell?_spot hc0
      subst hspot
      refine ⟨(List.range len).map T, ⟨_, b, off, cap, by rw [hlen], fun _ => rfl, fun i x hx j u hu => ?_⟩, hin, by rw [hlen]; omega⟩
      obtain ⟨hi, rfl⟩ := hget i x hx
      have := (hT i hi).1 j u hu
      rw [add_plain, add_plain] at this
      exact this
end Go.Proofs.Ytphgkkdpdiiioaa
