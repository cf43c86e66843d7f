/- A slice of acts on a stock that came in, opened. -/
import Derived.Test.YtmpphidiofhnlaaMC
import Derived.Test.YtmpphidiofhnlaaME
namespace Go.Proofs.Ytmpphidiofhnlaa
open Go.RowKit Go.Deep Go.ChangeShapes Go.WideShapes

set_option maxRecDepth 1000000 in
/-- a cell that is a slice of points -/
theorem open_ptc {H : Type} {enc : TypeId × Value → H} {W : World} {spare : Nat → Bool} {held : Bool} {fuel : Nat} {cs : List Value} {x : DataW H × List MemPlace} (h : DataW.trod enc Try.prog W 0 spare held fuel 35 cs = some x) :
    ∃ u l, cs = [u] ∧ PLies W u l ∧ Fits u ∧ (∀ p ∈ l, p.fits) ∧ l.length ≤ maxLen := by
  rcases open_slice Try.underlying35 h with ⟨rfl, _⟩ | ⟨ad, len, cap, m, n, D, Pl, rfl, _, hl, hm, hmm, _, hel⟩
  · exact ⟨_, [], rfl, ⟨none, 0, 0, 0, rfl, fun h => absurd rfl h, fun i t h => by simp at h⟩, fits_slice (Nat.le_refl _), fun t h => by simp at h, by simp⟩
  · have hlm : len ≤ m := by rw [hmm]; split <;> omega
    have each : ∀ i, i < len → ∃ t : Pt, (∀ j u, t.cells[j]? = some u → W.cell? ((ad.add (i * 2)).add j) = some u) ∧ t.fits := by
      intro i hi
      obtain ⟨cs', h1, h2⟩ := hel i (by omega)
      rw [cellsPt] at h1
      obtain ⟨_, hlen, hc⟩ := World.cells?_some h1
      obtain ⟨y0, y1, n', _, _, t0, t1⟩ := trod_struct2 Try.underlying31 h2
      simp only [cellsI64] at t0 t1
      match cs', hlen with
      | [u0, u1], _ =>
        obtain ⟨z0, e0, _, w0⟩ := DataW.trod_int Try.underlying2 t0
        obtain ⟨z1, e1, _, w1⟩ := DataW.trod_int Try.underlying2 t1
        simp at e0 e1
        have b0 := bounds_i64 w0
        have b1 := bounds_i64 w1
        refine ⟨⟨z0, z1⟩, fun j u hu => ?_, b0.1, b0.2, b1.1, b1.2⟩
        simp only [Pt.cells] at hu
        have hj : j < 2 := by have := (List.getElem?_eq_some_iff.1 hu).1; simpa using this
        rw [hc j hj, ← hu, e0, e1]
    obtain ⟨T, hT⟩ := choose_lt each
    have hget : ∀ i t, ((List.range len).map T)[i]? = some t → i < len ∧ t = T i := by
      intro i t h
      by_cases hi : i < len
      · simp [hi] at h; exact ⟨hi, h.symm⟩
      · simp [hi] at h
    have hin : ∀ t ∈ (List.range len).map T, t.fits := by
      intro t ht
      obtain ⟨i, hi, rfl⟩ := List.mem_map.1 ht
      exact (hT i (List.mem_range.1 hi)).2
    have hlen : ((List.range len).map T).length = len := by simp
    rcases Nat.eq_zero_or_pos len with h0 | h0
    · subst h0
      exact ⟨_, [], rfl, ⟨some ad, 0, 0, cap, rfl, fun h => absurd rfl h, fun i t h => by simp at h⟩, fits_slice hl, fun t h => by simp at h, by simp⟩
    · obtain ⟨b, off, spot⟩ := ad
      have hc0 := (hT 0 h0).1 0 _ rfl
      have hspot : spot = none := by simpa [Addr.add] using World.cell?_spot hc0
      subst hspot
      refine ⟨_, (List.range len).map T, rfl, ⟨_, b, off, cap, by rw [hlen], fun _ => rfl, fun i t ht => ?_⟩, fits_slice hl, hin, by rw [hlen]; omega⟩
      obtain ⟨hi, rfl⟩ := hget i t ht
      have h0 := (hT i hi).1 0 _ rfl
      have h1 := (hT i hi).1 1 _ rfl
      rw [add_plain, add_plain] at h0 h1
      exact ⟨h0, h1⟩
/-- an act, as it lies -/
def TActAt (W : World) (b off : Nat) (x : TActL) : Prop :=
  ∃ u, W.cell? ⟨b, off, none⟩ = some (.int .i64 x.kind) ∧ W.cell? ⟨b, off + 1, none⟩ = some (.int .i64 x.at_) ∧ W.cell? ⟨b, off + 2, none⟩ = some u ∧ W.cell? ⟨b, off + 3, none⟩ = some (.int .i64 x.a) ∧ W.cell? ⟨b, off + 4, none⟩ = some (.int .i64 x.b) ∧ PLies W u x.l ∧ Fits u
/-- numbers that may be -/
structure TActL.In (x : TActL) : Prop where
  k0 : -9223372036854775808 ≤ x.kind
  k1 : x.kind ≤ 9223372036854775807
  t0 : -9223372036854775808 ≤ x.at_
  t1 : x.at_ ≤ 9223372036854775807
  pts : ∀ p ∈ x.l, p.fits
  len : x.l.length ≤ maxLen
  a0 : -9223372036854775808 ≤ x.a
  a1 : x.a ≤ 9223372036854775807
  b0 : -9223372036854775808 ≤ x.b
  b1 : x.b ≤ 9223372036854775807
def TActsAt (W : World) (v : Value) (L : List TActL) : Prop := ∃ a b off c, v = .slice a L.length c ∧ (L ≠ [] → a = some ⟨b, off, none⟩) ∧ ∀ i x, L[i]? = some x → TActAt W b (off + i * 5) x
theorem TActAt.keep {W W' : World} {b off : Nat} {x : TActL} (h : TActAt W b off x) (hb : Below W.heap.size W W') : TActAt W' b off x := by
  obtain ⟨u, h0, h1, h2, h3, h4, h5, h6⟩ := h
  have k : ∀ o v, W.cell? ⟨b, o, none⟩ = some v → W'.cell? ⟨b, o, none⟩ = some v := fun o v hv => (hb.cell (p := ⟨b, o, none⟩) (cell_lt hv)).trans hv
  exact ⟨u, k _ _ h0, k _ _ h1, k _ _ h2, k _ _ h3, k _ _ h4, h5.beyond hb, h6⟩
theorem TActAt.beyondT {W W' : World} {b off : Nat} {x : TActL} (h : TActAt W b off x) (hb : Below W.heap.size W W') : TActAt W' b off x := h.keep hb
theorem TActsAt.keep {W W' : World} {v : Value} {L : List TActL} (h : TActsAt W v L) (hb : Below W.heap.size W W') : TActsAt W' v L := by
  obtain ⟨a, b, off, c, h1, h2, h3⟩ := h
  exact ⟨a, b, off, c, h1, h2, fun i x hx => (h3 i x hx).keep hb⟩
section
variable {H : Type} {enc : TypeId × Value → H} {w : World} {base : Nat} {spare : Nat → Bool} {held : Bool} {P : Program}
theorem trod_structT4 {t : TypeId} {f0 f1 f2 f3 : Field} {fuel : Nat} {cs : List Value} {x : DataW H × List MemPlace} (ht : P.underlying t = some (.struct #[f0, f1, f2, f3])) (h : DataW.trod enc P w base spare held fuel t cs = some x) :
    ∃ y0 y1 y2 y3 n, DataW.trod enc P w base spare held n f0.type ((cs.drop f0.offset).take (P.cellsOf f0.type)) = some y0 ∧ DataW.trod enc P w base spare held n f1.type ((cs.drop f1.offset).take (P.cellsOf f1.type)) = some y1 ∧
      DataW.trod enc P w base spare held n f2.type ((cs.drop f2.offset).take (P.cellsOf f2.type)) = some y2 ∧ DataW.trod enc P w base spare held n f3.type ((cs.drop f3.offset).take (P.cellsOf f3.type)) = some y3 := by
  obtain ⟨xs, n, _, rfl, hl, hlen, hf⟩ := DataW.trod_struct ht h
  match xs, hlen with
  | [y0, y1, y2, y3], _ => exact ⟨y0, y1, y2, y3, n, by simpa using hf 0 f0 rfl, by simpa using hf 1 f1 rfl, by simpa using hf 2 f2 rfl, by simpa using hf 3 f3 rfl⟩
end
theorem cellsTAct : Try.prog.cellsOf 37 = 5 := by kernel_rfl
theorem cellsTi : Try.prog.cellsOf 3 = 1 := by kernel_rfl
theorem cellsTl : Try.prog.cellsOf 35 = 1 := by kernel_rfl
theorem cellsTr : Try.prog.cellsOf 24 = 2 := by kernel_rfl
set_option maxRecDepth 1000000 in
theorem open_tacts {H : Type} {enc : TypeId × Value → H} {W : World} {spare : Nat → Bool} {held : Bool} {v : Value} {d : DataW H} {ps : List MemPlace} {r : Reach} {b0 : Nat} (hval : Value.okWide Try.prog W r b0 22 v)
    (hd : DataW.Trod enc Try.prog W 0 spare held 22 v d ps) : ∃ L : List TActL, TActsAt W v L ∧ (∀ x ∈ L, x.In) ∧ L.length ≤ maxLen := by
  obtain ⟨a, len, cap, rfl⟩ := okWide_slice Try.underlying22 hval
  obtain ⟨fuel, hf⟩ := hd
  rcases open_slice Try.underlying22 hf with ⟨hcs, _⟩ | ⟨ad, len', cap', m, n, D, Pl, hcs, _, hl, hm, hmm, _, hel⟩
  · simp [Value.cells] at hcs
    obtain ⟨rfl, rfl, rfl⟩ := hcs
    exact ⟨[], ⟨none, 0, 0, 0, rfl, fun h => absurd rfl h, fun i x h => by simp at h⟩, fun x h => by simp at h, by simp⟩
  · simp [Value.cells] at hcs
    obtain ⟨rfl, rfl, rfl⟩ := hcs
    have hlm : len ≤ m := by rw [hmm]; split <;> omega
    have each : ∀ i, i < len → ∃ x : TActL, (∃ u, W.cell? ((ad.add (i * 5)).add 0) = some (.int .i64 x.kind) ∧ W.cell? ((ad.add (i * 5)).add 1) = some (.int .i64 x.at_) ∧ W.cell? ((ad.add (i * 5)).add 2) = some u ∧ W.cell? ((ad.add (i * 5)).add 3) = some (.int .i64 x.a) ∧ W.cell? ((ad.add (i * 5)).add 4) = some (.int .i64 x.b) ∧ PLies W u x.l ∧ Fits u) ∧ x.In := by
      intro i hi
      obtain ⟨cs', h1, h2⟩ := hel i (by omega)
      rw [cellsTAct] at h1
      obtain ⟨_, hlen, hc⟩ := World.cells?_some h1
      obtain ⟨y0, y1, y2, y3, n', t0, t1, t2, t3⟩ := trod_structT4 Try.underlying37 h2
      simp only [cellsTi, cellsI64, cellsTl, cellsTr] at t0 t1 t2 t3
      match cs', hlen with
      | [u0, u1, u2, u3, u4], _ =>
        obtain ⟨z0, e0, _, w0⟩ := DataW.trod_int Try.underlying3 t0
        obtain ⟨z1, e1, _, w1⟩ := DataW.trod_int Try.underlying2 t1
        obtain ⟨u, l, e2, h3, h4, h5, h6⟩ := open_ptc t2
        obtain ⟨x0, x1, nn, _, _, s0, s1⟩ := trod_struct2 Try.underlying24 t3
        simp only [cellsI64] at s0 s1
        obtain ⟨z3, e3, _, w3⟩ := DataW.trod_int Try.underlying2 s0
        obtain ⟨z4, e4, _, w4⟩ := DataW.trod_int Try.underlying2 s1
        simp at e0 e1 e2 e3 e4
        subst e0 e1 e2 e3 e4
        refine ⟨⟨z0, z1, l, z3, z4⟩, ⟨u2, hc 0 (by omega), hc 1 (by omega), hc 2 (by omega), hc 3 (by omega), hc 4 (by omega), h3, h4⟩, ⟨(bounds_i64 w0).1, (bounds_i64 w0).2, (bounds_i64 w1).1, (bounds_i64 w1).2, h5, h6, (bounds_i64 w3).1, (bounds_i64 w3).2, (bounds_i64 w4).1, (bounds_i64 w4).2⟩⟩
    haveI : Inhabited TActL := ⟨⟨0, 0, [], 0, 0⟩⟩
    obtain ⟨T, hT⟩ := choose_lt each
    have hget : ∀ i t, ((List.range len).map T)[i]? = some t → i < len ∧ t = T i := by
      intro i t h
      by_cases hi : i < len
      · simp [hi] at h; exact ⟨hi, h.symm⟩
      · simp [hi] at h
    have hin : ∀ t ∈ (List.range len).map T, t.In := by
      intro t ht
      obtain ⟨i, hi, rfl⟩ := List.mem_map.1 ht
      exact (hT i (List.mem_range.1 hi)).2
    have hlen : ((List.range len).map T).length = len := by simp
    rcases Nat.eq_zero_or_pos len with h0 | h0
    · subst h0
      exact ⟨[], ⟨some ad, 0, 0, cap, rfl, fun h => absurd rfl h, fun i t h => by simp at h⟩, fun t h => by simp at h, by simp⟩
    · obtain ⟨b, off, spot⟩ := ad
      obtain ⟨⟨u, hc0, _⟩, _⟩ := hT 0 h0
      have hspot : spot = none := by simpa [Addr.add] using World.cell?_spot hc0
      subst hspot
      refine ⟨(List.range len).map T, ⟨_, b, off, cap, by rw [hlen], fun _ => rfl, fun i x hx => ?_⟩, hin, by rw [hlen]; omega⟩
      obtain ⟨hi, rfl⟩ := hget i x hx
      obtain ⟨⟨u, k0, k1, k2, k3, k4, k5, k6⟩, _⟩ := hT i hi
      have hadd : ∀ j, ((⟨b, off, none⟩ : Addr).add (i * 5)).add j = ⟨b, off + i * 5 + j, none⟩ := fun j => by rw [add_plain, add_plain]
      rw [hadd] at k0 k1 k2 k3 k4
      exact ⟨u, k0, k1, k2, k3, k4, k5, k6⟩
end Go.Proofs.Ytmpphidiofhnlaa
