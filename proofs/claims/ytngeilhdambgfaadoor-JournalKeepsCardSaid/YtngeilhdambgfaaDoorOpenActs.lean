/- A slice of acts that came in, opened. -/
import Derived.Test.YtngeilhdambgfaaDoorOpenSect
namespace Go.Proofs.YtngeilhdambgfaaDoor
open Go.RowKit Go.Deep Go.ChangeShapes Go.WideShapes

/-- an act -/
structure ActL where
  kind : Int
  data : List Nat
  keep : Nat
  torn : Int
  bytes : Int
def ActL.In (x : ActL) : Prop := -9223372036854775808 ≤ x.kind ∧ x.kind ≤ 9223372036854775807 ∧ x.keep < 18446744073709551616 ∧ ∀ y ∈ x.data, y < 256
/-- an act, as it lies -/
def ActAt (W : World) (b off : Nat) (x : ActL) : Prop :=
  ∃ u, W.cell? ⟨b, off, none⟩ = some (.int .i64 x.kind) ∧ W.cell? ⟨b, off + 1, none⟩ = some u ∧ W.cell? ⟨b, off + 2, none⟩ = some (.int .u64 (x.keep : Int)) ∧ W.cell? ⟨b, off + 3, none⟩ = some (.int .i64 x.torn) ∧ W.cell? ⟨b, off + 4, none⟩ = some (.int .i64 x.bytes) ∧ Lies W u x.data
def ActsAt (W : World) (v : Value) (L : List ActL) : Prop :=
  ∃ a c, v = .slice a L.length c ∧ (L ≠ [] → ∃ b off, a = some ⟨b, off, none⟩ ∧ ∀ i x, L[i]? = some x → ActAt W b (off + i * 5) x)
theorem ActAt.keep {W W' : World} {b off : Nat} {x : ActL} (h : ActAt W b off x) (hb : Below W.heap.size W W') : ActAt W' b off x := by
  obtain ⟨u, h0, h1, h2, h3, h4, h5⟩ := h
  have k : ∀ o v, W.cell? ⟨b, o, none⟩ = some v → W'.cell? ⟨b, o, none⟩ = some v := fun o v hv => (hb.cell (p := ⟨b, o, none⟩) (cell_lt hv)).trans hv
  exact ⟨u, k _ _ h0, k _ _ h1, k _ _ h2, k _ _ h3, k _ _ h4, lies_keep h5 hb⟩
section
variable {H : Type} {enc : TypeId × Value → H} {w : World} {base : Nat} {spare : Nat → Bool} {held : Bool} {P : Program}
theorem trod_struct5 {t : TypeId} {f0 f1 f2 f3 f4 : Field} {fuel : Nat} {cs : List Value} {x : DataW H × List MemPlace} (ht : P.underlying t = some (.struct #[f0, f1, f2, f3, f4])) (h : DataW.trod enc P w base spare held fuel t cs = some x) :
    ∃ y0 y1 y2 y3 y4 n, DataW.trod enc P w base spare held n f0.type ((cs.drop f0.offset).take (P.cellsOf f0.type)) = some y0 ∧ DataW.trod enc P w base spare held n f1.type ((cs.drop f1.offset).take (P.cellsOf f1.type)) = some y1 ∧
      DataW.trod enc P w base spare held n f2.type ((cs.drop f2.offset).take (P.cellsOf f2.type)) = some y2 ∧ DataW.trod enc P w base spare held n f3.type ((cs.drop f3.offset).take (P.cellsOf f3.type)) = some y3 ∧ DataW.trod enc P w base spare held n f4.type ((cs.drop f4.offset).take (P.cellsOf f4.type)) = some y4 := by
  obtain ⟨xs, n, _, rfl, hl, hlen, hf⟩ := DataW.trod_struct ht h
  match xs, hlen with
  | [y0, y1, y2, y3, y4], _ => exact ⟨y0, y1, y2, y3, y4, n, by simpa using hf 0 f0 rfl, by simpa using hf 1 f1 rfl, by simpa using hf 2 f2 rfl, by simpa using hf 3 f3 rfl, by simpa using hf 4 f4 rfl⟩
end
theorem cellsAct : Tryd.prog.cellsOf 36 = 5 := by kernel_rfl
theorem cellsI : Tryd.prog.cellsOf 3 = 1 := by kernel_rfl
theorem cellsU : Tryd.prog.cellsOf 34 = 1 := by kernel_rfl

set_option maxRecDepth 100000 in
theorem open_acts {H : Type} {enc : TypeId × Value → H} {W : World} {held : Bool} {v : Value} {d : DataW H} {ps : List MemPlace} {r : Reach} {b0 : Nat} (hval : Value.okWide Tryd.prog W r b0 22 v)
    (hd : DataW.Trod enc Tryd.prog W 0 (fun _ => true) held 22 v d ps) : ∃ L : List ActL, ActsAt W v L ∧ (∀ x ∈ L, x.In) ∧ L.length ≤ maxLen := by
  obtain ⟨a, len, cap, rfl⟩ := okWide_slice Tryd.underlying22 hval
  obtain ⟨fuel, hf⟩ := hd
  rcases open_slice Tryd.underlying22 hf with ⟨hcs, _⟩ | ⟨ad, len', cap', m, n, D, Pl, hcs, _, hl, hm, hmm, _, hel⟩
  · simp [Value.cells] at hcs
    obtain ⟨rfl, rfl, rfl⟩ := hcs
    exact ⟨[], ⟨none, 0, rfl, fun h => absurd rfl h⟩, fun x h => by simp at h, by simp⟩
  · simp [Value.cells] at hcs
    obtain ⟨rfl, rfl, rfl⟩ := hcs
    have hlm : len ≤ m := by rw [hmm]; split <;> omega
    have each : ∀ i, i < len → ∃ x : ActL, (∃ u, W.cell? ((ad.add (i * 5)).add 0) = some (.int .i64 x.kind) ∧ W.cell? ((ad.add (i * 5)).add 1) = some u ∧ W.cell? ((ad.add (i * 5)).add 2) = some (.int .u64 (x.keep : Int)) ∧ W.cell? ((ad.add (i * 5)).add 3) = some (.int .i64 x.torn) ∧ W.cell? ((ad.add (i * 5)).add 4) = some (.int .i64 x.bytes) ∧ Lies W u x.data) ∧ x.In := by
      intro i hi
      obtain ⟨cs', h1, h2⟩ := hel i (by omega)
      rw [cellsAct] at h1
      obtain ⟨_, hlen, hc⟩ := World.cells?_some h1
      obtain ⟨y0, y1, y2, y3, y4, n', t0, t1, t2, t3, t4⟩ := trod_struct5 Tryd.underlying36 h2
      simp only [cellsI, cellsU, cellsSl] at t0 t1 t2 t3 t4
      match cs', hlen with
      | [u0, u1, u2, u3, u4], _ =>
        obtain ⟨z0, e0, _, w0⟩ := DataW.trod_int Tryd.underlying3 t0
        obtain ⟨u, l, e1, h3, _, h5, _⟩ := open_cell t1
        obtain ⟨z2, e2, _, w2⟩ := DataW.trod_int Tryd.underlying34 t2
        obtain ⟨z3, e3, _, w3⟩ := DataW.trod_int Tryd.underlying3 t3
        obtain ⟨z4, e4, _, w4⟩ := DataW.trod_int Tryd.underlying3 t4
        simp at e0 e1 e2 e3 e4
        subst e0 e1 e2 e3 e4
        have b0 := bounds_i64 w0
        have b2 := bounds_u64 w2
        have hz : ((z2.toNat : Nat) : Int) = z2 := by omega
        refine ⟨⟨z0, l, z2.toNat, z3, z4⟩, ⟨u1, hc 0 (by omega), hc 1 (by omega), ?_, hc 3 (by omega), hc 4 (by omega), h3⟩, b0.1, b0.2, by simp only; omega, h5⟩
        simp only [hz]
        exact hc 2 (by omega)
    haveI : Inhabited ActL := ⟨⟨0, [], 0, 0, 0⟩⟩
    obtain ⟨T, hT⟩ := choose_lt each
    have hget : ∀ i t, ((List.range len).map T)[i]? = some t → i < len ∧ t = T i := by
      intro i t h
      by_cases hi : i < len
      · simp [hi] at h; exact ⟨hi, h.symm⟩
      · simp [hi] at h
    refine ⟨(List.range len).map T, ⟨some ad, cap, by simp, fun hne => ?_⟩, fun x hx => ?_, by simp; omega⟩
    · have h0 : 0 < len := by rcases Nat.eq_zero_or_pos len with h | h; subst h; simp at hne; exact h
      obtain ⟨b, off, spot⟩ := ad
      obtain ⟨⟨u, hc0, _⟩, _⟩ := hT 0 h0
      have hspot : spot = none := by simpa [Addr.add] using World.cell?_spot hc0
      subst hspot
      refine ⟨b, off, rfl, fun i x hx => ?_⟩
      obtain ⟨hi, rfl⟩ := hget i x hx
      obtain ⟨⟨u, k0, k1, k2, k3, k4, k5⟩, _⟩ := hT i hi
      have hadd : ∀ j, ((⟨b, off, none⟩ : Addr).add (i * 5)).add j = ⟨b, off + i * 5 + j, none⟩ := fun j => by rw [add_plain, add_plain]
      rw [hadd] at k0 k1 k2 k3 k4
      exact ⟨u, k0, k1, k2, k3, k4, k5⟩
    · obtain ⟨i, hi, rfl⟩ := List.mem_map.1 hx
      exact (hT i (List.mem_range.1 hi)).2
end Go.Proofs.YtngeilhdambgfaaDoor
