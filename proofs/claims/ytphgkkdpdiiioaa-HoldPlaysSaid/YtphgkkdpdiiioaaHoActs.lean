/- Acts on holds that came in, opened. -/
import Derived.Test.YtphgkkdpdiiioaaHoOpen
namespace Go.Proofs.Ytphgkkdpdiiioaa
open Go.RowKit Go.Deep Go.ChangeShapes Go.WideShapes

/-- an act -/
structure HAct where
  kind : Int
  h : Hld
def HAct.cells (x : HAct) : List Value := .int .i64 x.kind :: x.h.cells
structure HAct.In (x : HAct) : Prop where
  k0 : -9223372036854775808 ≤ x.kind
  k1 : x.kind ≤ 9223372036854775807
  h0 : x.h.In
def HActsAt (w : World) (v : Value) (l : List HAct) : Prop := ∃ a b off c, v = .slice a l.length c ∧ (l ≠ [] → a = some ⟨b, off, none⟩) ∧ ∀ i x, l[i]? = some x → ∀ j u, x.cells[j]? = some u → w.cell? ⟨b, off + i * 5 + j, none⟩ = some u
theorem HActsAt.beyond {w w' : World} {v : Value} {l : List HAct} (h : HActsAt w v l) (hb : Below w.heap.size w w') : HActsAt w' v l := by
  obtain ⟨a, b, off, c, h1, h2, h3⟩ := h
  exact ⟨a, b, off, c, h1, h2, fun i x hx j u hu => (hb.cell (p := ⟨b, _, none⟩) (cell_lt (h3 i x hx j u hu))).trans (h3 i x hx j u hu)⟩
theorem cellsHA : Try.prog.cellsOf 32 = 5 := by kernel_rfl
theorem cellsHI : Try.prog.cellsOf 3 = 1 := by kernel_rfl
set_option maxRecDepth 1000000 in
theorem open_hacts {H : Type} {enc : TypeId × Value → H} {W : World} {spare : Nat → Bool} {held : Bool} {v : Value} {d : DataW H} {ps : List MemPlace} {r : Reach} {b0 : Nat} (hval : Value.okWide Try.prog W r b0 22 v)
    (hd : DataW.Trod enc Try.prog W 0 spare held 22 v d ps) : ∃ L : List HAct, HActsAt W v L ∧ (∀ x ∈ L, x.In) ∧ L.length ≤ maxLen := by
  obtain ⟨a, len, cap, rfl⟩ := okWide_slice Try.underlying22 hval
  obtain ⟨fuel, hf⟩ := hd
  rcases open_slice Try.underlying22 hf with ⟨hcs, _⟩ | ⟨ad, len', cap', m, n, D, Pl, hcs, _, hl, hm, hmm, _, hel⟩
  · simp [Value.cells] at hcs
    obtain ⟨rfl, rfl, rfl⟩ := hcs
    exact ⟨[], ⟨none, 0, 0, 0, rfl, fun h => absurd rfl h, fun i x h => by simp at h⟩, fun x h => by simp at h, by simp⟩
  · simp [Value.cells] at hcs
    obtain ⟨rfl, rfl, rfl⟩ := hcs
    have hlm : len ≤ m := by rw [hmm]; split <;> omega
    have each : ∀ i, i < len → ∃ x : HAct, (∀ j u, x.cells[j]? = some u → W.cell? ((ad.add (i * 5)).add j) = some u) ∧ x.In := by
      intro i hi
      obtain ⟨cs', h1, h2⟩ := hel i (by omega)
      rw [cellsHA] at h1
      obtain ⟨_, hlen, hc⟩ := World.cells?_some h1
      match cs', hlen with
      | [u0, u1, u2, u3, u4], _ =>
        obtain ⟨y0, y1, n', _, _, t0, t1⟩ := trod_struct2 Try.underlying32 h2
        simp only [cellsHI, cellsHo] at t0 t1
        obtain ⟨z0, e0, _, w0⟩ := DataW.trod_int Try.underlying3 t0
        obtain ⟨y, e1, e2, e3, e4, hin⟩ := open_hold4 t1
        simp at e0
        refine ⟨⟨z0, y⟩, fun j u hu => ?_, (bounds_i64 w0).1, (bounds_i64 w0).2, hin⟩
        have hj : j < 5 := by have := (List.getElem?_eq_some_iff.1 hu).1; simpa [HAct.cells, Hld.cells] using this
        rw [hc j hj, ← hu, e0, e1, e2, e3, e4]
        rfl
    haveI : Inhabited HAct := ⟨⟨0, default⟩⟩
    obtain ⟨T, hT⟩ := choose_lt each
    have hget : ∀ i t, ((List.range len).map T)[i]? = some t → i < len ∧ t = T i := by
      intro i t h
      by_cases hi : i < len
      · simp [hi] at h; exact ⟨hi, h.symm⟩
      · simp [hi] at h
    have hin : ∀ t ∈ (List.range len).map T, t.In := by
      intro t ht
      obtain ⟨i, hi, rfl⟩ := List.mem_map.1 ht
      exact (hT i (List.mem_range.1 hi)).2
    have hlen : ((List.range len).map T).length = len := by simp
    rcases Nat.eq_zero_or_pos len with h0 | h0
    · subst h0
      exact ⟨[], ⟨some ad, 0, 0, cap, rfl, fun h => absurd rfl h, fun i x h => by simp at h⟩, fun t h => by simp at h, by simp⟩
    · obtain ⟨b, off, spot⟩ := ad
      have hc0 := (hT 0 h0).1 0 _ rfl
      have hspot : spot = none := by simpa [Addr.add] using World.cell?_spot hc0
      subst hspot
      refine ⟨(List.range len).map T, ⟨_, b, off, cap, by rw [hlen], fun _ => rfl, fun i x hx j u hu => ?_⟩, hin, by rw [hlen]; omega⟩
      obtain ⟨hi, rfl⟩ := hget i x hx
      have := (hT i hi).1 j u hu
      rw [add_plain, add_plain] at this
      exact this
end Go.Proofs.Ytphgkkdpdiiioaa
