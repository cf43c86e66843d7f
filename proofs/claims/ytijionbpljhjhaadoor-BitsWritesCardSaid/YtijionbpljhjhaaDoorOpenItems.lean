/- A slice of items that came in, opened. -/
import Derived.Test.YtijionbpljhjhaaDoorBitsWritesM
import Derived.OpenShut
import Derived.Deep.Slices
import Derived.Deep.Strs
namespace Go.Proofs.YtijionbpljhjhaaDoor
open Go.RowKit Go.Deep Go.ChangeShapes Go.WideShapes

theorem cellsIt : Tryd.prog.cellsOf 30 = 3 := by kernel_rfl
theorem cellsU64 : Tryd.prog.cellsOf 28 = 1 := by kernel_rfl
theorem cellsInt : Tryd.prog.cellsOf 3 = 1 := by kernel_rfl
theorem cellsBool : Tryd.prog.cellsOf 4 = 1 := by kernel_rfl

theorem open_items {H : Type} {enc : TypeId × Value → H} {W : World} {spare : Nat → Bool} {held : Bool} {v : Value} {d : DataW H} {ps : List MemPlace} {r : Reach} {b0 : Nat} (hval : Value.okWide Tryd.prog W r b0 22 v)
    (hd : DataW.Trod enc Tryd.prog W 0 spare held 22 v d ps) :
    ∃ a b off cap, ∃ l : List It, v = .slice a l.length cap ∧ l.length ≤ maxLen ∧ (l ≠ [] → a = some ⟨b, off, none⟩ ∧ b < W.heap.size) ∧ ItemsAt W b off l ∧
      (∀ t ∈ l, t.x < 18446744073709551616 ∧ -9223372036854775808 ≤ t.n ∧ t.n ≤ 9223372036854775807) ∧ (l = [] → b = 0) := by
  obtain ⟨a, len, cap, rfl⟩ := okWide_slice Tryd.underlying22 hval
  obtain ⟨fuel, hf⟩ := hd
  rcases open_slice Tryd.underlying22 hf with ⟨hcs, _⟩ | ⟨ad, len', cap', m, n, D, Pl, hcs, _, hl, hm, hmm, _, hel⟩
  · simp [Value.cells] at hcs
    obtain ⟨rfl, rfl, rfl⟩ := hcs
    exact ⟨none, 0, 0, 0, [], rfl, by simp, fun h => absurd rfl h, fun i t h => by simp at h, fun t h => by simp at h, fun _ => rfl⟩
  · simp [Value.cells] at hcs
    obtain ⟨rfl, rfl, rfl⟩ := hcs
    have hlm : len ≤ m := by rw [hmm]; split <;> omega
    have each : ∀ i, i < len → ∃ t : It, (∀ j u, t.cells[j]? = some u → W.cell? ((ad.add (i * 3)).add j) = some u) ∧ t.x < 18446744073709551616 ∧ -9223372036854775808 ≤ t.n ∧ t.n ≤ 9223372036854775807 := by
      intro i hi
      obtain ⟨cs', h1, h2⟩ := hel i (by omega)
      rw [cellsIt] at h1
      obtain ⟨_, hlen, hc⟩ := World.cells?_some h1
      obtain ⟨y0, y1, y2, n', _, _, t0, t1, t2⟩ := trod_struct3 Tryd.underlying30 h2
      simp only [cellsU64, cellsInt, cellsBool] at t0 t1 t2
      match cs', hlen with
      | [u0, u1, u2], _ =>
        obtain ⟨z0, e0, _, w0⟩ := DataW.trod_int Tryd.underlying28 t0
        obtain ⟨z1, e1, _, w1⟩ := DataW.trod_int Tryd.underlying3 t1
        obtain ⟨z2, e2, _⟩ := DataW.trod_bool Tryd.underlying4 t2
        simp at e0 e1 e2
        have b0 := bounds_u64 w0
        have b1 := bounds_i64 w1
        refine ⟨⟨z0.toNat, z1, z2⟩, fun j u hu => ?_, by simp only; omega, b1.1, b1.2⟩
        have hz : ((z0.toNat : Nat) : Int) = z0 := by omega
        simp only [It.cells, hz] at hu
        have hj : j < 3 := by have := (List.getElem?_eq_some_iff.1 hu).1; simpa using this
        rw [hc j hj, ← hu, e0, e1, e2]
    haveI : Inhabited It := ⟨⟨0, 0, false⟩⟩
    obtain ⟨T, hT⟩ := choose_lt each
    have hget : ∀ i t, ((List.range len).map T)[i]? = some t → i < len ∧ t = T i := by
      intro i t h
      by_cases hi : i < len
      · simp [hi] at h; exact ⟨hi, h.symm⟩
      · simp [hi] at h
    have hin : ∀ t ∈ (List.range len).map T, t.x < 18446744073709551616 ∧ -9223372036854775808 ≤ t.n ∧ t.n ≤ 9223372036854775807 := by
      intro t ht
      obtain ⟨i, hi, rfl⟩ := List.mem_map.1 ht
      exact (hT i (List.mem_range.1 hi)).2
    have hlen : ((List.range len).map T).length = len := by simp
    rcases Nat.eq_zero_or_pos len with h0 | h0
    · subst h0
      exact ⟨some ad, 0, 0, cap, [], rfl, by simp, fun h => absurd rfl h, fun i t h => by simp at h, fun t h => by simp at h, fun _ => rfl⟩
    · obtain ⟨b, off, spot⟩ := ad
      have hc0 := (hT 0 h0).1 0 _ rfl
      have hspot : spot = none := by simpa [Addr.add] using World.cell?_spot hc0
      subst hspot
      have hbl : b < W.heap.size := by have := World.block_lt_of_cell? _ _ hc0; simpa [Addr.add] using this
      refine ⟨_, b, off, cap, (List.range len).map T, by rw [hlen], by rw [hlen]; omega, fun _ => ⟨rfl, hbl⟩, fun i t ht => ?_, hin, fun h => absurd (congrArg List.length h) (by simp; omega)⟩
      obtain ⟨hi, rfl⟩ := hget i t ht
      have hc := (hT i hi).1
      have hadd : ∀ j, ((⟨b, off, none⟩ : Addr).add (i * 3)).add j = ⟨b, off + i * 3 + j, none⟩ := fun j => by rw [add_plain, add_plain]
      exact ⟨by rw [← hc 0 _ rfl, hadd]; rfl, by rw [← hc 1 _ rfl, hadd], by rw [← hc 2 _ rfl, hadd]⟩
end Go.Proofs.YtijionbpljhjhaaDoor
