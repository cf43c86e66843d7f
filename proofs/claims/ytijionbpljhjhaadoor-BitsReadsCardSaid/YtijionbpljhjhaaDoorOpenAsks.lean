/- A slice of bytes, and one of asks, that came in, opened. -/
import Derived.Test.YtijionbpljhjhaaDoorBitsReadsA
import Derived.OpenShut
import Derived.Deep.Slices
import Derived.ChangeSame
namespace Go.Proofs.YtijionbpljhjhaaDoor
open Go.RowKit Go.Deep Go.ChangeShapes Go.WideShapes

theorem cellsAk : Tryd.prog.cellsOf 48 = 2 := by kernel_rfl
theorem cellsInt' : Tryd.prog.cellsOf 3 = 1 := by kernel_rfl
theorem cellsBool' : Tryd.prog.cellsOf 4 = 1 := by kernel_rfl
theorem cellsU8 : Tryd.prog.cellsOf 5 = 1 := by kernel_rfl

theorem open_bytes {H : Type} {enc : TypeId × Value → H} {W : World} {spare : Nat → Bool} {held : Bool} {v : Value} {d : DataW H} {ps : List MemPlace} {r : Reach} {b0 : Nat} (hval : Value.okWide Tryd.prog W r b0 25 v)
    (hd : DataW.Trod enc Tryd.prog W 0 spare held 25 v d ps) :
    ∃ a b off cap, ∃ l : List Nat, v = .slice a l.length cap ∧ l.length ≤ maxLen ∧ (l ≠ [] → a = some ⟨b, off, none⟩ ∧ b < W.heap.size) ∧ BytesAt W b off l ∧ (∀ x ∈ l, x < 256) ∧ (l = [] → b = 0) ∧ (l = [] → a = none → cap = 0) := by
  obtain ⟨a, len, cap, rfl⟩ := okWide_slice Tryd.underlying25 hval
  obtain ⟨fuel, hf⟩ := hd
  rcases open_ints Tryd.underlying25 Tryd.underlying5 cellsU8 hf with ⟨hcs, _⟩ | ⟨ad, len', cap', zs, hcs, _, hl, hm, hz, _, hcell, hw⟩
  · simp [Value.cells] at hcs
    obtain ⟨rfl, rfl, rfl⟩ := hcs
    exact ⟨none, 0, 0, 0, [], rfl, by simp, fun h => absurd rfl h, fun j h => by simp at h, fun t h => by simp at h, fun _ => rfl, fun _ _ => rfl⟩
  · simp [Value.cells] at hcs
    obtain ⟨rfl, rfl, rfl⟩ := hcs
    have hlz : len ≤ zs.length := by rw [hz]; split <;> omega
    have hlen : ((zs.take len).map Int.toNat).length = len := by rw [List.length_map, List.length_take]; omega
    have hin : ∀ x ∈ (zs.take len).map Int.toNat, x < 256 := by
      intro x hx
      obtain ⟨z, hz1, rfl⟩ := List.mem_map.1 hx
      have := bounds_u8 (hw z (List.mem_of_mem_take hz1))
      omega
    rcases Nat.eq_zero_or_pos len with h0 | h0
    · subst h0
      exact ⟨some ad, 0, 0, cap, [], rfl, by simp, fun h => absurd rfl h, fun j h => by simp at h, fun t h => by simp at h, fun _ => rfl, fun _ h => by cases h⟩
    · obtain ⟨b, off, rfl, hc⟩ := ints_at hcell (by omega)
      have hbl : b < W.heap.size := World.block_lt_of_cell? _ _ (hc 0 (by omega))
      refine ⟨_, b, off, cap, (zs.take len).map Int.toNat, by rw [hlen], by rw [hlen]; omega, fun _ => ⟨rfl, hbl⟩, fun j hj => ?_, hin, fun h => absurd (congrArg List.length h) (by rw [hlen]; simp; omega), fun _ h => by cases h⟩
      rw [hlen] at hj
      rw [hc j (by omega)]
      have hjz : j < zs.length := by omega
      have hwj := bounds_u8 (hw zs[j] (List.getElem_mem hjz))
      have e1 : zs.getD j 0 = zs[j] := by simp [List.getD, List.getElem?_eq_getElem hjz]
      have e2 : ((zs.take len).map Int.toNat).getD j 0 = zs[j].toNat := by simp [List.getD, hj, List.getElem?_eq_getElem hjz]
      rw [e1, e2]
      congr 2; omega

theorem open_asks {H : Type} {enc : TypeId × Value → H} {W : World} {spare : Nat → Bool} {held : Bool} {v : Value} {d : DataW H} {ps : List MemPlace} {r : Reach} {b0 : Nat} (hval : Value.okWide Tryd.prog W r b0 46 v)
    (hd : DataW.Trod enc Tryd.prog W 0 spare held 46 v d ps) :
    ∃ a b off cap, ∃ l : List Ak, v = .slice a l.length cap ∧ l.length ≤ maxLen ∧ (l ≠ [] → a = some ⟨b, off, none⟩ ∧ b < W.heap.size) ∧ AsksAt W b off l ∧
      (∀ t ∈ l, -9223372036854775808 ≤ t.n ∧ t.n ≤ 9223372036854775807) ∧ (l = [] → b = 0) := by
  obtain ⟨a, len, cap, rfl⟩ := okWide_slice Tryd.underlying46 hval
  obtain ⟨fuel, hf⟩ := hd
  rcases open_slice Tryd.underlying46 hf with ⟨hcs, _⟩ | ⟨ad, len', cap', m, n, D, Pl, hcs, _, hl, hm, hmm, _, hel⟩
  · simp [Value.cells] at hcs
    obtain ⟨rfl, rfl, rfl⟩ := hcs
    exact ⟨none, 0, 0, 0, [], rfl, by simp, fun h => absurd rfl h, fun i t h => by simp at h, fun t h => by simp at h, fun _ => rfl⟩
  · simp [Value.cells] at hcs
    obtain ⟨rfl, rfl, rfl⟩ := hcs
    have hlm : len ≤ m := by rw [hmm]; split <;> omega
    have each : ∀ i, i < len → ∃ t : Ak, (∀ j u, t.cells[j]? = some u → W.cell? ((ad.add (i * 2)).add j) = some u) ∧ -9223372036854775808 ≤ t.n ∧ t.n ≤ 9223372036854775807 := by
      intro i hi
      obtain ⟨cs', h1, h2⟩ := hel i (by omega)
      rw [cellsAk] at h1
      obtain ⟨_, hlen, hc⟩ := World.cells?_some h1
      obtain ⟨y0, y1, n', _, _, t0, t1⟩ := trod_struct2 Tryd.underlying48 h2
      simp only [cellsInt', cellsBool'] at t0 t1
      match cs', hlen with
      | [u0, u1], _ =>
        obtain ⟨z0, e0, _, w0⟩ := DataW.trod_int Tryd.underlying3 t0
        obtain ⟨z1, e1, _⟩ := DataW.trod_bool Tryd.underlying4 t1
        simp at e0 e1
        have b0 := bounds_i64 w0
        refine ⟨⟨z0, z1⟩, fun j u hu => ?_, b0.1, b0.2⟩
        simp only [Ak.cells] at hu
        have hj : j < 2 := by have := (List.getElem?_eq_some_iff.1 hu).1; simpa using this
        rw [hc j hj, ← hu, e0, e1]
    haveI : Inhabited Ak := ⟨⟨0, false⟩⟩
    obtain ⟨T, hT⟩ := choose_lt each
    have hget : ∀ i t, ((List.range len).map T)[i]? = some t → i < len ∧ t = T i := by
      intro i t h
      by_cases hi : i < len
      · simp [hi] at h; exact ⟨hi, h.symm⟩
      · simp [hi] at h
    have hin : ∀ t ∈ (List.range len).map T, -9223372036854775808 ≤ t.n ∧ t.n ≤ 9223372036854775807 := by
      intro t ht
      obtain ⟨i, hi, rfl⟩ := List.mem_map.1 ht
      exact (hT i (List.mem_range.1 hi)).2
    have hlen : ((List.range len).map T).length = len := by simp
    rcases Nat.eq_zero_or_pos len with h0 | h0
    · subst h0
      exact ⟨some ad, 0, 0, cap, [], rfl, by simp, fun h => absurd rfl h, fun i t h => by simp at h, fun t h => by simp at h, fun _ => rfl⟩
    · obtain ⟨b, off, spot⟩ := ad
      have hc0 := (hT 0 h0).1 0 _ rfl
      have hspot : spot = none := by simpa [Addr.add] using World.cell?_spot hc0
      subst hspot
      have hbl : b < W.heap.size := by have := World.block_lt_of_cell? _ _ hc0; simpa [Addr.add] using this
      refine ⟨_, b, off, cap, (List.range len).map T, by rw [hlen], by rw [hlen]; omega, fun _ => ⟨rfl, hbl⟩, fun i t ht => ?_, hin, fun h => absurd (congrArg List.length h) (by simp; omega)⟩
      obtain ⟨hi, rfl⟩ := hget i t ht
      have hc := (hT i hi).1
      have hadd : ∀ j, ((⟨b, off, none⟩ : Addr).add (i * 2)).add j = ⟨b, off + i * 2 + j, none⟩ := fun j => by rw [add_plain, add_plain]
      exact ⟨by rw [← hc 0 _ rfl, hadd]; rfl, by rw [← hc 1 _ rfl, hadd]⟩
end Go.Proofs.YtijionbpljhjhaaDoor
