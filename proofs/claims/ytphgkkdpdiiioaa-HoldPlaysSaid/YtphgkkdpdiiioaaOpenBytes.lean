/- A slice of bytes that came in, opened. -/
import Derived.Test.YtphgkkdpdiiioaaBase
import Derived.OpenShut
import Derived.Deep.Slices
namespace Go.Proofs.Ytphgkkdpdiiioaa
open Go.RowKit Go.Deep Go.ChangeShapes Go.WideShapes

theorem cellsU8 : Try.prog.cellsOf 5 = 1 := by kernel_rfl

set_option maxRecDepth 100000 in
theorem open_bytes {H : Type} {enc : TypeId × Value → H} {W : World} {spare : Nat → Bool} {held : Bool} {v : Value} {d : DataW H} {ps : List MemPlace} {r : Reach} {b0 : Nat} (hval : Value.okWide Try.prog W r b0 46 v)
    (hd : DataW.Trod enc Try.prog W 0 spare held 46 v d ps) :
    ∃ a b off cap, ∃ l : List Nat, v = .slice a l.length cap ∧ l.length ≤ maxLen ∧ (l ≠ [] → a = some ⟨b, off, none⟩ ∧ b < W.heap.size) ∧ BytesAt W b off l ∧ (∀ x ∈ l, x < 256) ∧ (l = [] → b = 0) ∧ (l = [] → a = none → cap = 0) := by
  obtain ⟨a, len, cap, rfl⟩ := okWide_slice Try.underlying46 hval
  obtain ⟨fuel, hf⟩ := hd
  rcases open_ints Try.underlying46 Try.underlying5 cellsU8 hf with ⟨hcs, _⟩ | ⟨ad, len', cap', zs, hcs, _, hl, hm, hz, _, hcell, hw⟩
  · simp [Value.cells] at hcs
    obtain ⟨rfl, rfl, rfl⟩ := hcs
    exact ⟨none, 0, 0, 0, [], rfl, by simp, fun h => absurd rfl h, fun j h => by simp at h, fun t h => by simp at h, fun _ => rfl, fun _ _ => rfl⟩
  · simp [Value.cells] at hcs
    obtain ⟨rfl, rfl, rfl⟩ := hcs
    have hlz : len ≤ zs.length := by rw [hz]; split <;> omega
    have hlen : ((zs.take len).map Int.toNat).length = len := by rw [List.length_map, List.length_take]; omega
    have hin : ∀ x ∈ (zs.take len).map Int.toNat, x < 256 := by
      intro x hx
      obtain ⟨z, hz1, rfl⟩ := List.mem_map.1 hx
      have := bounds_u8 (hw z (List.mem_of_mem_take hz1))
      omega
    rcases Nat.eq_zero_or_pos len with h0 | h0
    · subst h0
      exact ⟨some ad, 0, 0, cap, [], rfl, by simp, fun h => absurd rfl h, fun j h => by simp at h, fun t h => by simp at h, fun _ => rfl, fun _ h => by cases h⟩
    · obtain ⟨b, off, rfl, hc⟩ := ints_at hcell (by omega)
      have hbl : b < W.heap.size := World.block_lt_of_cell? _ _ (hc 0 (by omega))
      refine ⟨_, b, off, cap, (zs.take len).map Int.toNat, by rw [hlen], by rw [hlen]; omega, fun _ => ⟨rfl, hbl⟩, fun j hj => ?_, hin, fun h => absurd (congrArg List.length h) (by rw [hlen]; simp; omega), fun _ h => by cases h⟩
      rw [hlen] at hj
      rw [hc j (by omega)]
      have hjz : j < zs.length := by omega
      have hwj := bounds_u8 (hw zs[j] (List.getElem_mem hjz))
      have e1 : zs.getD j 0 = zs[j] := by simp [List.getD, List.getElem?_eq_getElem hjz]
      have e2 : ((zs.take len).map Int.toNat).getD j 0 = zs[j].toNat := by simp [List.getD, hj, List.getElem?_eq_getElem hjz]
      rw [e1, e2]
      congr 2; omega

/-- so they are bytes that lie -/
theorem lies_of {w : World} {a : Option Addr} {b off cap : Nat} {l : List Nat} (ha : l ≠ [] → a = some ⟨b, off, none⟩ ∧ b < w.heap.size) (hi : BytesAt w b off l) (hn : l = [] → a = none → cap = 0) : Lies w (.slice a l.length cap) l := by
  by_cases h : l = []
  · cases hab : a with
    | none => exact .inl ⟨by rw [hn h hab, h]; rfl, h⟩
    | some ad => exact .inr (.inl ⟨ad, cap, by rw [h]; rfl, h⟩)
  · exact .inr (.inr ⟨b, off, cap, by rw [(ha h).1], hi⟩)
set_option maxRecDepth 100000 in
/-- a slice of bytes that came in, whatever its form -/
theorem open_lies {H : Type} {enc : TypeId × Value → H} {W : World} {spare : Nat → Bool} {held : Bool} {v : Value} {d : DataW H} {ps : List MemPlace} {r : Reach} {b0 : Nat} (hval : Value.okWide Try.prog W r b0 46 v)
    (hd : DataW.Trod enc Try.prog W 0 spare held 46 v d ps) : ∃ l : List Nat, Lies W v l ∧ (∀ x ∈ l, x < 256) ∧ l.length ≤ maxLen := by
  obtain ⟨a, b, off, cap, l, rfl, hm, ha, hi, hx, _, hn⟩ := open_bytes hval hd
  exact ⟨l, lies_of ha hi hn, hx, hm⟩
end Go.Proofs.Ytphgkkdpdiiioaa
