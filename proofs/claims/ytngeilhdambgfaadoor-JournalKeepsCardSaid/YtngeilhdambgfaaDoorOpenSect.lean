/- A sector that came in, opened. -/
import Derived.Test.YtngeilhdambgfaaDoorStAt
import Derived.Deep.Slices
import Derived.Deep.Strs
import Derived.OpenShut
namespace Go.Proofs.YtngeilhdambgfaaDoor
open Go.RowKit Go.Deep Go.ChangeShapes Go.WideShapes

set_option maxRecDepth 100000 in
/-- a cell that is a slice of bytes -/
theorem open_cell {H : Type} {enc : TypeId × Value → H} {W : World} {spare : Nat → Bool} {held : Bool} {fuel : Nat} {cs : List Value} {x : DataW H × List MemPlace} (h : DataW.trod enc Tryd.prog W 0 spare held fuel 33 cs = some x) :
    ∃ u l, cs = [u] ∧ Lies W u l ∧ Fits u ∧ (∀ x ∈ l, x < 256) ∧ l.length ≤ maxLen := by
  rcases open_ints Tryd.underlying33 Tryd.underlying5 cellsU8 h with ⟨rfl, _⟩ | ⟨ad, len, cap, zs, rfl, _, hl, hm, hz, _, hcell, hw⟩
  · exact ⟨_, [], rfl, .inl ⟨rfl, rfl⟩, fits_slice (Nat.le_refl _), fun x h => by simp at h, by simp⟩
  · have hlz : len ≤ zs.length := by rw [hz]; split <;> omega
    have hlen : ((zs.take len).map Int.toNat).length = len := by rw [List.length_map, List.length_take]; omega
    have hin : ∀ x ∈ (zs.take len).map Int.toNat, x < 256 := by
      intro x hx
      obtain ⟨z, hz1, rfl⟩ := List.mem_map.1 hx
      have := bounds_u8 (hw z (List.mem_of_mem_take hz1))
      omega
    refine ⟨_, (zs.take len).map Int.toNat, rfl, ?_, fits_slice hl, hin, by rw [hlen]; omega⟩
    rcases Nat.eq_zero_or_pos len with h0 | h0
    · subst h0; exact .inr (.inl ⟨ad, cap, rfl, by simp⟩)
    · obtain ⟨b, off, rfl, hc⟩ := ints_at hcell (by omega)
      refine .inr (.inr ⟨b, off, cap, by rw [hlen], fun j hj => ?_⟩)
      rw [hlen] at hj
      rw [hc j (by omega)]
      have hjz : j < zs.length := by omega
      have hwj := bounds_u8 (hw zs[j] (List.getElem_mem hjz))
      have e1 : zs.getD j 0 = zs[j] := by simp [List.getD, List.getElem?_eq_getElem hjz]
      have e2 : ((zs.take len).map Int.toNat).getD j 0 = zs[j].toNat := by simp [List.getD, hj, List.getElem?_eq_getElem hjz]
      rw [e1, e2]
      congr 2; omega
theorem cellsU32 : Tryd.prog.cellsOf 28 = 1 := by kernel_rfl
theorem cellsBoo : Tryd.prog.cellsOf 4 = 1 := by kernel_rfl
theorem cellsSl : Tryd.prog.cellsOf 33 = 1 := by kernel_rfl
theorem cellsSt : Tryd.prog.cellsOf 75 = 2 := by kernel_rfl
theorem cellsSc : Tryd.prog.cellsOf 77 = 4 := by kernel_rfl
set_option maxRecDepth 100000 in
theorem open_sect {H : Type} {enc : TypeId × Value → H} {W : World} {spare : Nat → Bool} {held : Bool} {v : Value} {d : DataW H} {ps : List MemPlace} {r : Reach} {b0 : Nat} (hval : Value.okWide Tryd.prog W r b0 77 v)
    (hd : DataW.Trod enc Tryd.prog W 0 spare held 77 v d ps) : ∃ s u, v = secV s u ∧ Lies W u s.data ∧ Fits u ∧ s.In ∧ s.data.length ≤ maxLen := by
  obtain ⟨cs, rfl, hcs⟩ := okWide_struct Tryd.underlying77 hval
  obtain ⟨fuel, hf⟩ := hd
  rw [cellsSc] at hcs
  obtain ⟨y0, y1, y2, n, _, _, t0, t1, t2⟩ := trod_struct3 Tryd.underlying77 hf
  simp only [cellsSt, cellsBoo, cellsSl] at t0 t1 t2
  obtain ⟨z0, z1, n', _, _, t3, t4⟩ := trod_struct2 Tryd.underlying75 t0
  simp only [cellsU32] at t3 t4
  obtain ⟨cs, rfl⟩ : ∃ l : List Value, cs = l.toArray := ⟨cs.toList, by simp⟩
  match cs, hcs with
  | [u0, u1, u2, u3], _ =>
    obtain ⟨x0, e0, _, w0⟩ := DataW.trod_int Tryd.underlying28 t3
    obtain ⟨x1, e1, _, w1⟩ := DataW.trod_int Tryd.underlying28 t4
    obtain ⟨x2, e2, _⟩ := DataW.trod_bool Tryd.underlying4 t1
    obtain ⟨u, l, e3, h1, h2, h3, h4⟩ := open_cell t2
    simp [Value.cells] at e0 e1 e2 e3
    subst e0 e1 e2 e3
    have b0 := bounds_u32 w0
    have b1 := bounds_u32 w1
    refine ⟨⟨x0.toNat, x1.toNat, x2, l⟩, u3, ?_, h1, h2, ⟨by simp only; omega, by simp only; omega, h3⟩, h4⟩
    unfold secV
    have p0 : ((x0.toNat : Nat) : Int) = x0 := by omega
    have p1 : ((x1.toNat : Nat) : Int) = x1 := by omega
    simp only [p0, p1]
end Go.Proofs.YtngeilhdambgfaaDoor
