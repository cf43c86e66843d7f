/- OpenInts, HoLies, OpenRange, HoOpen, OpenPol: laid into one. -/
import Derived.Test.YthbdchleppbidaaGreatMB
import Derived.ChangeMaps5
import Derived.Deep.Slices
import Derived.Deep.Strs
import Derived.OpenShut
import Derived.Test.YthbdchleppbidaaGreatMH
import Derived.Test.YthbdchleppbidaaGreatMA
import Derived.Test.YthbdchleppbidaaGreatMC
import Derived.Test.YthbdchleppbidaaGreatMP
/- A slice of int64 that came in, opened. -/
namespace Go.Proofs.YthbdchleppbidaaGreat
open Go.RowKit Go.Deep Go.ChangeShapes Go.WideShapes

/-- a slice of these numbers -/
def TkLies (w : World) (v : Value) (l : List Int) : Prop := ∃ a b off cap, v = .slice a l.length cap ∧ (l ≠ [] → a = some ⟨b, off, none⟩) ∧ ∀ i x, l[i]? = some x → w.cell? ⟨b, off + i, none⟩ = some (.int .i64 x)
theorem TkLies.keep {w w' : World} {v : Value} {l : List Int} (h : TkLies w v l) (hb : Below w.heap.size w w') : TkLies w' v l := by
  obtain ⟨a, b, off, cap, h1, h2, h3⟩ := h
  exact ⟨a, b, off, cap, h1, h2, fun i x hx => (hb.cell (p := ⟨b, off + i, none⟩) (cell_lt (h3 i x hx))).trans (h3 i x hx)⟩
theorem cellsTk : Tryz.prog.cellsOf 2 = 1 := by kernel_rfl
set_option maxRecDepth 1000000 in
theorem open_ints {H : Type} {enc : TypeId × Value → H} {W : World} {spare : Nat → Bool} {held : Bool} {v : Value} {d : DataW H} {ps : List MemPlace} {r : Reach} {b0 : Nat} (hval : Value.okWide Tryz.prog W r b0 51 v)
    (hd : DataW.Trod enc Tryz.prog W 0 spare held 51 v d ps) : ∃ l : List Int, TkLies W v l ∧ (∀ x ∈ l, -9223372036854775808 ≤ x ∧ x ≤ 9223372036854775807) ∧ l.length ≤ maxLen := by
  obtain ⟨a, len, cap, rfl⟩ := okWide_slice Tryz.underlying51 hval
  obtain ⟨fuel, hf⟩ := hd
  rcases open_slice Tryz.underlying51 hf with ⟨hcs, _⟩ | ⟨ad, len', cap', m, n, D, Pl, hcs, _, hl, hm, hmm, _, hel⟩
  · simp [Value.cells] at hcs
    obtain ⟨rfl, rfl, rfl⟩ := hcs
    exact ⟨[], ⟨none, 0, 0, 0, rfl, fun h => absurd rfl h, fun i x h => by simp at h⟩, fun x h => by simp at h, by simp⟩
  · simp [Value.cells] at hcs
    obtain ⟨rfl, rfl, rfl⟩ := hcs
    have hlm : len ≤ m := by rw [hmm]; split <;> omega
    have each : ∀ i, i < len → ∃ t : Int, W.cell? ((ad.add (i * 1)).add 0) = some (.int .i64 t) ∧ -9223372036854775808 ≤ t ∧ t ≤ 9223372036854775807 := by
      intro i hi
      obtain ⟨cs', h1, h2⟩ := hel i (by omega)
      rw [cellsTk] at h1
      obtain ⟨_, hlen, hc⟩ := World.cells?_some h1
      match cs', hlen with
      | [u0], _ =>
        obtain ⟨z0, e0, _, w0⟩ := DataW.trod_int Tryz.underlying2 h2
        have b0 := bounds_i64 w0
        have e1 := hc 0 (by omega)
        simp at e0
        subst e0
        exact ⟨z0, by simpa using e1, b0.1, b0.2⟩
    obtain ⟨T, hT⟩ := choose_lt each
    have hget : ∀ i t, ((List.range len).map T)[i]? = some t → i < len ∧ t = T i := by
      intro i t h
      by_cases hi : i < len
      · simp [hi] at h; exact ⟨hi, h.symm⟩
      · simp [hi] at h
    have hin : ∀ t ∈ (List.range len).map T, -9223372036854775808 ≤ t ∧ t ≤ 9223372036854775807 := by
      intro t ht
      obtain ⟨i, hi, rfl⟩ := List.mem_map.1 ht
      exact (hT i (List.mem_range.1 hi)).2
    have hlen : ((List.range len).map T).length = len := by simp
    rcases Nat.eq_zero_or_pos len with h0 | h0
    · subst h0
      exact ⟨[], ⟨some ad, 0, 0, cap, rfl, fun h => absurd rfl h, fun i t h => by simp at h⟩, fun t h => by simp at h, by simp⟩
    · obtain ⟨b, off, spot⟩ := ad
      have hc0 := (hT 0 h0).1
      have hspot : spot = none := by simpa [Addr.add] using World.cell?_spot hc0
      subst hspot
      refine ⟨(List.range len).map T, ⟨_, b, off, cap, by rw [hlen], fun _ => rfl, fun i t ht => ?_⟩, hin, by rw [hlen]; omega⟩
      obtain ⟨hi, rfl⟩ := hget i t ht
      have h0 := (hT i hi).1
      rw [add_plain, Nat.mul_one, add_plain, Nat.add_zero] at h0
      exact h0
end Go.Proofs.YthbdchleppbidaaGreat
/- Holds wherever they lie. No function of the program. -/
namespace Go.Proofs.YthbdchleppbidaaGreat
open Go.RowKit

/-- holds, wherever they lie -/
def HLies (w : World) (v : Value) (l : List Hld) : Prop := ∃ a b off c, v = .slice a l.length c ∧ (l ≠ [] → a = some ⟨b, off, none⟩) ∧ ∀ i x, l[i]? = some x → ∀ j u, x.cells[j]? = some u → w.cell? ⟨b, off + i * 4 + j, none⟩ = some u
theorem HLies.beyond {w w' : World} {v : Value} {l : List Hld} (h : HLies w v l) (hb : Below w.heap.size w w') : HLies w' v l := by
  obtain ⟨a, b, off, c, h1, h2, h3⟩ := h
  exact ⟨a, b, off, c, h1, h2, fun i x hx j u hu => (hb.cell (p := ⟨b, _, none⟩) (cell_lt (h3 i x hx j u hu))).trans (h3 i x hx j u hu)⟩
theorem HLies.slice {w : World} {v : Value} {l : List Hld} (h : HLies w v l) : ∃ a c, v = .slice a l.length c := by
  obtain ⟨a, b, off, c, h1, _⟩ := h
  exact ⟨a, c, h1⟩
end Go.Proofs.YthbdchleppbidaaGreat
/- A range that came in, opened. -/
namespace Go.Proofs.YthbdchleppbidaaGreat
open Go.RowKit Go.Deep Go.ChangeShapes Go.WideShapes

theorem cellsRgI : Tryz.prog.cellsOf 2 = 1 := by kernel_rfl
theorem cellsRange : Tryz.prog.cellsOf 41 = 2 := by kernel_rfl
set_option maxRecDepth 100000 in
theorem open_range {H : Type} {enc : TypeId × Value → H} {W : World} {spare : Nat → Bool} {held : Bool} {v : Value} {d : DataW H} {ps : List MemPlace} {r : Reach} {b0 : Nat} (hval : Value.okWide Tryz.prog W r b0 41 v)
    (hd : DataW.Trod enc Tryz.prog W 0 spare held 41 v d ps) : ∃ a b : Int, v = .agg #[.int .i64 a, .int .i64 b] ∧ (-9223372036854775808 ≤ a ∧ a ≤ 9223372036854775807) ∧ -9223372036854775808 ≤ b ∧ b ≤ 9223372036854775807 := by
  obtain ⟨cs, rfl, hcs⟩ := okWide_struct Tryz.underlying41 hval
  obtain ⟨fuel, hf⟩ := hd
  rw [cellsRange] at hcs
  obtain ⟨y0, y1, n, _, _, t0, t1⟩ := trod_struct2 Tryz.underlying41 hf
  simp only [cellsRgI] at t0 t1
  obtain ⟨cs, rfl⟩ : ∃ l : List Value, cs = l.toArray := ⟨cs.toList, by simp⟩
  match cs, hcs with
  | [u0, u1], _ =>
    obtain ⟨a, e0, _, ha⟩ := DataW.trod_int Tryz.underlying2 t0
    obtain ⟨b, e1, _, hb⟩ := DataW.trod_int Tryz.underlying2 t1
    simp [Value.cells] at e0 e1
    subst e0 e1
    exact ⟨a, b, rfl, bounds_i64 ha, bounds_i64 hb⟩
end Go.Proofs.YthbdchleppbidaaGreat
/- Holds, and acts on holds, that came in, opened. -/
namespace Go.Proofs.YthbdchleppbidaaGreat
open Go.RowKit Go.Deep Go.ChangeShapes Go.WideShapes

section
variable {H : Type} {enc : TypeId × Value → H} {w : World} {base : Nat} {spare : Nat → Bool} {held : Bool} {P : Program}
theorem trod_structH3 {t : TypeId} {f0 f1 f2 : Field} {fuel : Nat} {cs : List Value} {x : DataW H × List MemPlace} (ht : P.underlying t = some (.struct #[f0, f1, f2])) (h : DataW.trod enc P w base spare held fuel t cs = some x) :
    ∃ y0 y1 y2 n, DataW.trod enc P w base spare held n f0.type ((cs.drop f0.offset).take (P.cellsOf f0.type)) = some y0 ∧ DataW.trod enc P w base spare held n f1.type ((cs.drop f1.offset).take (P.cellsOf f1.type)) = some y1 ∧
      DataW.trod enc P w base spare held n f2.type ((cs.drop f2.offset).take (P.cellsOf f2.type)) = some y2 := by
  obtain ⟨xs, n, _, rfl, hl, hlen, hf⟩ := DataW.trod_struct ht h
  match xs, hlen with
  | [y0, y1, y2], _ => exact ⟨y0, y1, y2, n, by simpa using hf 0 f0 rfl, by simpa using hf 1 f1 rfl, by simpa using hf 2 f2 rfl⟩
end
theorem cellsHo : Tryz.prog.cellsOf 60 = 4 := by kernel_rfl
theorem cellsHs : Tryz.prog.cellsOf 9 = 1 := by kernel_rfl
set_option maxRecDepth 1000000 in
/-- four cells that are a hold -/
theorem open_hold4 {H : Type} {enc : TypeId × Value → H} {W : World} {spare : Nat → Bool} {held : Bool} {fuel : Nat} {u0 u1 u2 u3 : Value} {x : DataW H × List MemPlace} (h : DataW.trod enc Tryz.prog W 0 spare held fuel 60 [u0, u1, u2, u3] = some x) :
    ∃ y : Hld, u0 = .string y.name ∧ u1 = .string y.ser ∧ u2 = .int .i64 y.a ∧ u3 = .int .i64 y.b ∧ y.In := by
  obtain ⟨y0, y1, y2, n, t0, t1, t2⟩ := trod_structH3 Tryz.underlying60 h
  simp only [cellsHs, cellsRange] at t0 t1 t2
  obtain ⟨z0, e0, _, w0⟩ := DataW.trod_string Tryz.underlying9 t0
  obtain ⟨z1, e1, _, w1⟩ := DataW.trod_string Tryz.underlying9 t1
  obtain ⟨x0, x1, nn, _, _, s0, s1⟩ := trod_struct2 Tryz.underlying41 t2
  simp only [cellsRgI] at s0 s1
  obtain ⟨z2, e2, _, w2⟩ := DataW.trod_int Tryz.underlying2 s0
  obtain ⟨z3, e3, _, w3⟩ := DataW.trod_int Tryz.underlying2 s1
  simp at e0 e1 e2 e3
  exact ⟨⟨z0, z1, z2, z3⟩, e0, e1, e2, e3, w0, w1, (bounds_i64 w2).1, (bounds_i64 w2).2, (bounds_i64 w3).1, (bounds_i64 w3).2⟩
set_option maxRecDepth 1000000 in
theorem open_holds {H : Type} {enc : TypeId × Value → H} {W : World} {spare : Nat → Bool} {held : Bool} {v : Value} {d : DataW H} {ps : List MemPlace} {r : Reach} {b0 : Nat} (hval : Value.okWide Tryz.prog W r b0 23 v)
    (hd : DataW.Trod enc Tryz.prog W 0 spare held 23 v d ps) : ∃ L : List Hld, HLies W v L ∧ (∀ x ∈ L, x.In) ∧ L.length ≤ maxLen := by
  obtain ⟨a, len, cap, rfl⟩ := okWide_slice Tryz.underlying23 hval
  obtain ⟨fuel, hf⟩ := hd
  rcases open_slice Tryz.underlying23 hf with ⟨hcs, _⟩ | ⟨ad, len', cap', m, n, D, Pl, hcs, _, hl, hm, hmm, _, hel⟩
  · simp [Value.cells] at hcs
    obtain ⟨rfl, rfl, rfl⟩ := hcs
    exact ⟨[], ⟨none, 0, 0, 0, rfl, fun h => absurd rfl h, fun i x h => by simp at h⟩, fun x h => by simp at h, by simp⟩
  · simp [Value.cells] at hcs
    obtain ⟨rfl, rfl, rfl⟩ := hcs
    have hlm : len ≤ m := by rw [hmm]; split <;> omega
    have each : ∀ i, i < len → ∃ x : Hld, (∀ j u, x.cells[j]? = some u → W.cell? ((ad.add (i * 4)).add j) = some u) ∧ x.In := by
      intro i hi
      obtain ⟨cs', h1, h2⟩ := hel i (by omega)
      rw [cellsHo] at h1
      obtain ⟨_, hlen, hc⟩ := World.cells?_some h1
      match cs', hlen with
      | [u0, u1, u2, u3], _ =>
        obtain ⟨y, e0, e1, e2, e3, hin⟩ := open_hold4 h2
        refine ⟨y, fun j u hu => ?_, hin⟩
        have hj : j < 4 := by have := (List.getElem?_eq_some_iff.1 hu).1; simpa [Hld.cells] using this
        rw [hc j hj, ← hu, e0, e1, e2, e3]
        rfl
    obtain ⟨T, hT⟩ := choose_lt each
    have hget : ∀ i t, ((List.range len).map T)[i]? = some t → i < len ∧ t = T i := by
      intro i t h
      by_cases hi : i < len
      · simp [hi] at h; exact ⟨hi, h.symm⟩
      · simp [hi] at h
    have hin : ∀ t ∈ (List.range len).map T, t.In := by
      intro t ht
      obtain ⟨i, hi, rfl⟩ := List.mem_map.1 ht
      exact (hT i (List.mem_range.1 hi)).2
    have hlen : ((List.range len).map T).length = len := by simp
    rcases Nat.eq_zero_or_pos len with h0 | h0
    · subst h0
      exact ⟨[], ⟨some ad, 0, 0, cap, rfl, fun h => absurd rfl h, fun i x h => by simp at h⟩, fun t h => by simp at h, by simp⟩
    · obtain ⟨b, off, spot⟩ := ad
      have hc0 := (hT 0 h0).1 0 _ rfl
      have hspot : spot = none := by simpa [Addr.add] using World.cell?_spot hc0
      subst hspot
      refine ⟨(List.range len).map T, ⟨_, b, off, cap, by rw [hlen], fun _ => rfl, fun i x hx j u hu => ?_⟩, hin, by rw [hlen]; omega⟩
      obtain ⟨hi, rfl⟩ := hget i x hx
      have := (hT i hi).1 j u hu
      rw [add_plain, add_plain] at this
      exact this
end Go.Proofs.YthbdchleppbidaaGreat
/- A policy that came in, opened. -/
namespace Go.Proofs.YthbdchleppbidaaGreat
open Go.RowKit Go.Deep Go.ChangeShapes Go.WideShapes

theorem cellsPolI : Tryz.prog.cellsOf 2 = 1 := by kernel_rfl
theorem cellsPol : Tryz.prog.cellsOf 25 = 3 := by kernel_rfl
set_option maxRecDepth 100000 in
theorem open_pol {H : Type} {enc : TypeId × Value → H} {W : World} {spare : Nat → Bool} {held : Bool} {v : Value} {d : DataW H} {ps : List MemPlace} {r : Reach} {b0 : Nat} (hval : Value.okWide Tryz.prog W r b0 25 v)
    (hd : DataW.Trod enc Tryz.prog W 0 spare held 25 v d ps) : ∃ a b c : Int, v = .agg #[.int .i64 a, .int .i64 b, .int .i64 c] ∧ (-9223372036854775808 ≤ a ∧ a ≤ 9223372036854775807) ∧ (-9223372036854775808 ≤ b ∧ b ≤ 9223372036854775807) ∧ -9223372036854775808 ≤ c ∧ c ≤ 9223372036854775807 := by
  obtain ⟨cs, rfl, hcs⟩ := okWide_struct Tryz.underlying25 hval
  obtain ⟨fuel, hf⟩ := hd
  rw [cellsPol] at hcs
  obtain ⟨y0, y1, y2, n, _, _, t0, t1, t2⟩ := trod_struct3 Tryz.underlying25 hf
  simp only [cellsPolI] at t0 t1 t2
  obtain ⟨cs, rfl⟩ : ∃ l : List Value, cs = l.toArray := ⟨cs.toList, by simp⟩
  match cs, hcs with
  | [u0, u1, u2], _ =>
    obtain ⟨a, e0, _, ha⟩ := DataW.trod_int Tryz.underlying2 t0
    obtain ⟨b, e1, _, hb⟩ := DataW.trod_int Tryz.underlying2 t1
    obtain ⟨c, e2, _, hc⟩ := DataW.trod_int Tryz.underlying2 t2
    simp [Value.cells] at e0 e1 e2
    subst e0 e1 e2
    exact ⟨a, b, c, rfl, bounds_i64 ha, bounds_i64 hb, bounds_i64 hc⟩
end Go.Proofs.YthbdchleppbidaaGreat
