/- A range that came in, opened. -/
import Derived.Test.YtbcbignlngcoiaaDoorRgAt
import Derived.ChangeMaps5
import Derived.Deep.Slices
import Derived.Deep.Strs
import Derived.OpenShut
namespace Go.Proofs.YtbcbignlngcoiaaDoor
open Go.RowKit Go.Deep Go.ChangeShapes Go.WideShapes

theorem cellsRgI : Tryd.prog.cellsOf 2 = 1 := by kernel_rfl
theorem cellsRange : Tryd.prog.cellsOf 25 = 2 := by kernel_rfl
set_option maxRecDepth 100000 in
theorem open_range {H : Type} {enc : TypeId × Value → H} {W : World} {spare : Nat → Bool} {held : Bool} {v : Value} {d : DataW H} {ps : List MemPlace} {r : Reach} {b0 : Nat} (hval : Value.okWide Tryd.prog W r b0 25 v)
    (hd : DataW.Trod enc Tryd.prog W 0 spare held 25 v d ps) : ∃ a b : Int, v = .agg #[.int .i64 a, .int .i64 b] ∧ (-9223372036854775808 ≤ a ∧ a ≤ 9223372036854775807) ∧ -9223372036854775808 ≤ b ∧ b ≤ 9223372036854775807 := by
  obtain ⟨cs, rfl, hcs⟩ := okWide_struct Tryd.underlying25 hval
  obtain ⟨fuel, hf⟩ := hd
  rw [cellsRange] at hcs
  obtain ⟨y0, y1, n, _, _, t0, t1⟩ := trod_struct2 Tryd.underlying25 hf
  simp only [cellsRgI] at t0 t1
  obtain ⟨cs, rfl⟩ : ∃ l : List Value, cs = l.toArray := ⟨cs.toList, by simp⟩
  match cs, hcs with
  | [u0, u1], _ =>
    obtain ⟨a, e0, _, ha⟩ := DataW.trod_int Tryd.underlying2 t0
    obtain ⟨b, e1, _, hb⟩ := DataW.trod_int Tryd.underlying2 t1
    simp [Value.cells] at e0 e1
    subst e0 e1
    exact ⟨a, b, rfl, bounds_i64 ha, bounds_i64 hb⟩
end Go.Proofs.YtbcbignlngcoiaaDoor
