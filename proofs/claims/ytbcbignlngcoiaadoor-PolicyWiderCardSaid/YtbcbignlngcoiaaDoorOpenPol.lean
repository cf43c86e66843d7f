/- A policy that came in, opened. -/
import Derived.Test.YtbcbignlngcoiaaDoorPolAt
import Derived.ChangeMaps5
import Derived.Deep.Slices
import Derived.Deep.Strs
import Derived.OpenShut
namespace Go.Proofs.YtbcbignlngcoiaaDoor
open Go.RowKit Go.Deep Go.ChangeShapes Go.WideShapes

theorem cellsPolI : Tryd.prog.cellsOf 2 = 1 := by kernel_rfl
theorem cellsPol : Tryd.prog.cellsOf 23 = 3 := by kernel_rfl
set_option maxRecDepth 100000 in
theorem open_pol {H : Type} {enc : TypeId × Value → H} {W : World} {spare : Nat → Bool} {held : Bool} {v : Value} {d : DataW H} {ps : List MemPlace} {r : Reach} {b0 : Nat} (hval : Value.okWide Tryd.prog W r b0 23 v)
    (hd : DataW.Trod enc Tryd.prog W 0 spare held 23 v d ps) : ∃ a b c : Int, v = .agg #[.int .i64 a, .int .i64 b, .int .i64 c] ∧ (-9223372036854775808 ≤ a ∧ a ≤ 9223372036854775807) ∧ (-9223372036854775808 ≤ b ∧ b ≤ 9223372036854775807) ∧ -9223372036854775808 ≤ c ∧ c ≤ 9223372036854775807 := by
  obtain ⟨cs, rfl, hcs⟩ := okWide_struct Tryd.underlying23 hval
  obtain ⟨fuel, hf⟩ := hd
  rw [cellsPol] at hcs
  obtain ⟨y0, y1, y2, n, _, _, t0, t1, t2⟩ := trod_struct3 Tryd.underlying23 hf
  simp only [cellsPolI] at t0 t1 t2
  obtain ⟨cs, rfl⟩ : ∃ l : List Value, cs = l.toArray := ⟨cs.toList, by simp⟩
  match cs, hcs with
  | [u0, u1, u2], _ =>
    obtain ⟨a, e0, _, ha⟩ := DataW.trod_int Tryd.underlying2 t0
    obtain ⟨b, e1, _, hb⟩ := DataW.trod_int Tryd.underlying2 t1
    obtain ⟨c, e2, _, hc⟩ := DataW.trod_int Tryd.underlying2 t2
    simp [Value.cells] at e0 e1 e2
    subst e0 e1 e2
    exact ⟨a, b, c, rfl, bounds_i64 ha, bounds_i64 hb, bounds_i64 hc⟩
end Go.Proofs.YtbcbignlngcoiaaDoor
