/- A key that came in, opened; a key in a block of its own. -/
import Derived.Test.YtnaepipdlcineaaGen
import Derived.ChangeMaps5
import Derived.Deep.Slices
import Derived.Deep.Strs
import Derived.OpenShut
namespace Go.Proofs.Ytnaepipdlcineaa
open Go.RowKit Go.Deep Go.ChangeShapes Go.WideShapes

theorem cellsStr : Try.prog.cellsOf 9 = 1 := by kernel_rfl
theorem cellsKey : Try.prog.cellsOf 25 = 2 := by kernel_rfl
set_option maxRecDepth 100000 in
theorem open_key {H : Type} {enc : TypeId × Value → H} {W : World} {spare : Nat → Bool} {held : Bool} {v : Value} {d : DataW H} {ps : List MemPlace} {r : Reach} {b0 : Nat} (hval : Value.okWide Try.prog W r b0 25 v)
    (hd : DataW.Trod enc Try.prog W 0 spare held 25 v d ps) : ∃ a b : ByteArray, v = .agg #[.string a, .string b] ∧ a.size ≤ maxLen ∧ b.size ≤ maxLen := by
  obtain ⟨cs, rfl, hcs⟩ := okWide_struct Try.underlying25 hval
  obtain ⟨fuel, hf⟩ := hd
  rw [cellsKey] at hcs
  obtain ⟨y0, y1, n, _, _, t0, t1⟩ := trod_struct2 Try.underlying25 hf
  simp only [cellsStr] at t0 t1
  obtain ⟨cs, rfl⟩ : ∃ l : List Value, cs = l.toArray := ⟨cs.toList, by simp⟩
  match cs, hcs with
  | [u0, u1], _ =>
    obtain ⟨a, e0, _, ha⟩ := DataW.trod_string Try.underlying9 t0
    obtain ⟨b, e1, _, hb⟩ := DataW.trod_string Try.underlying9 t1
    simp [Value.cells] at e0 e1
    subst e0 e1
    exact ⟨a, b, rfl, ha, hb⟩
/-- a key in a block of its own -/
def KeyAt (W : World) (P : Nat) (a b : ByteArray) : Prop := W.heap[P]? = some (.cells #[.string a, .string b] 25 (0, 0))
theorem KeyAt.keep {W W' : World} {P : Nat} {a b : ByteArray} (h : KeyAt W P a b) (hb : Below W.heap.size W W') : KeyAt W' P a b := (hb.block P (lt_of_block h)).trans h
theorem KeyAt.old {W : World} {P : Nat} {a b : ByteArray} (h : KeyAt W P a b) (o : Obj) : KeyAt (W.alloc o) P a b := (Below.heap_alloc _ _ _ (lt_of_block h)).trans h
theorem KeyAt.new (W : World) (a b : ByteArray) : KeyAt (W.alloc (.cells #[.string a, .string b] 25)) W.heap.size a b := heap_alloc_new W _
theorem KeyAt.cells {W : World} {P : Nat} {a b : ByteArray} (h : KeyAt W P a b) : W.cell? ⟨P, 0, none⟩ = some (.string a) ∧ W.cell? ⟨P, 1, none⟩ = some (.string b) := ⟨(cells2 h).1, (cells2 h).2.1⟩
end Go.Proofs.Ytnaepipdlcineaa
