/- Bytes that came in with their capacity, texts as rows: over GenC. -/
import Derived.Test.YtphgkkdpdiiioaaGenC
import Derived.Test.YtphgkkdpdiiioaaOpenBytes
import Derived.Test.YtphgkkdpdiiioaaTextB
namespace Go.Proofs.Ytphgkkdpdiiioaa
open Go.RowKit Go.Deep Go.ChangeShapes Go.WideShapes

set_option maxRecDepth 100000 in
theorem open_lies2 {H : Type} {enc : TypeId × Value → H} {W : World} {spare : Nat → Bool} {held : Bool} {v : Value} {d : DataW H} {ps : List MemPlace} {r : Reach} {b0 : Nat} (hval : Value.okWide Try.prog W r b0 46 v)
    (hd : DataW.Trod enc Try.prog W 0 spare held 46 v d ps) : ∃ l : List Nat, Lies W v l ∧ Fits v ∧ (∀ x ∈ l, x < 256) ∧ l.length ≤ maxLen := by
  obtain ⟨l, h1, h2, h3⟩ := open_lies hval hd
  refine ⟨l, h1, ?_, h2, h3⟩
  obtain ⟨a, len, cap, rfl⟩ := okWide_slice Try.underlying46 hval
  obtain ⟨fuel, hf⟩ := hd
  refine fits_slice ?_
  rcases open_ints Try.underlying46 Try.underlying5 cellsU8 hf with ⟨hcs, _⟩ | ⟨ad, len', cap', zs, hcs, h4, hl, hm, hz, h5, hcell, hw⟩
  · simp [Value.cells] at hcs
    omega
  · simp [Value.cells] at hcs
    obtain ⟨rfl, rfl, rfl⟩ := hcs
    first | exact hl | omega
theorem run_text_op {w W : World} {o : Oper} {a : Act} (x : Operand) (ho : o.op = .convert 9 46 x) {s : ByteArray} {v : Value} (hx : a.eval x = .string s) (hr : (convert 9 46 (.string s)).run Try.prog w = .ok v W) :
    (execOp a.eval o).run Try.prog w = .ok (.value v) W := by
  unfold execOp
  simp only [ho, hx, Sem.run_bind, Sem.run_pure, Result.andThen_ok, hr]
theorem text_row (w : World) (s : ByteArray) : ∃ W b cap, (convert 9 46 (.string s)).run Try.prog w = .ok (.slice (some ⟨b, 0, none⟩) s.size cap) W ∧ s.size ≤ cap ∧ Below w.heap.size w W ∧ w.heap.size ≤ b ∧ MRow W b (ordsOf s) := by
  have hsz : s.size ≤ (Lib.bytesCells w 5 s).size := by
    unfold Lib.bytesCells
    rw [Array.size_append, Array.size_map]
    exact Nat.le_add_right _ _
  refine ⟨Lib.bytesWorld w 5 s, w.heap.size, _, Lib.run_convert_string_bytes w 9 46 5 s Try.underlying9 Try.underlying46 Try.underlying5, grownCap_ge _ _ _ _, ⟨rfl, rfl, rfl, by rw [Lib.bytesWorld_size]; omega, fun k hk => Lib.bytesWorld_at_old w _ s k hk⟩, Nat.le_refl _, _, _, Lib.bytesWorld_at_new w 5 s, by rw [ordsOf_length]; exact hsz, by rw [ordsOf_length]; exact hsz, fun j hj => ?_⟩
  rw [ordsOf_length] at hj
  have hj2 : j < s.data.size := hj
  unfold Lib.bytesCells
  rw [Array.getElem?_append_left (by rw [Array.size_map]; exact hj2), Array.getElem?_map, Array.getElem?_eq_getElem hj2]
  simp only [ordsOf, List.getD, List.getElem?_map, Array.getElem?_toList, Array.getElem?_eq_getElem hj2, Option.map_some, Option.getD_some]
end Go.Proofs.Ytphgkkdpdiiioaa
