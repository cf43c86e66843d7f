/- []byte of a text: over TextC. -/
import Derived.Test.YtphgkkdpdiiioaaBase
import Derived.Test.YtphgkkdpdiiioaaTextC
import Derived.Lib.ConvBytes
namespace Go.Proofs.Ytphgkkdpdiiioaa
open Go.RowKit

theorem text_bytes (w : World) (s : ByteArray) : ∃ W b cap, (convert 9 46 (.string s)).run Try.prog w = .ok (.slice (some ⟨b, 0, none⟩) s.size cap) W ∧ s.size ≤ cap ∧ Below w.heap.size w W ∧ BytesAt W b 0 (ordsOf s) := by
  refine ⟨Lib.bytesWorld w 5 s, w.heap.size, _, Lib.run_convert_string_bytes w 9 46 5 s Try.underlying9 Try.underlying46 Try.underlying5, grownCap_ge _ _ _ _, ⟨rfl, rfl, rfl, by rw [Lib.bytesWorld_size]; omega, fun k hk => Lib.bytesWorld_at_old w _ s k hk⟩, fun j hj => ?_⟩
  rw [ordsOf_length] at hj
  rw [Nat.zero_add, Lib.bytesWorld_cell w _ s j hj]
  congr 3
  have h2 : j < s.data.toList.length := by rw [Array.length_toList]; exact hj
  unfold ordsOf
  simp [List.getD, List.getElem?_map, List.getElem?_eq_getElem h2]
theorem wpList_text_bytes {ops : Array Oper} {rest : List Oper} {o : Oper} {a : Act} {w V : World} {Q : Exit → Act → World → Prop} {s : ByteArray} {v : Value} (hgd : o.guard = none) (x : Operand) (ho : o.op = .convert 9 46 x)
    (hx : a.eval x = .string s) (hrun : (convert 9 46 (.string s)).run Try.prog w = .ok v V) (hk : wpList Try.prog ops Q rest (a.put o.dst v) V) : wpList Try.prog ops Q (o :: rest) a w :=
  wpList_plain hgd fun K hK => by
    unfold Oper.wp execOp
    simp only [ho, hx, Sem.run_bind, Sem.run_pure, Result.andThen_ok, hrun]
    exact hK _ _ hk
end Go.Proofs.Ytphgkkdpdiiioaa
