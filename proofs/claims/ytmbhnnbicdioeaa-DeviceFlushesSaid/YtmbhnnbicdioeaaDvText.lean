/- Texts put together and cut, in regions that draw their order. -/
import Derived.Test.YtmbhnnbicdioeaaDvFull
namespace Go.Proofs.Ytmbhnnbicdioeaa
open Go.RowKit

theorem run_cat_op (w : World) {o : Oper} {a : Act} (x y : Operand) (ho : o.op = .binOp .add 9 x y 9) (s t R : ByteArray) (hx : a.eval x = .string s) (hy : a.eval y = .string t) (hR : s ++ t = R) (hs : R.size ≤ 100000000) :
    (execOp a.eval o).run Try.prog w = .ok (.value (.string R)) w := by
  have h1 : s.size + t.size ≤ 9223372036854775807 := by rw [← hR, ByteArray.size_append] at hs; omega
  unfold execOp
  simp [ho, hx, hy, eqGuard, binOp_string_add, run_string_add_sum (P := Try.prog) (w := w) s t h1, hR]
theorem run_text_hi (w : World) {o : Oper} {a : Act} (x y : Operand) (ho : o.op = .slice 9 x none (some y) none) (s R : ByteArray) (h : Nat) (hx : a.eval x = .string s) (hy : a.eval y = .int .i64 (h : Int)) (hh : h ≤ s.size) (hR : s.extract 0 h = R) :
    (execOp a.eval o).run Try.prog w = .ok (.value (.string R)) w := by
  have hb : (Instr.sliceBounds false s.size s.size none (some (.int .i64 (h : Int))) none).run Try.prog w = .ok (0, h, s.size) w := by simp [Instr.sliceBounds, Instr.sliceBound, asIntOf, hh]
  have hr : (Instr.sliceAt 9 (.string s) none (some (.int .i64 (h : Int))) none).run Try.prog w = .ok (.string R) w := by
    simp [Instr.sliceAt, Instr.slice, Sem.run_bind, run_underlying Try.underlying9, hb, hR]
  unfold execOp
  simp only [ho, hx, hy, Option.map_some, Option.map_none, Sem.run_bind, hr, Result.andThen_ok, Sem.run_pure]
theorem run_text_lo (w : World) {o : Oper} {a : Act} (x y : Operand) (ho : o.op = .slice 9 x (some y) none none) (s R : ByteArray) (l : Nat) (hx : a.eval x = .string s) (hy : a.eval y = .int .i64 (l : Int)) (hl : l ≤ s.size) (hR : s.extract l s.size = R) :
    (execOp a.eval o).run Try.prog w = .ok (.value (.string R)) w := by
  have hb : (Instr.sliceBounds false s.size s.size (some (.int .i64 (l : Int))) none none).run Try.prog w = .ok (l, s.size, s.size) w := by simp [Instr.sliceBounds, Instr.sliceBound, asIntOf, hl]
  have hr : (Instr.sliceAt 9 (.string s) (some (.int .i64 (l : Int))) none none).run Try.prog w = .ok (.string R) w := by
    simp [Instr.sliceAt, Instr.slice, Sem.run_bind, run_underlying Try.underlying9, hb, hR]
  unfold execOp
  simp only [ho, hx, hy, Option.map_some, Option.map_none, Sem.run_bind, hr, Result.andThen_ok, Sem.run_pure]
theorem strOf_extract (l : List Nat) (lo hi : Nat) : (strOf l).extract lo hi = strOf ((l.drop lo).take (hi - lo)) := by
  apply ByteArray.ext
  rw [ByteArray.data_extract]
  apply Array.ext'
  rw [Array.toList_extract, List.extract_eq_take_drop]
  simp [strOf, List.map_take, List.map_drop]
end Go.Proofs.Ytmbhnnbicdioeaa
