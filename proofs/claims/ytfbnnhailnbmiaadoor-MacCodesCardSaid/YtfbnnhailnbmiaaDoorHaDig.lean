/- Bytes of a constant; digests compared. -/
import Derived.Test.YtfbnnhailnbmiaaDoorHaHash
import Derived.Lib.SlBytesConst
import Derived.ChangeKeysEq
import Derived.Laws.StructEq
namespace Go.Proofs.YtfbnnhailnbmiaaDoor
open Go.RowKit

/-- '[]byte(..)' of a constant: its row by its own type -/
theorem wpList_conv_const {P : Program} {ops : Array Oper} {rest : List Oper} {o : Oper} {a : Act} {w : World} {Q : Exit → Act → World → Prop} (hgd : o.guard = none) (t e : TypeId) (x : Operand) (ho : o.op = .convert t t x)
    (C : Array Value) (n c : Nat) (hx : a.eval x = .slice (some ⟨w.heap.size, 0, none⟩) n c) (ht : P.underlying t = some (.slice e)) (he : P.underlying e = some (.int .u8))
    (h : wpList P ops Q rest (a.put o.dst (.slice (some ⟨w.heap.size, 0, none⟩) n c)) (w.alloc (.cells C e (C.size, C.size + 1)))) : wpList P ops Q (o :: rest) a (w.alloc (.cells C e)) :=
  wpList_plain hgd fun K hK => by
    unfold Oper.wp execOp
    simp only [ho, hx, Sem.run_bind, Lib.run_convert_bytes_const w t e C n c ht he, Result.andThen_ok, Sem.run_pure]
    exact hK _ _ h
theorem const_lies (w : World) (l : List Nat) (fr : Nat × Nat) : Lies (w.alloc (.cells (u8s l).toArray 5 fr)) (.slice (some ⟨w.heap.size, 0, none⟩) l.length l.length) l := by
  refine .inr (.inr ⟨w.heap.size, 0, l.length, rfl, fun j hj => ?_⟩)
  rw [cell_of_row _ w.heap.size (0 + j) _ _ _ (heap_alloc_new w _), Nat.zero_add]
  simpa using u8s_getD l j hj

/-! ### Digests are compared -/
theorem items_same (w : World) (d : Nat) (l : List Nat) : ∀ is : List Nat, (∀ i ∈ is, i < l.length) → (Op.eqItems (d + 1) 5 1 (u8s l).toArray (u8s l).toArray is).run Tryd.prog w = .ok true w
  | [], _ => by simp [Op.eqItems]
  | i :: is, h => by
    have hi := h i (by simp)
    have hp : (part 5 (u8s l).toArray (i * 1)).run Tryd.prog w = .ok (.int .u8 ((l.getD i 0 : Nat) : Int)) w := by
      have hagg : (isAgg 5).run Tryd.prog w = .ok false w := by
        unfold isAgg
        rw [Sem.run_bind, run_underlying Tryd.underlying5 w]
        rfl
      have hg := u8s_getD l i hi
      unfold part
      rw [Sem.run_bind, hagg]
      simp only [Result.andThen_ok, Nat.mul_one, List.getElem?_toArray, hg]
      rfl
    have ih := items_same w d l is (fun j hj => h j (by simp [hj]))
    simp only [Op.eqItems, Sem.run_bind, hp, Result.andThen_ok, run_equalIn_int w d 5 .u8 .u8 _ _ Tryd.underlying5, beq_self_eq_true]
    simpa using ih
theorem dig_same (l : List Nat) (hl : l.length = 32) (w : World) : (Op.equalIn 10000 25 (.agg (u8s l).toArray) (.agg (u8s l).toArray)).run Tryd.prog w = .ok true w := by
  obtain ⟨i, hi⟩ : ∃ i, Tryd.prog.info? 5 = some i := by
    have h := infoU8
    cases hi : Tryd.prog.info? 5 with
    | none => rw [hi] at h; simp at h
    | some i => exact ⟨i, rfl⟩
  rw [show (10000 : Nat) = 9999 + 1 from rfl, run_equalIn_array w 9999 _ _ Tryd.underlying25 hi, cellsU8]
  exact items_same w 9998 l (List.range 32) (fun j hj => by rw [hl]; exact List.mem_range.1 hj)
theorem digest_length (bs : List Nat) : (digest bs).length = 32 := by simp [digest, tell_length]

end Go.Proofs.YtfbnnhailnbmiaaDoor
