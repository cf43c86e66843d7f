/- Stage 5: the laws' fixed fact. -/
import Derived.Test.YthnnmndanaiggaaDoorHaHash
import Derived.Lib.SlBytesConst
import Derived.ChangeKeysEq
import Derived.Laws.StructEq
namespace Go.Proofs.YthnnmndanaiggaaDoor
open Go.RowKit

/-- '[]byte(..)' of a constant: its row by its own type -/
theorem wpList_conv_const {P : Program} {ops : Array Oper} {rest : List Oper} {o : Oper} {a : Act} {w : World} {Q : Exit → Act → World → Prop} (hgd : o.guard = none) (t e : TypeId) (x : Operand) (ho : o.op = .convert t t x)
    (C : Array Value) (n c : Nat) (hx : a.eval x = .slice (some ⟨w.heap.size, 0, none⟩) n c) (ht : P.underlying t = some (.slice e)) (he : P.underlying e = some (.int .u8))
    (h : wpList P ops Q rest (a.put o.dst (.slice (some ⟨w.heap.size, 0, none⟩) n c)) (w.alloc (.cells C e (C.size, C.size + 1)))) : wpList P ops Q (o :: rest) a (w.alloc (.cells C e)) :=
  wpList_plain hgd fun K hK => by
    unfold Oper.wp execOp
    simp only [ho, hx, Sem.run_bind, Lib.run_convert_bytes_const w t e C n c ht he, Result.andThen_ok, Sem.run_pure]
    exact hK _ _ h
theorem const_lies (w : World) (l : List Nat) (fr : Nat × Nat) : Lies (w.alloc (.cells (u8s l).toArray 5 fr)) (.slice (some ⟨w.heap.size, 0, none⟩) l.length l.length) l := by
  refine .inr (.inr ⟨w.heap.size, 0, l.length, rfl, fun j hj => ?_⟩)
  rw [cell_of_row _ w.heap.size (0 + j) _ _ _ (heap_alloc_new w _), Nat.zero_add]
  simpa using u8s_getD l j hj

/-! ### Digests are compared -/
theorem items_same (w : World) (d : Nat) (l : List Nat) : ∀ is : List Nat, (∀ i ∈ is, i < l.length) → (Op.eqItems (d + 1) 5 1 (u8s l).toArray (u8s l).toArray is).run Tryd.prog w = .ok true w
  | [], _ => by simp [Op.eqItems]
  | i :: is, h => by
    have hi := h i (by simp)
    have hp : (part 5 (u8s l).toArray (i * 1)).run Tryd.prog w = .ok (.int .u8 ((l.getD i 0 : Nat) : Int)) w := by
      have hagg : (isAgg 5).run Tryd.prog w = .ok false w := by
        unfold isAgg
        rw [Sem.run_bind, run_underlying Tryd.underlying5 w]
        rfl
      have hg := u8s_getD l i hi
      unfold part
      rw [Sem.run_bind, hagg]
      simp only [Result.andThen_ok, Nat.mul_one, List.getElem?_toArray, hg]
      rfl
    have ih := items_same w d l is (fun j hj => h j (by simp [hj]))
    simp only [Op.eqItems, Sem.run_bind, hp, Result.andThen_ok, run_equalIn_int w d 5 .u8 .u8 _ _ Tryd.underlying5, beq_self_eq_true]
    simpa using ih
theorem dig_same (l : List Nat) (hl : l.length = 32) (w : World) : (Op.equalIn 10000 25 (.agg (u8s l).toArray) (.agg (u8s l).toArray)).run Tryd.prog w = .ok true w := by
  obtain ⟨i, hi⟩ : ∃ i, Tryd.prog.info? 5 = some i := by
    have h := infoU8
    cases hi : Tryd.prog.info? 5 with
    | none => rw [hi] at h; simp at h
    | some i => exact ⟨i, rfl⟩
  rw [show (10000 : Nat) = 9999 + 1 from rfl, run_equalIn_array w 9999 _ _ Tryd.underlying25 hi, cellsU8]
  exact items_same w 9998 l (List.range 32) (fun j hj => by rw [hl]; exact List.mem_range.1 hj)
theorem digest_length (bs : List Nat) : (digest bs).length = 32 := by simp [digest, tell_length]

def abcL : List Nat := [186, 120, 22, 191, 143, 1, 207, 234, 65, 65, 64, 222, 93, 174, 34, 35, 176, 3, 97, 163, 150, 23, 122, 156, 180, 16, 255, 97, 242, 0, 21, 173]
set_option maxHeartbeats 8000000 in
set_option maxRecDepth 1000000 in
theorem lives_any (w : World) (htab : Tabs w) :
    Calls Tryd.prog 6 #[] w fun e w' => e = .returned (.bool true) ∧ Below w.heap.size w w' := by
  have HSUM : Hid (∀ W, Below w.heap.size w W → Lies W (.slice (some ⟨w.heap.size, 0, none⟩) 3 3) [97, 98, 99] → Calls Tryd.prog 7 #[.slice (some ⟨w.heap.size, 0, none⟩) 3 3] W fun e w' => e = .returned (.agg (u8s abcL).toArray) ∧ Below W.heap.size W w') := Lib.hid fun W hW h1 => by
    have h := hsum_any h1 (fits_slice (Nat.le_refl _)) (by decide) (by decide) (htab.keep hW)
    rw [digest_abc] at h
    exact h
  have HI32 : Hid ((Tryd.prog.info? 25).map (·.size) = some (u8s abcL).toArray.size) := Lib.hid (by kernel_rfl)
  have HAL32 : Hid ((u8s abcL).toArray.all (·.oneCell') = true) := Lib.hid (all_one (u8s_one _))
  clear htab
  go_enter Tryd.func6, Tryd.ntmps6
  repeat (first | (refine wpList_conv_const rfl 22 5 (.tmp 2) rfl (u8s [97, 98, 99]).toArray 3 3 rfl Tryd.underlying22 Tryd.underlying5 ?_) | (go_at_call 7; refine (HSUM.out _ ((Below.refl _ _).alloc (Nat.le_refl _) _) (const_lies w [97, 98, 99] _)).mono ?_; rintro e W1 ⟨rfl, hb1⟩; have HB1 := Lib.hid (((Below.refl w.heap.size w).alloc (Nat.le_refl _) (.cells (u8s [97, 98, 99]).toArray 5 (3, 4))).trans (hb1.mono (by simp))); clear hb1; dsimp only) | (refine wpList_store_row rfl 25 (.tmp 1) (.tmp 4) rfl W1.heap.size (u8s abcL).toArray rfl rfl 25 (u8s (List.replicate 32 0)).toArray (arr_new W1 _ (u8s (List.replicate 32 0))) HI32.out rfl HAL32.out ?_; refine wpList_name ?_; intro W2 hW2; have HA2 := Lib.hid (show Arr W2 W1.heap.size 25 (u8s abcL) by rw [hW2.out]; exact Arr.stored (arr_new W1 _ (u8s (List.replicate 32 0)))); have HB2 := Lib.hid (show Below w.heap.size w W2 by rw [hW2.out]; exact below_setRow (HB1.out.trans ((Below.refl W1.heap.size W1).alloc (Nat.le_refl _) _ |>.mono HB1.out.size)) HB1.out.size _); clear hW2; have d0 := HA2.out.cell (i := 0) (u := .int .u8 186) (by rfl); have d1 := HA2.out.cell (i := 1) (u := .int .u8 120) (by rfl); have d2 := HA2.out.cell (i := 2) (u := .int .u8 22) (by rfl); have d3 := HA2.out.cell (i := 3) (u := .int .u8 191) (by rfl); have d4 := HA2.out.cell (i := 4) (u := .int .u8 143) (by rfl); have d28 := HA2.out.cell (i := 28) (u := .int .u8 242) (by rfl); have d31 := HA2.out.cell (i := 31) (u := .int .u8 173) (by rfl)) | go_values | go_skip | go_guarded | go_step | go_upon)
  go_ret
  exact ⟨rfl, HB2.out⟩
end Go.Proofs.YthnnmndanaiggaaDoor
