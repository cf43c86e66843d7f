/- Package hex: a number's signs. -/
import Derived.Test.YtbmplleojddnmaaHxAdd
namespace Go.Proofs.Ytbmplleojddnmaa
open Go.RowKit

theorem fill8_set {A : List Nat} {n i x : Nat} (hi : i < n) (hA : A[i]? = some x) : (u8s (fillL A n i)).set i (.int .u8 (x : Int)) = u8s (fillL A n (i + 1)) := by
  have hl : i < A.length := (List.getElem?_eq_some_iff.1 hA).1
  unfold fillL u8s
  rw [show n - i = (n - (i + 1)) + 1 by omega, List.replicate_succ, List.map_append, List.set_append]
  rw [if_neg (by simp; omega)]
  rw [show i - (List.map (fun x : Nat => Value.int .u8 (x : Int)) (A.take i)).length = 0 by simp; omega]
  rw [List.take_add_one, hA]
  simp
/-- a sign of sixteen, by a number of 64 bits -/
theorem run_hex_op64 (w : World) {o : Oper} {a : Act} (x : Operand) (ho : o.op = .index 9 (.const (.string ⟨#[48, 49, 50, 51, 52, 53, 54, 55, 56, 57, 97, 98, 99, 100, 101, 102]⟩)) x) (n : Nat) (hx : a.eval x = .int .u64 (n : Int)) (h : n < 16) :
    (execOp a.eval o).run Try.prog w = .ok (.value (.int .u8 ((signB n : Nat) : Int))) w := by
  have hr : (Instr.index 9 (.string hexT) (.int .u64 (n : Int))).run Try.prog w = .ok (.int .u8 ((signB n : Nat) : Int)) w := by
    have hs : hexT.size = 16 := rfl
    have hg := hex_at n h
    have hn : n < hexT.data.size := h
    rw [Array.getElem?_eq_getElem hn, Option.map_some] at hg
    rw [run_index_string w _ _ _ _ Try.underlying9]
    rw [dif_pos (by rw [hs]; omega)]
    have e : hexT[(n : Int).toNat]'(by rw [hs]; omega) = hexT.data[n] := rfl
    rw [e, Option.some.inj hg]
  unfold execOp
  have hc : a.eval (.const (.string hexT)) = .string hexT := rfl
  simp only [ho, hx, Sem.run_bind, Sem.run_pure]
  rw [show (⟨#[48, 49, 50, 51, 52, 53, 54, 55, 56, 57, 97, 98, 99, 100, 101, 102]⟩ : ByteArray) = hexT from rfl, hc, hr]
  rfl

/-- an operation by what its run gives -/
theorem wpList_value {P : Program} {ops : Array Oper} {rest : List Oper} {o : Oper} {a : Act} {w : World} {Q : Exit → Act → World → Prop} {v : Value} (hgd : o.guard = none) (hr : (execOp a.eval o).run P w = .ok (.value v) w)
    (h : wpList P ops Q rest (a.put o.dst v) w) : wpList P ops Q (o :: rest) a w := wpList_plain hgd fun K hK => by
  unfold Oper.wp
  rw [hr]
  exact hK _ _ h
theorem shr_sign {x k : Nat} (hx : x < 18446744073709551616) : bits .and .u64 ((x : Int) / 2 ^ (4 * k)) 15 = ((x / 16 ^ k % 16 : Nat) : Int) := by
  have e : (2 : Int) ^ (4 * k) = ((16 ^ k : Nat) : Int) := by rw [Int.pow_mul]; simp
  have h1 : x / 16 ^ k ≤ x := Nat.div_le_self _ _
  rw [e, ← Int.natCast_ediv]
  generalize x / 16 ^ k = y at *
  rw [u64_and _ _ (by omega) (by omega) (by omega) (by omega), show (15 : Int).toNat = 15 from rfl, nat_mask4]
  omega

set_option maxHeartbeats 8000000 in
set_option maxRecDepth 1000000 in
theorem hxnum_any {w : World} {x : Nat} (hx : x < 18446744073709551616) :
    Calls Try.prog 11 #[.int .u64 (x : Int)] w fun e w' => e = .returned (.string (strOf (numS x))) ∧ Below w.heap.size w w' := by
  go_enter Try.func11, Try.ntmps11
  repeat (first | (refine wpList_alloc_zero rfl 37 rfl (u8s (List.replicate 16 0)) (by kernel_rfl) ?_) | go_values | go_skip | go_guarded | go_step)
  go_loopw [5] (fun c wr => ∃ i : Nat, i ≤ 16 ∧ c = .int .i64 i ∧ Arr wr w.heap.size 37 (u8s (fillL (numS x) 16 i)) ∧ Below w.heap.size w wr) (fun c _ => 16 - (intOf c).toNat)
  case atStart => exact ⟨0, by omega, rfl, by simpa [fillL] using arr_new w 37 (u8s (List.replicate 16 0)), (Below.refl _ _).alloc (Nat.le_refl _) _⟩
  case round =>
    obtain ⟨i, hi, rfl, harr, hbw⟩ := hrel
    have HA := Lib.hid harr
    have HBW := Lib.hid hbw
    clear harr hbw
    by_cases hlt : i < 16
    · have t3 : decide ((i : Int) < 16) = true := by simp only [decide_eq_true_eq]; omega
      have hti : (i : Int) < 16 := by omega
      obtain ⟨q, hq⟩ : ∃ q, q = x / 16 ^ (15 - i) % 16 := ⟨_, rfl⟩
      have hq16 : q < 16 := by rw [hq]; exact Nat.mod_lt _ (by decide)
      have e2 : bits .and .u64 ((x : Int) / 2 ^ (4 * (15 - i))) 15 = (q : Int) := by rw [shr_sign hx, hq]
      have q1 : wr.frozen? ⟨w.heap.size, i, none⟩ = false := HA.out.free i
      obtain ⟨d1v, d1⟩ : ∃ v, wr.cell? ⟨w.heap.size, i, none⟩ = some v := by
        have hl : i < (fillL (numS x) 16 i).length := by unfold fillL; rw [List.length_append, List.length_take, numS_length, List.length_replicate]; omega
        exact ⟨_, HA.out.cell (u8s_getD _ i hl)⟩
      have HSET : Hid ((u8s (fillL (numS x) 16 i)).set i (.int .u8 ((signB q : Nat) : Int)) = u8s (fillL (numS x) 16 (i + 1))) := Lib.hid (fill8_set hlt (by rw [hq]; exact numS_at x hlt))
      clear hq
      have e1 : (15 : Int) - (i : Int) = ((15 - i : Nat) : Int) := by omega
      repeat (first | (refine wpList_value rfl (run_hex_op64 wr (.tmp 14) rfl q rfl hq16) ?_) | go_values | go_skip | go_guarded | go_step | go_upon)
      have HA2 : Hid (Arr (wr.setCell ⟨w.heap.size, i, none⟩ (.int .u8 ((signB q : Nat) : Int))) w.heap.size 37 (u8s (fillL (numS x) 16 (i + 1)))) := Lib.hid (by
        have h1 := HA.out.set i (.int .u8 ((signB q : Nat) : Int))
        rw [HSET.out] at h1; exact h1)
      have HB2 : Hid (Below w.heap.size w (wr.setCell ⟨w.heap.size, i, none⟩ (.int .u8 ((signB q : Nat) : Int)))) := Lib.hid (HBW.out.trans ((Only.setCell (S := fun k => k = w.heap.size) wr (p := ⟨w.heap.size, i, none⟩) rfl _).below HBW.out.size (fun k hk => by omega)))
      exact ⟨⟨i + 1, by omega, by go_num, HA2.out, HB2.out⟩, by simp [intOf]; omega⟩
    · have t3 : decide ((i : Int) < 16) = false := by simp only [decide_eq_false_iff_not]; omega
      obtain rfl : i = 16 := by omega
      have hc : (convert 22 9 (.slice (some ⟨w.heap.size, 0, none⟩) 16 16)).run Try.prog wr = .ok (.string (strOf (numS x))) wr := by
        have h1 := HA.out
        rw [fill_full (numS_length x)] at h1
        have h2 := text_of (lies_arr (c := 16) h1) 9 Try.underlying9
        rw [numS_length] at h2; exact h2
      repeat (first | go_values | go_skip | go_guarded | go_step | go_upon)
      go_ret
      exact ⟨rfl, HBW.out⟩
end Go.Proofs.Ytbmplleojddnmaa
