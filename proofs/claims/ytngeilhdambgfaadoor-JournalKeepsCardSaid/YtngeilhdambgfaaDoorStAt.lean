/- A sector in memory; isZero, fits, on, readStamp: walked. -/
import Derived.Test.YtngeilhdambgfaaDoorStL
import Derived.Test.YtngeilhdambgfaaDoorGenOp
namespace Go.Proofs.YtngeilhdambgfaaDoor
open Go.RowKit

def stampV (t p : Nat) : Value := .agg #[.int .u32 (t : Int), .int .u32 (p : Int)]
def secV (s : Sec) (u : Value) : Value := .agg #[.int .u32 (s.turn : Int), .int .u32 (s.place : Int), .bool s.last, u]

set_option maxHeartbeats 1000000 in
theorem isZero_any {w : World} {v : Value} {bs : List Nat} (h : Lies w v bs) (hb : ∀ x ∈ bs, x < 256) (hbig : bs.length ≤ 1000000000) :
    Calls Tryd.prog 49 #[v] w fun e w' => e = .returned (.bool (zeroL bs)) ∧ w = w' := by
  obtain ⟨a, c, rfl, hform⟩ := lies_form h
  obtain ⟨n, hn⟩ : ∃ n, n = bs.length := ⟨_, rfl⟩
  have HF := Lib.hid hform
  have HB := Lib.hid hb
  have HN := Lib.hid hn
  rw [← hn] at hbig ⊢
  clear h hform hb hn
  go_enter Tryd.func49, Tryd.ntmps49
  go_wp2
  go_loop [7] (fun i => ∃ q : Nat, q ≤ n ∧ i = .int .i64 q ∧ ∀ j, j < q → bs.getD j 0 = 0) (fun i => n - (intOf i).toNat)
  case atStart => exact ⟨0, by omega, rfl, fun j hj => by omega⟩
  case round =>
    obtain ⟨q, hq, rfl, hz⟩ := hrel
    have HZ := Lib.hid hz
    clear hz
    by_cases hlt : q < n
    · have hne : bs ≠ [] := fun e => by have := HN.out; rw [e] at this; simp at this; omega
      obtain ⟨b, off, rfl, hc⟩ := HF.out hne
      have hcell := hc q (by rw [← HN.out]; exact hlt)
      obtain ⟨y, hy⟩ : ∃ y, y = bs.getD q 0 := ⟨_, rfl⟩
      rw [← hy] at hcell
      have HY := Lib.hid hy
      have HC := Lib.hid hc
      clear hy hc
      by_cases hy0 : y = 0
      · subst hy0
        go_wp2
        go_round
        case rel => exact ⟨q + 1, by omega, by go_num, fun j hj => by
          rcases Nat.lt_succ_iff_lt_or_eq.1 hj with h | h
          · exact HZ.out j h
          · rw [h]; exact HY.out.symm⟩
        case measure => simp [intOf]; omega
      · have t1 : ((y : Int) == 0) = false := by simp; omega
        have t2 : ((y : Int) != 0) = true := by simp; omega
        go_wp2
        go_ret
        exact ⟨by rw [zeroL_not (i := q) (by rw [← HY.out]; exact hy0)]; rfl, rfl⟩
    · obtain rfl : q = n := by omega
      go_wp2
      go_ret
      exact ⟨by rw [zeroL_of fun i hi => HZ.out i (by rw [HN.out]; exact hi)]; rfl, rfl⟩

theorem fits_any {p n : Nat} (hp : p < 4294967296) (hn : 1 ≤ n) (hbig : n ≤ 1000000000000) (w : World) :
    Calls Tryd.prog 41 #[.int .u32 (p : Int), .int .i64 (n : Int)] w fun e w' => e = .returned (.bool (decide (p + (n - 1) ≤ 4294967295))) ∧ w = w' := by
  have e1 : IntKind.i64.wrap ((n : Int) - 1) = ((n - 1 : Nat) : Int) := by rw [IntKind.wrap_i64]; omega
  have e2 : IntKind.u64.wrap ((n - 1 : Nat) : Int) = ((n - 1 : Nat) : Int) := by rw [IntKind.wrap_u64]; omega
  have e3 : IntKind.u32.wrap (4294967295 - (p : Int)) = ((4294967295 - p : Nat) : Int) := by rw [IntKind.wrap_u32]; omega
  have e4 : IntKind.u64.wrap ((4294967295 - p : Nat) : Int) = ((4294967295 - p : Nat) : Int) := by rw [IntKind.wrap_u64]; omega
  obtain ⟨x, hx⟩ : ∃ x : Nat, x = n - 1 := ⟨_, rfl⟩
  obtain ⟨y, hy⟩ : ∃ y : Nat, y = 4294967295 - p := ⟨_, rfl⟩
  have hd : decide (p + x ≤ 4294967295) = decide (x ≤ y) := by apply decide_eq_decide.2; omega
  rw [← hx] at e1 e2 ⊢
  rw [← hy] at e3 e4
  rw [hd]
  clear hx hy hd
  go_enter Tryd.func41, Tryd.ntmps41
  go_wp2
  go_ret
  exact ⟨by simp, rfl⟩

/-- a stamp, handed back out of a variable of its own -/
theorem results_cell {fn : Func} {p : Tmp} {ty : TypeId} (h : fn.results = #[.cell p ty]) (tmps : Array Value) (P : Program) (w : World) :
    (results fn tmps).run P w = ((asAddr (tmps.getD p undef)).run P w).andThen fun a w₁ => (loadVar ty a).run P w₁ := by
  simp only [results, h]
  simp [Sem.run_bind, Result.andThen]
theorem ret_stamp {fn : Func} {p : Tmp} (h : fn.results = #[.cell p 75]) {tmps : Array Value} {w : World} {Q : Nat} {x y : Int} (hp : tmps.getD p undef = .pointer (some ⟨Q, 0, none⟩)) (hq : w.heap[Q]? = some (.cells #[.int .u32 x, .int .u32 y] 75 (0, 0))) :
    (results fn tmps).run Tryd.prog w = .ok (.agg #[.int .u32 x, .int .u32 y]) w := by
  obtain ⟨c0, c1, _, _⟩ := cells2 hq
  rw [results_cell h, hp]
  go_simp
theorem on_any {t p i : Nat} (hpi : p + i < 4294967296) (w : World) :
    Calls Tryd.prog 43 #[stampV t p, .int .i64 (i : Int)] w fun e w' => e = .returned (stampV t (p + i)) ∧ Below w.heap.size w w' := by
  have e1 : IntKind.u32.wrap (i : Int) = i := by rw [IntKind.wrap_u32]; omega
  obtain ⟨q, hq⟩ : ∃ q, q = p + i := ⟨_, rfl⟩
  have e2 : IntKind.u32.wrap ((p : Int) + i) = (q : Int) := by rw [IntKind.wrap_u32]; omega
  rw [← hq]
  clear hq hpi
  unfold stampV
  go_enter Tryd.func43, Tryd.ntmps43
  go_wp2
  refine bodyPost_ret (ret_stamp (Q := w.heap.size + 1) rfl rfl (by simpa using heap_alloc_new (w.alloc (.cells #[.int .u32 (t : Int), .int .u32 (p : Int)] 75)) (.cells #[.int .u32 (t : Int), .int .u32 (q : Int)] 75))) rfl ?_
  exact ⟨rfl, ((Below.refl _ w).alloc (Nat.le_refl _) _).alloc (by simp) _⟩

theorem OReaderAt.only {B : Nat} {w w' : World} {R : Nat} {bs : List Nat} {S : Nat → Prop} (h : OReaderAt B w R bs) (ho : Only S w w') (hR : ¬ S R) (hS : ∀ b off j x, B ≤ b → w.cell? ⟨b, off + j, none⟩ = some (.int .u8 x) → ¬ S b) : OReaderAt B w' R bs := by
  obtain ⟨h1, v, hh, hl⟩ := h
  exact ⟨h1, v, (ho.block R (lt_of_block hh) hR).trans hh, hl.only ho hS⟩
theorem OReaderAt.lt {B : Nat} {w : World} {R : Nat} {bs : List Nat} (h : OReaderAt B w R bs) : R < w.heap.size := by obtain ⟨_, v, hh, _⟩ := h; exact lt_of_block hh
/-- a block of stamps holds no bytes -/
theorem no_bytes {w : World} {V : Nat} {cs : Array Value} {t : TypeId} {fr : Nat × Nat} (h : w.heap[V]? = some (.cells cs t fr)) (hc : ∀ (k : Nat) (x : Int), cs[k]? ≠ some (Value.int .u8 x)) : ∀ b off j x, w.cell? ⟨b, off + j, none⟩ = some (.int .u8 x) → b ≠ V := by
  rintro b off j x hb rfl
  rw [cell_of_row w b (off + j) _ _ _ h] at hb
  exact hc _ x hb
/-- what is stored into a variable of the call's own is no byte's place -/
theorem reader_var {B : Nat} {w w1 w2 : World} {R V : Nat} {bs : List Nat} {cs : Array Value} {t : TypeId} {fr : Nat × Nat} {T : Nat → Prop} (h : OReaderAt B w1 R bs) (ho : Only T w w1) (hV : w.heap.size ≤ V) (hR : R < w.heap.size) (hh : w1.heap[V]? = some (.cells cs t fr)) (hc : ∀ (k : Nat) (x : Int), cs[k]? ≠ some (Value.int .u8 x))
    (h1 : Only (fun k => k = V) w1 w2) : OReaderAt B w2 R bs ∧ Only T w w2 :=
  ⟨h.only h1 (by omega) (fun b off j x _ hb => no_bytes hh hc b off j x hb), ho.trans h1 (fun i hi h => by omega)⟩
theorem two_set (w : World) (V : Nat) (x y : Value) : Only (fun k => k = V) w ((w.setCell ⟨V, 0, none⟩ x).setCell ⟨V, 1, none⟩ y) :=
  (Only.setCell (S := fun k => k = V) _ rfl _).trans (Only.setCell (S := fun k => k = V) _ rfl _) (fun _ _ h => h)
theorem two_at {w : World} {V : Nat} {a b : Value} {t : TypeId} (h : w.heap[V]? = some (.cells #[a, b] t (0, 0))) (x y : Value) : ((w.setCell ⟨V, 0, none⟩ x).setCell ⟨V, 1, none⟩ y).heap[V]? = some (.cells #[x, y] t (0, 0)) := by
  have h1 := heap_setCell_same w V 0 _ _ x h
  have h2 := heap_setCell_same _ V 1 _ _ y h1
  rw [h2]; simp
theorem no_u32 (a b : Int) : ∀ (k : Nat) (x : Int), (#[.int .u32 a, .int .u32 b] : Array Value)[k]? ≠ some (Value.int .u8 x) := by
  intro k x h
  rcases (show k = 0 ∨ k = 1 ∨ 2 ≤ k by omega) with rfl | rfl | h2
  · simp at h
  · simp at h
  · rw [Array.getElem?_eq_none (by simpa using h2)] at h; cases h
set_option maxHeartbeats 1000000 in
/-- eight bytes more are read: a stamp -/
theorem readStamp_any {B : Nat} {w : World} {R : Nat} {bs : List Nat} (h : OReaderAt B w R bs) (hl : 8 ≤ bs.length) (hb : ∀ x ∈ bs, x < 256) (hbig : bs.length ≤ 1000000000) :
    Calls Tryd.prog 46 #[.pointer (some ⟨R, 0, none⟩)] w fun e w' => e = .returned (stampV (stampOf bs).1 (stampOf bs).2) ∧ OReaderAt B w' R (bs.drop 8) ∧ Only (fun k => k = R) w w' := by
  have H := Lib.hid h
  have HB := Lib.hid hb
  have hR : R < w.heap.size := by obtain ⟨_, v, hh, _⟩ := h; exact lt_of_block hh
  have hx1 : valB (bs.take 4) < 4294967296 := by have := valB_lt bs hb 4 (by omega); omega
  have hx2 : valB ((bs.drop 4).take 4) < 4294967296 := by have := valB_lt (bs.drop 4) (drop_small 4 hb) 4 (by rw [List.length_drop]; omega); omega
  obtain ⟨x, hx⟩ : ∃ x, x = valB (bs.take 4) := ⟨_, rfl⟩
  obtain ⟨y, hy⟩ : ∃ y, y = valB ((bs.drop 4).take 4) := ⟨_, rfl⟩
  have he : stampOf bs = (x, y) := by unfold stampOf; rw [hx, hy]
  rw [he]
  rw [← hx] at hx1
  rw [← hy] at hx2
  have e1 : IntKind.u32.wrap (x : Int) = x := by rw [IntKind.wrap_u32]; omega
  have e2 : IntKind.u32.wrap (y : Int) = y := by rw [IntKind.wrap_u32]; omega
  have HX := Lib.hid hx
  have HY := Lib.hid hy
  clear h hb hx hy he
  unfold stampV
  go_enter Tryd.func46, Tryd.ntmps46
  have HA : Hid (OReaderAt B (w.alloc (.cells #[.int .u32 0, .int .u32 0] 75)) R bs) := Lib.hid (H.out.beyond ((Below.refl _ w).alloc (Nat.le_refl _) _))
  go_wp2_with fail
  refine (onum_ok (n := 4) HA.out (by unfold Wide; omega) (by omega) HB.out hbig).mono ?_
  rw [← HX.out]
  rintro e w1 ⟨rfl, hr1, ho1⟩
  have HR1 := Lib.hid hr1
  have HO1 := Lib.hid ho1
  clear hr1 ho1
  go_wp2_with fail
  refine (onum_ok (n := 4) HR1.out (by unfold Wide; omega) (by rw [List.length_drop]; omega) (drop_small 4 HB.out) (by rw [List.length_drop]; omega)).mono ?_
  rw [← HY.out, List.drop_drop]
  rintro e w2 ⟨rfl, hr2, ho2⟩
  have HR2 := Lib.hid hr2
  have ho : Only (fun k => k = R) (w.alloc (.cells #[.int .u32 0, .int .u32 0] 75)) w2 := HO1.out.trans ho2 (fun _ _ h => h)
  have HO := Lib.hid ho
  have hv : w2.heap[w.heap.size]? = some (.cells #[.int .u32 0, .int .u32 0] 75 (0, 0)) := (ho.block _ (by simp) (by omega)).trans (heap_alloc_new w _)
  have HV := Lib.hid hv
  obtain ⟨c0, c1, f0, f1⟩ := cells2 hv
  clear hr2 ho2 ho hv
  go_wp2
  refine bodyPost_ret (ret_stamp rfl rfl (two_at HV.out _ _)) rfl ?_
  obtain ⟨h1, h2⟩ := reader_var HR2.out ((only_beyond (S := fun k => k = R) ((Below.refl _ w).alloc (Nat.le_refl _) _)).trans HO.out (fun _ _ h => h)) (Nat.le_refl _) hR HV.out (no_u32 _ _) (two_set w2 w.heap.size (.int .u32 (x : Int)) (.int .u32 (y : Int)))
  exact ⟨rfl, h1, h2⟩
/-- stamps held against one another -/
theorem run_eqs_op (w : World) {o : Oper} {a : Act} (x y : Operand) (ho : o.op = .binOp .eql 75 x y 75) (t p t' p' : Int) (hx : a.eval x = .agg #[.int .u32 t, .int .u32 p]) (hy : a.eval y = .agg #[.int .u32 t', .int .u32 p']) (B : Bool) (hB : ((t == t') && (p == p')) = B) :
    (execOp a.eval o).run Tryd.prog w = .ok (.value (.bool B)) w := by
  unfold execOp
  simp only [ho, hx, hy]
  go_simp
  subst hB
  by_cases h1 : t = t'
  · by_cases h2 : p = p'
    · simp [h1, h2]
    · simp [h1, h2]
  · simp [h1]
theorem run_nes_op (w : World) {o : Oper} {a : Act} (x y : Operand) (ho : o.op = .binOp .neq 75 x y 75) (t p t' p' : Int) (hx : a.eval x = .agg #[.int .u32 t, .int .u32 p]) (hy : a.eval y = .agg #[.int .u32 t', .int .u32 p']) (B : Bool) (hB : ((t == t') && (p == p')) = B) :
    (execOp a.eval o).run Tryd.prog w = .ok (.value (.bool !B)) w := by
  unfold execOp
  simp only [ho, hx, hy]
  go_simp
  subst hB
  by_cases h1 : t = t'
  · by_cases h2 : p = p'
    · simp [h1, h2]
    · simp [h1, h2]
  · simp [h1]
end Go.Proofs.YtngeilhdambgfaaDoor
