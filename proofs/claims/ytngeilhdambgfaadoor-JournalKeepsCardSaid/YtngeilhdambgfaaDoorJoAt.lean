/- A journal as it lies; what is asked of it. -/
import Derived.Test.YtngeilhdambgfaaDoorDvUp
import Derived.Test.YtngeilhdambgfaaDoorDvRows
import Derived.Test.YtngeilhdambgfaaDoorStRow
namespace Go.Proofs.YtngeilhdambgfaaDoor
open Go.RowKit

def jcells (P frm n t k : Nat) : List Value := [.pointer (some ⟨P, 0, none⟩), .int .i64 (frm : Int), .int .i64 (n : Int), .int .u32 (t : Int), .int .i64 (k : Int)]
/-- a journal at J: on the device at P, from frm, n sectors, of turn t, k of them used -/
def JAt (w : World) (J P frm n t k : Nat) : Prop := Arr w J 59 (jcells P frm n t k)
section
variable {w : World} {J P frm n t k : Nat}
theorem JAt.cells (h : JAt w J P frm n t k) : w.cell? ⟨J, 0, none⟩ = some (.pointer (some ⟨P, 0, none⟩)) ∧ w.cell? ⟨J, 1, none⟩ = some (.int .i64 (frm : Int)) ∧ w.cell? ⟨J, 2, none⟩ = some (.int .i64 (n : Int)) ∧ w.cell? ⟨J, 3, none⟩ = some (.int .u32 (t : Int)) ∧ w.cell? ⟨J, 4, none⟩ = some (.int .i64 (k : Int)) :=
  ⟨Arr.cell h rfl, Arr.cell h rfl, Arr.cell h rfl, Arr.cell h rfl, Arr.cell h rfl⟩
theorem JAt.only {S : Nat → Prop} {w' : World} (h : JAt w J P frm n t k) (ho : Only S w w') (hS : ¬ S J) : JAt w' J P frm n t k := Arr.only h ho hS
end
set_option maxHeartbeats 1000000 in
theorem johas_none (w : World) {f n : Int} (hf2 : f ≤ 9223372036854775807) : Calls Tryd.prog 22 #[.pointer none, .int .i64 f, .int .i64 n] w fun e w' => e = .returned (.bool false) ∧ w' = w := by
  go_enter Tryd.func22, Tryd.ntmps22
  by_cases h1 : 0 ≤ f
  · by_cases h2 : 1 ≤ n
    · have e1 : IntKind.i64.wrap (0 - f) = -f := by rw [IntKind.wrap_i64]; omega
      have e2 : IntKind.i64.wrap (-f) = -f := by rw [IntKind.wrap_i64]; omega
      have t3 : decide (n ≤ -f) = false := by simp; omega
      go_wp2_with (go_at_call 32; refine (len_none _).mono ?_; rintro e w' ⟨rfl, rfl⟩)
      go_ret
      exact ⟨rfl, rfl⟩
    · have t2 : decide (1 ≤ n) = false := by simpa using h2
      go_wp2
      go_ret
      exact ⟨rfl, rfl⟩
  · have t1 : decide (0 ≤ f) = false := by simpa using h1
    go_wp2
    go_ret
    exact ⟨rfl, rfl⟩
set_option maxHeartbeats 1000000 in
theorem johas_any {w : World} {B P : Nat} {d : Dev} {f n : Int} (h : DevAt w B P d) (hf2 : f ≤ 9223372036854775807) : Calls Tryd.prog 22 #[.pointer (some ⟨P, 0, none⟩), .int .i64 f, .int .i64 n] w fun e w' => e = .returned (.bool (decide (0 ≤ f ∧ 1 ≤ n ∧ n ≤ (d.lies.length : Int) - f))) ∧ w' = w := by
  have hN : d.lies.length ≤ 8192 := h.ok.size
  have HD := Lib.hid h
  obtain ⟨N, hNN⟩ : ∃ n, n = d.lies.length := ⟨_, rfl⟩
  have HN := Lib.hid hNN
  rw [← hNN] at hN ⊢
  clear h hNN
  go_enter Tryd.func22, Tryd.ntmps22
  by_cases h1 : 0 ≤ f
  · by_cases h2 : 1 ≤ n
    · have e1 : IntKind.i64.wrap ((N : Int) - f) = (N : Int) - f := by rw [IntKind.wrap_i64]; omega
      go_wp2_with (go_at_call 32; refine (len_any HD.out).mono ?_; rw [← HN.out]; rintro e w' ⟨rfl, rfl⟩)
      go_ret
      refine ⟨?_, rfl⟩
      simp [h1, h2]
    · have t2 : decide (1 ≤ n) = false := by simpa using h2
      go_wp2
      go_ret
      refine ⟨?_, rfl⟩
      rfl
  · have t1 : decide (0 ≤ f) = false := by simpa using h1
    go_wp2
    go_ret
    refine ⟨?_, rfl⟩
    rfl
/-! ### What a record costs -/
theorem pieces_le {a b : Nat} (h : a ≤ b) : pieces a ≤ pieces b := by unfold pieces; omega
set_option maxHeartbeats 1000000 in
theorem jcost_any (w : World) {m : Nat} (hm : m ≤ 9223372036854775807) : Calls Tryd.prog 21 #[.int .i64 (m : Int)] w fun e w' => e = .returned (.int .i64 (pieces m : Int)) ∧ w' = w := by
  go_enter Tryd.func21, Tryd.ntmps21
  by_cases h : m = 0
  · subst h
    go_wp2
    go_ret
    exact ⟨rfl, rfl⟩
  · have t1 : decide ((m : Int) ≤ 0) = false := by simp; omega
    obtain ⟨j, rfl⟩ : ∃ j, m = j + 1 := ⟨m - 1, by omega⟩
    have hp : pieces (j + 1) = j / 47 + 1 := by unfold pieces; omega
    have e1 : IntKind.i64.wrap (((j + 1 : Nat) : Int) - 1) = (j : Int) := by rw [IntKind.wrap_i64]; omega
    have e2 : IntKind.i64.wrap (Int.tdiv (j : Int) 47) = ((j / 47 : Nat) : Int) := by rw [IntKind.wrap_i64, Int.tdiv_eq_ediv_of_nonneg (by omega)]; omega
    have e3 : IntKind.i64.wrap (((j / 47 : Nat) : Int) + 1) = ((j / 47 + 1 : Nat) : Int) := by rw [IntKind.wrap_i64]; omega
    go_wp2
    go_ret
    rw [hp]
    exact ⟨rfl, rfl⟩
set_option maxHeartbeats 1000000 in
theorem jcost_neg (w : World) {m : Int} (hm : m ≤ 0) : Calls Tryd.prog 21 #[.int .i64 m] w fun e w' => e = .returned (.int .i64 1) ∧ w' = w := by
  go_enter Tryd.func21, Tryd.ntmps21
  have t1 : decide (m ≤ 0) = true := by simpa using hm
  go_wp2
  go_ret
  exact ⟨rfl, rfl⟩
theorem pieces_more {m : Nat} (h : 47 < m) : pieces (m - 47) + 1 = pieces m := by unfold pieces; omega
theorem pieces_few {m : Nat} (h : m ≤ 47) : pieces m = 1 := by unfold pieces; omega
set_option maxHeartbeats 2000000 in
theorem lcost10_any (w : World) {m : Nat} (hm : m ≤ 1000000000) : Calls Tryd.prog 10 #[.int .i64 (m : Int)] w fun e w' => e = .returned (.int .i64 (pieces m : Int)) ∧ w' = w := by
  go_enter Tryd.func10, Tryd.ntmps10
  go_wp2_with fail
  go_loopw [0, 3] (fun x y wr => ∃ a b : Nat, x = .int .i64 (a : Int) ∧ y = .int .i64 (b : Int) ∧ a ≤ m ∧ b + pieces a = pieces m + 1 ∧ wr = w) (fun x _ _ => (intOf x).toNat)
  case atStart => exact ⟨m, 1, rfl, rfl, Nat.le_refl _, by omega, rfl⟩
  case round =>
    obtain ⟨a, b, rfl, rfl, ha, hab, rfl⟩ := hrel
    by_cases h : 47 < a
    · have hp := pieces_more h
      have hpm := pieces_le ha
      have hpb : pieces m ≤ 1000000001 := by unfold pieces; omega
      have e1 : IntKind.i64.wrap ((a : Int) - 47) = ((a - 47 : Nat) : Int) := by rw [IntKind.wrap_i64]; omega
      have e2 : IntKind.i64.wrap ((b : Int) + 1) = ((b + 1 : Nat) : Int) := by rw [IntKind.wrap_i64]; omega
      go_wp2
      go_roundw
      case rel => exact ⟨a - 47, b + 1, rfl, rfl, by omega, by omega, trivial⟩
      case measure => simp [intOf]; omega
    · have hp := pieces_few (show a ≤ 47 by omega)
      have t1 : decide ((47 : Int) < (a : Int)) = false := by simp; omega
      go_wp2
      go_ret
      refine ⟨?_, rfl⟩
      rw [show b = pieces m by omega]
      rfl
/-! ### What is asked of a journal -/
set_option maxHeartbeats 1000000 in
theorem joleft_any {w : World} {J P frm n t k : Nat} (h : JAt w J P frm n t k) (hk : k ≤ n) (hn : n ≤ 8192) : Calls Tryd.prog 25 #[.pointer (some ⟨J, 0, none⟩)] w fun e w' => e = .returned (.int .i64 ((n - k : Nat) : Int)) ∧ Below w.heap.size w w' := by
  obtain ⟨c0, c1, c2, c3, c4⟩ := h.cells
  have e1 : IntKind.i64.wrap ((n : Int) - k) = ((n - k : Nat) : Int) := by rw [IntKind.wrap_i64]; omega
  clear h
  go_enter Tryd.func25, Tryd.ntmps25
  go_wp2_with fail
  go_region
  go_wp2
  go_ret
  exact ⟨rfl, (Below.refl _ _).drew⟩
set_option maxHeartbeats 1000000 in
theorem jonext_any {w : World} {J P frm n t k : Nat} (h : JAt w J P frm n t k) : Calls Tryd.prog 14 #[.pointer (some ⟨J, 0, none⟩)] w fun e w' => e = .returned (.int .i64 (k : Int)) ∧ w' = w := by
  obtain ⟨c0, c1, c2, c3, c4⟩ := h.cells
  clear h
  go_enter Tryd.func14, Tryd.ntmps14
  go_wp2
  go_ret
  exact ⟨rfl, rfl⟩
set_option maxHeartbeats 1000000 in
theorem joturn_any {w : World} {J P frm n t k : Nat} (h : JAt w J P frm n t k) : Calls Tryd.prog 13 #[.pointer (some ⟨J, 0, none⟩)] w fun e w' => e = .returned (.int .u32 (t : Int)) ∧ w' = w := by
  obtain ⟨c0, c1, c2, c3, c4⟩ := h.cells
  clear h
  go_enter Tryd.func13, Tryd.ntmps13
  go_wp2
  go_ret
  exact ⟨rfl, rfl⟩
set_option maxHeartbeats 1000000 in
theorem joroom_any {w : World} {J P frm n t k : Nat} (h : JAt w J P frm n t k) (hk : k ≤ n) (hn : n ≤ 8192) : Calls Tryd.prog 15 #[.pointer (some ⟨J, 0, none⟩)] w fun e w' => e = .returned (.int .i64 ((47 * (n - k) : Nat) : Int)) ∧ Below w.heap.size w w' := by
  have HJ := Lib.hid h
  have e1 : IntKind.i64.wrap (((n - k : Nat) : Int) * 47) = ((47 * (n - k) : Nat) : Int) := by rw [IntKind.wrap_i64]; omega
  clear h
  go_enter Tryd.func15, Tryd.ntmps15
  go_wp2_with (go_at_call 25; refine (joleft_any HJ.out hk hn).mono ?_; rintro e w' ⟨rfl, hb⟩; have HB := Lib.hid hb; clear hb)
  go_ret
  exact ⟨rfl, HB.out⟩
end Go.Proofs.YtngeilhdambgfaaDoor
