/- Width of nums, walked: how often a number can be halved. -/
import Derived.Test.YtngeilhdambgfaaDoorBase
import Derived.Test.YtngeilhdambgfaaDoorRows
import Derived.WalkKit
import Derived.WalkSpells
import Derived.WalkLawsBesides
import Derived.Lib.Hide
import Derived.Lib.LaidTab
namespace Go.Proofs.YtngeilhdambgfaaDoor
open Go.RowKit

/-! ### Width -/

/-- how often a number can be halved -/
def wid (x : Nat) : Nat := if x = 0 then 0 else Nat.log2 x + 1
theorem wid_half {x : Nat} (h : 0 < x) : wid x = wid (x / 2) + 1 := by
  unfold wid
  by_cases h1 : x = 1
  · subst h1; decide
  · rw [if_neg (by omega), if_neg (by omega), Nat.log2_def, if_pos (by omega)]
theorem wid_zero : wid 0 = 0 := by decide
theorem wid_shift (s : Nat) {x : Nat} (h : 0 < x / 2 ^ s) : wid x = s + wid (x / 2 ^ s) := by
  induction s with
  | zero => simp
  | succ s ih =>
    have h1 : x / 2 ^ (s + 1) = x / 2 ^ s / 2 := by rw [Nat.pow_succ, Nat.div_div_eq_div_mul]
    rw [h1] at h ⊢
    have h2 : 0 < x / 2 ^ s := by omega
    rw [ih h2, wid_half h2]; omega

/-- the table of steps, as it lies in memory -/
def stepRow : List Value := [.int .i64 32, .int .i64 16, .int .i64 8, .int .i64 4, .int .i64 2, .int .i64 1]
def StepsLaid (w : World) : Prop := ∀ j v, stepRow[j]? = some v → w.cell? ⟨0, j, none⟩ = some v

theorem StepsLaid.below {w w' : World} (h : StepsLaid w) (hb : Below w.heap.size w w') : StepsLaid w' := fun j v hv => by
  have h1 := h j v hv
  rw [← h1]; exact hb.cell (p := ⟨0, j, none⟩) (cell_lt h1)
theorem StepsLaid.alloc {w : World} (h : StepsLaid w) (o : Obj) : StepsLaid (w.alloc o) := h.below ((Below.refl _ _).alloc (Nat.le_refl _) o)
theorem tabFact_catacomb_nums_steps {w : World} (h : Lib.TabIs Tryd.prog w "catacomb/nums.steps" .i64 [32, 16, 8, 4, 2, 1]) : StepsLaid w := fun j v hv => by
  have h2 := World.var?_cell (show Tryd.prog.globalNamed "catacomb/nums.steps" = some 0 by kernel_rfl) h j
  rw [h2, ← hv]; simp [stepRow]
theorem run_steps {w : World} (h : StepsLaid w) : (loadVar 110 ⟨0, 0, none⟩).run Tryd.prog w = .ok (.agg stepRow.toArray) w := by
  have hl : (loadCells ⟨0, 0, none⟩ 6).run Tryd.prog w = .ok stepRow.toArray w :=
    run_loadCells_list (P := Tryd.prog) w ⟨0, 0, none⟩ stepRow (fun j v hv => by
      have hadd : (⟨0, 0, none⟩ : Addr).add j = ⟨0, j, none⟩ := by unfold Addr.add; split <;> simp_all
      rw [hadd]; exact h j v hv)
  have hagg : (isAgg 110).run Tryd.prog w = .ok true w := by
    unfold isAgg
    rw [Sem.run_bind, run_underlying Tryd.underlying110 w]
    rfl
  simp [loadVar, Sem.run_bind, hagg, hl]

theorem wpList_steps {ops : Array Oper} {rest : List Oper} {o : Oper} {a : Act} {w : World} {Q : Exit → Act → World → Prop} (h : StepsLaid w) (hgd : o.guard = none) (x : Operand) (ho : o.op = .load 110 x)
    (hx : a.eval x = .pointer (some ⟨0, 0, none⟩)) (hk : wpList Tryd.prog ops Q rest (a.put o.dst (.agg stepRow.toArray)) w) : wpList Tryd.prog ops Q (o :: rest) a w :=
  wpList_plain hgd fun K hK => by
    unfold Oper.wp execOp
    simp only [ho, hx, Instr.loadAt, Instr.sureAddr, Sem.run_bind, Sem.run_pure, Result.andThen_ok, run_steps h]
    exact hK _ _ hk

theorem step_at0 (w : World) : (Instr.index 110 (.agg stepRow.toArray) (.int .i64 0)).run Tryd.prog w = .ok (.int .i64 32) w := by kernel_rfl
theorem step_at1 (w : World) : (Instr.index 110 (.agg stepRow.toArray) (.int .i64 1)).run Tryd.prog w = .ok (.int .i64 16) w := by kernel_rfl
theorem step_at2 (w : World) : (Instr.index 110 (.agg stepRow.toArray) (.int .i64 2)).run Tryd.prog w = .ok (.int .i64 8) w := by kernel_rfl
theorem step_at3 (w : World) : (Instr.index 110 (.agg stepRow.toArray) (.int .i64 3)).run Tryd.prog w = .ok (.int .i64 4) w := by kernel_rfl
theorem step_at4 (w : World) : (Instr.index 110 (.agg stepRow.toArray) (.int .i64 4)).run Tryd.prog w = .ok (.int .i64 2) w := by kernel_rfl
theorem step_at5 (w : World) : (Instr.index 110 (.agg stepRow.toArray) (.int .i64 5)).run Tryd.prog w = .ok (.int .i64 1) w := by kernel_rfl

theorem wid_le (s : Nat) {x : Nat} (h : x < 2 ^ s) : wid x ≤ s := by
  unfold wid; split
  · omega
  · have := (Nat.log2_lt (by assumption)).2 h; omega

/-- what holds of Width's number, count and place, k steps behind the start -/
def WidAt (x : Nat) (k y n : Nat) : Prop := k ≤ 6 ∧ y < 2 ^ 2 ^ (6 - k) ∧ wid x = n + wid y ∧ wid x ≤ 64
theorem WidAt.big {x k y n : Nat} (h : WidAt x k y n) (hk : k < 6) (hb : (((y : Int) / (2 ^ 2 ^ (5 - k) : Nat)) != 0) = true) : WidAt x (k + 1) (y / 2 ^ 2 ^ (5 - k)) (n + 2 ^ (5 - k)) := by
  obtain ⟨h1, h2, h3, h4⟩ := h
  have hb' : 0 < y / 2 ^ 2 ^ (5 - k) := by
    rcases Nat.eq_zero_or_pos (y / 2 ^ 2 ^ (5 - k)) with e | e
    · exfalso
      have e' : ((y : Int) / (2 ^ 2 ^ (5 - k) : Nat)) = ((y / 2 ^ 2 ^ (5 - k) : Nat) : Int) := rfl
      rw [e', e] at hb; simp at hb
    · exact e
  refine ⟨by omega, ?_, ?_, h4⟩
  · rw [show 6 - (k + 1) = 5 - k by omega]
    refine Nat.div_lt_of_lt_mul ?_
    rw [← Nat.pow_add, show 2 ^ (5 - k) + 2 ^ (5 - k) = 2 ^ (6 - k) by rw [show 6 - k = (5 - k) + 1 by omega, Nat.pow_succ]; omega]
    exact h2
  · rw [h3, wid_shift _ hb']; omega
theorem WidAt.small {x k y n : Nat} (h : WidAt x k y n) (hk : k < 6) (hb : (((y : Int) / (2 ^ 2 ^ (5 - k) : Nat)) != 0) = false) : WidAt x (k + 1) y n := by
  obtain ⟨h1, h2, h3, h4⟩ := h
  have hb' : y / 2 ^ 2 ^ (5 - k) = 0 := by
    have e' : ((y : Int) / (2 ^ 2 ^ (5 - k) : Nat)) = ((y / 2 ^ 2 ^ (5 - k) : Nat) : Int) := rfl
    rw [e'] at hb; simp only [bne_eq_false_iff_eq] at hb; exact_mod_cast hb
  refine ⟨by omega, ?_, h3, h4⟩
  rw [show 6 - (k + 1) = 5 - k by omega]
  exact (Nat.div_eq_zero_iff_lt (Nat.two_pow_pos _)).1 hb'

set_option maxHeartbeats 2000000 in
theorem width_any {x : Nat} (hx : x < 18446744073709551616) (w : World) (hl : StepsLaid w) :
    Calls Tryd.prog 59 #[.int .u64 x] w fun e w' => e = .returned (.int .i64 (wid x)) ∧ w = w' := by
  go_enter Tryd.func59, Tryd.ntmps59
  go_wp2_with (refine wpList_steps hl rfl _ rfl rfl ?_)
  have H0 : Hid (WidAt x 0 x 0) := Lib.hid ⟨by omega, hx, by omega, wid_le 64 hx⟩
  clear hx
  go_loop [0, 3, 7] (fun a b c => ∃ k y n : Nat, WidAt x k y n ∧ a = .int .u64 y ∧ b = .int .i64 n ∧ c = .int .i64 k) (fun _ _ c => 6 - (intOf c).toNat)
  case atStart => exact ⟨0, x, 0, H0.out, rfl, rfl, rfl⟩
  case round =>
    obtain ⟨k, y, n, hR, rfl, rfl, rfl⟩ := hrel
    clear H0
    have hn : n ≤ 64 := by have h4 := hR.2.2.2; have h3 := hR.2.2.1; omega
    by_cases hk : k < 6
    · match k, hk with
      | 0, _ =>
        have ik := step_at0
        go_wp2
        all_goals go_round
        case rel => first | exact ⟨1, _, _, hR.big (by decide) ‹_›, rfl, by go_num, rfl⟩ | exact ⟨1, _, _, hR.small (by decide) ‹_›, rfl, rfl, rfl⟩
        case measure => simp [intOf]
        case rel => first | exact ⟨1, _, _, hR.big (by decide) ‹_›, rfl, by go_num, rfl⟩ | exact ⟨1, _, _, hR.small (by decide) ‹_›, rfl, rfl, rfl⟩
        case measure => simp [intOf]
      | 1, _ =>
        have ik := step_at1
        go_wp2
        all_goals go_round
        case rel => first | exact ⟨2, _, _, hR.big (by decide) ‹_›, rfl, by go_num, rfl⟩ | exact ⟨2, _, _, hR.small (by decide) ‹_›, rfl, rfl, rfl⟩
        case measure => simp [intOf]
        case rel => first | exact ⟨2, _, _, hR.big (by decide) ‹_›, rfl, by go_num, rfl⟩ | exact ⟨2, _, _, hR.small (by decide) ‹_›, rfl, rfl, rfl⟩
        case measure => simp [intOf]
      | 2, _ =>
        have ik := step_at2
        go_wp2
        all_goals go_round
        case rel => first | exact ⟨3, _, _, hR.big (by decide) ‹_›, rfl, by go_num, rfl⟩ | exact ⟨3, _, _, hR.small (by decide) ‹_›, rfl, rfl, rfl⟩
        case measure => simp [intOf]
        case rel => first | exact ⟨3, _, _, hR.big (by decide) ‹_›, rfl, by go_num, rfl⟩ | exact ⟨3, _, _, hR.small (by decide) ‹_›, rfl, rfl, rfl⟩
        case measure => simp [intOf]
      | 3, _ =>
        have ik := step_at3
        go_wp2
        all_goals go_round
        case rel => first | exact ⟨4, _, _, hR.big (by decide) ‹_›, rfl, by go_num, rfl⟩ | exact ⟨4, _, _, hR.small (by decide) ‹_›, rfl, rfl, rfl⟩
        case measure => simp [intOf]
        case rel => first | exact ⟨4, _, _, hR.big (by decide) ‹_›, rfl, by go_num, rfl⟩ | exact ⟨4, _, _, hR.small (by decide) ‹_›, rfl, rfl, rfl⟩
        case measure => simp [intOf]
      | 4, _ =>
        have ik := step_at4
        go_wp2
        all_goals go_round
        case rel => first | exact ⟨5, _, _, hR.big (by decide) ‹_›, rfl, by go_num, rfl⟩ | exact ⟨5, _, _, hR.small (by decide) ‹_›, rfl, rfl, rfl⟩
        case measure => simp [intOf]
        case rel => first | exact ⟨5, _, _, hR.big (by decide) ‹_›, rfl, by go_num, rfl⟩ | exact ⟨5, _, _, hR.small (by decide) ‹_›, rfl, rfl, rfl⟩
        case measure => simp [intOf]
      | 5, _ =>
        have ik := step_at5
        go_wp2
        all_goals go_round
        case rel => first | exact ⟨6, _, _, hR.big (by decide) ‹_›, rfl, by go_num, rfl⟩ | exact ⟨6, _, _, hR.small (by decide) ‹_›, rfl, rfl, rfl⟩
        case measure => simp [intOf]
        case rel => first | exact ⟨6, _, _, hR.big (by decide) ‹_›, rfl, by go_num, rfl⟩ | exact ⟨6, _, _, hR.small (by decide) ‹_›, rfl, rfl, rfl⟩
        case measure => simp [intOf]
    · obtain rfl : k = 6 := by have := hR.1; omega
      have hy : y < 2 := hR.2.1
      go_wp2
      go_ret
      refine ⟨ret_i64 ?_, rfl⟩
      rw [hR.2.2.1]
      match y, hy with
      | 0, _ => rfl
      | 1, _ => rfl

theorem StepsLaid.keep {B : Nat} {w w' : World} (h : StepsLaid w) (hb : Below B w w') (hg : 0 < B) : StepsLaid w' := fun j v hv => by
  rw [← h j v hv]; exact hb.cell (p := ⟨0, j, none⟩) hg
theorem StepsLaid.lt {w : World} (h : StepsLaid w) : 0 < w.heap.size := cell_lt (h 0 _ rfl)
theorem wid_big {x n : Nat} (h : 0 < x / 2 ^ n) : n < wid x := by
  rw [wid_shift n h]
  have : wid (x / 2 ^ n) ≠ 0 := by unfold wid; rw [if_neg (by omega)]; omega
  omega
theorem wid_small {x n : Nat} (h : x / 2 ^ n = 0) : wid x ≤ n := wid_le n ((Nat.div_eq_zero_iff_lt (Nat.two_pow_pos _)).1 h)
theorem wid_div {x n : Nat} (h : ¬ n < wid x) : x / 2 ^ n = 0 := by
  rcases Nat.eq_zero_or_pos (x / 2 ^ n) with h1 | h1
  · exact h1
  · exact absurd (wid_big h1) h
end Go.Proofs.YtngeilhdambgfaaDoor
