/- NumsShifts walked: a number shifted is doubled, or halved, so often, one by one. -/
import Derived.Test.YtfblnijoojhkeaaDoorNumLives
import Derived.Test.YtfblnijoojhkeaaDoorNumShift
import Derived.Lib.Hide
namespace Go.Proofs.YtfblnijoojhkeaaDoor
open Go.RowKit

theorem sat_twice (x : Int) : sat (sat x + sat x) = sat (x * 2) := by unfold sat; (repeat' split) <;> omega
theorem shl_end {a : Int} {n : Nat} (hn : 63 ≤ n) : sat (a * 2 ^ n) = sat (a * 2 ^ 63) := by
  obtain ⟨m, rfl⟩ := Nat.exists_eq_add_of_le hn
  rw [Int.pow_add, ← Int.mul_assoc]
  have hp : (1 : Int) ≤ 2 ^ m := Int.pow_pos (by decide)
  have hc : (2 : Int) ^ 63 = 9223372036854775808 := by decide
  rw [hc]
  rcases Int.lt_trichotomy a 0 with h | h | h
  · have h1 : a * 9223372036854775808 * 2 ^ m ≤ a * 9223372036854775808 * 1 := Int.mul_le_mul_of_nonpos_left (by omega) hp
    rw [sat_under (by omega), sat_under (by omega)]
  · subst h; simp
  · have h1 : a * 9223372036854775808 * 1 ≤ a * 9223372036854775808 * 2 ^ m := Int.mul_le_mul_of_nonneg_left hp (by omega)
    rw [sat_over (by omega), sat_over (by omega)]
theorem shr_end {a : Int} {n : Nat} (ha : -9223372036854775808 ≤ a) (ha' : a ≤ 9223372036854775807) (hn : 63 ≤ n) : a / 2 ^ n = a / 2 ^ 63 := by
  obtain ⟨m, rfl⟩ := Nat.exists_eq_add_of_le hn
  rw [Int.pow_add, ← Int.ediv_ediv_of_nonneg (Int.le_of_lt (Int.pow_pos (by decide)))]
  have hc : (2 : Int) ^ 63 = 9223372036854775808 := by decide
  rw [hc]
  have hp : (1 : Int) ≤ 2 ^ m := Int.pow_pos (by decide)
  by_cases h : a < 0
  · have h1 : a / 9223372036854775808 = -1 := by omega
    rw [h1]; exact Int.ediv_eq_neg_one_of_neg_of_le (by decide) hp
  · have h1 : a / 9223372036854775808 = 0 := by omega
    rw [h1]; simp

theorem half_odd {t : Int} (hlo : -9223372036854775808 ≤ t) (h : t < 0) (hm : (t.tmod 2 != 0) = true) : wrap64 (t.tdiv 2 - 1) = t / 2 := by
  obtain ⟨s, rfl⟩ : ∃ s, t = -s := ⟨-t, by omega⟩
  rw [bne_iff_ne, Int.neg_tmod, Int.tmod_eq_emod_of_nonneg (by omega)] at hm
  rw [Int.neg_tdiv, Int.tdiv_eq_ediv_of_nonneg (by omega)]
  unfold wrap64; omega
theorem half_even {t : Int} (h : t < 0) (hm : (t.tmod 2 != 0) = false) : t.tdiv 2 = t / 2 := by
  obtain ⟨s, rfl⟩ : ∃ s, t = -s := ⟨-t, by omega⟩
  rw [bne_eq_false_iff_eq, Int.neg_tmod, Int.tmod_eq_emod_of_nonneg (by omega)] at hm
  rw [Int.neg_tdiv, Int.tdiv_eq_ediv_of_nonneg (by omega)]
  omega
theorem eq_i64 {a b : Int} (h : a = b) : Value.int .i64 a = .int .i64 b := by rw [h]

/-- what the first loop has come to -/
def UpTo (a b : Int) (k : Nat) (t : Int) : Prop := t = sat (a * 2 ^ k) ∧ (k : Int) ≤ b ∧ k ≤ 70
theorem UpTo.next {a b t : Int} {k : Nat} (h : UpTo a b k t) (h1 : (k : Int) < b) (h2 : k < 70) : UpTo a b (k + 1) (sat (t + t)) := by
  obtain ⟨rfl, _, _⟩ := h
  exact ⟨by rw [sat_twice, Int.pow_succ, Int.mul_assoc], by omega, by omega⟩
theorem UpTo.ends {a b t : Int} {k : Nat} (h : UpTo a b k t) (h1 : ¬(k < 70 ∧ (k : Int) < b)) : shiftOf a b = t := by
  obtain ⟨rfl, _, _⟩ := h
  unfold shiftOf; rw [if_neg (by omega)]
  by_cases hk : k < 70
  · have : b = k := by omega
    subst this
    by_cases h6 : k ≤ 63
    · rw [show min (k : Int) 63 = k by omega]; simp
    · rw [show min (k : Int) 63 = 63 by omega, shl_end (n := k) (by omega)]; rfl
  · rw [show min b 63 = 63 by omega, shl_end (n := k) (by omega)]; rfl
/-- what the second loop has come to -/
def DownTo (a b : Int) (k : Nat) (t : Int) : Prop := t = a / 2 ^ k ∧ (k : Int) ≤ -b ∧ k ≤ 70 ∧ -9223372036854775808 ≤ t ∧ t ≤ 9223372036854775807
theorem DownTo.next {a b t : Int} {k : Nat} (h : DownTo a b k t) (h1 : (k : Int) < -b) (h2 : k < 70) {u : Int} (hu : u = t / 2) : DownTo a b (k + 1) u := by
  obtain ⟨h3, _, _, _, _⟩ := h
  refine ⟨?_, by omega, by omega, by omega, by omega⟩
  rw [hu, h3, Int.pow_succ, Int.ediv_ediv_of_nonneg (Int.le_of_lt (Int.pow_pos (by decide)))]
theorem DownTo.ends {a b t : Int} {k : Nat} (ha : -9223372036854775808 ≤ a) (ha' : a ≤ 9223372036854775807) (hb : b < 0) (h : DownTo a b k t) (h1 : ¬(k < 70 ∧ (k : Int) < -b)) : shiftOf a b = t := by
  obtain ⟨rfl, _, _⟩ := h
  unfold shiftOf; rw [if_pos hb]
  by_cases hk : k < 70
  · have : -b = k := by omega
    rw [this]
    by_cases h6 : k ≤ 63
    · rw [show min (k : Int) 63 = k by omega]; simp
    · rw [show min (k : Int) 63 = 63 by omega, shr_end (n := k) ha ha' (by omega)]; rfl
  · rw [show min (-b) 63 = 63 by omega, shr_end (n := k) ha ha' (by omega)]; rfl

set_option maxHeartbeats 1000000 in
theorem numsShifts_up {a b : Int} (ha : -9223372036854775808 ≤ a) (ha' : a ≤ 9223372036854775807) (hb : -9223372036854775808 ≤ b) (hb' : b ≤ 9223372036854775807) (h0 : 0 ≤ b) (w : World) (hl : StepsLaid w) :
    Calls Tryd.prog 5 #[.int .i64 a, .int .i64 b] w fun e w' => e = .returned (.bool true) ∧ w = w' := by
  go_enter Tryd.func5, Tryd.ntmps5
  go_wp2_with (go_at_call 9; refine (lives01 _ hl).mono ?_; rintro e w' ⟨rfl, rfl⟩)
  go_loop [5, 6] (fun t k => ∃ (k' : Nat) (t' : Int), UpTo a b k' t' ∧ -9223372036854775808 ≤ t' ∧ t' ≤ 9223372036854775807 ∧ t = .int .i64 t' ∧ k = .int .i64 k') (fun _ k => 70 - (intOf k).toNat)
  case atStart => exact ⟨0, a, ⟨by simp; exact (sat_in ha ha').symm, by omega, by omega⟩, ha, ha', rfl, rfl⟩
  case round =>
    obtain ⟨k', t', hR, hlo, hhi, rfl, rfl⟩ := hrel
    have hk70 : k' ≤ 70 := hR.2.2
    by_cases hk : k' < 70 ∧ (k' : Int) < b
    · obtain ⟨hk1, hk2⟩ := hk
      go_wp2_with (go_at_call 10; refine (sum01 hlo hhi hlo hhi _).mono ?_; rintro e w' ⟨rfl, rfl⟩)
      all_goals
        go_round
        case rel => exact ⟨k' + 1, _, hR.next hk2 hk1, sat_lo _, sat_hi _, rfl, by go_num⟩
        case measure => simp [intOf]; omega
    · have hE := Lib.hid (hR.ends hk)
      clear hR
      by_cases hk1 : k' < 70
      · have hk2 : ¬(k' : Int) < b := fun h => hk ⟨hk1, h⟩
        clear hk
        go_wp2
        go_loop [5, 7, 8] (fun t k _ => ∃ (k2 : Nat) (t2 : Int), (k2 = 0 ∧ t2 = t') ∧ t = .int .i64 t2 ∧ k = .int .i64 k2) (fun _ k _ => 70 - (intOf k).toNat)
        case atStart => exact ⟨0, _, ⟨rfl, rfl⟩, rfl, rfl⟩
        case round =>
          obtain ⟨_, _, ⟨rfl, rfl⟩, rfl, rfl⟩ := hrel
          have e1 := hE.out
          go_wp2_with (go_at_call 15; refine (shift_any ha ha' hb hb' _).mono ?_; rintro e w' ⟨rfl, rfl⟩)
          go_ret
          exact ⟨rfl, rfl⟩
      · clear hk
        go_wp2
        go_loop [5, 7, 8] (fun t k _ => ∃ (k2 : Nat) (t2 : Int), (k2 = 0 ∧ t2 = t') ∧ t = .int .i64 t2 ∧ k = .int .i64 k2) (fun _ k _ => 70 - (intOf k).toNat)
        case atStart => exact ⟨0, _, ⟨rfl, rfl⟩, rfl, rfl⟩
        case round =>
          obtain ⟨_, _, ⟨rfl, rfl⟩, rfl, rfl⟩ := hrel
          have e1 := hE.out
          go_wp2_with (go_at_call 15; refine (shift_any ha ha' hb hb' _).mono ?_; rintro e w' ⟨rfl, rfl⟩)
          go_ret
          exact ⟨rfl, rfl⟩

set_option maxHeartbeats 1000000 in
theorem numsShifts_down {a b : Int} (ha : -9223372036854775808 ≤ a) (ha' : a ≤ 9223372036854775807) (hb : -9223372036854775808 ≤ b) (hb' : b ≤ 9223372036854775807) (h0 : b < 0) (w : World) (hl : StepsLaid w) :
    Calls Tryd.prog 5 #[.int .i64 a, .int .i64 b] w fun e w' => e = .returned (.bool true) ∧ w = w' := by
  go_enter Tryd.func5, Tryd.ntmps5
  go_wp2_with (go_at_call 9; refine (lives01 _ hl).mono ?_; rintro e w' ⟨rfl, rfl⟩)
  go_loop [5, 6] (fun t k => ∃ (k' : Nat) (t' : Int), k' = 0 ∧ a = t' ∧ t = .int .i64 t' ∧ k = .int .i64 k') (fun _ k => 70 - (intOf k).toNat)
  case atStart => exact ⟨0, a, rfl, rfl, rfl, rfl⟩
  case round =>
    obtain ⟨_, _, rfl, rfl, rfl, rfl⟩ := hrel
    go_wp2
    go_loop [5, 7, 8] (fun t k _ => ∃ (k' : Nat) (t' : Int), DownTo a b k' t' ∧ t = .int .i64 t' ∧ k = .int .i64 k') (fun _ k _ => 70 - (intOf k).toNat)
    case atStart => exact ⟨0, a, ⟨by simp, by omega, by omega, ha, ha'⟩, rfl, rfl⟩
    case round =>
      obtain ⟨k', t', hR, rfl, rfl⟩ := hrel
      have hk70 : k' ≤ 70 := hR.2.2.1
      have hlo := hR.2.2.2.1
      have hhi := hR.2.2.2.2
      by_cases hk : k' < 70 ∧ (k' : Int) < -b
      · obtain ⟨hk1, hk2⟩ := hk
        by_cases hm : b < -100
        · have e100 : decide ((k' : Int) < 100) = true := by simp; omega
          by_cases hs : t' < 0
          · go_wp2
            · go_round
              case rel => exact ⟨k' + 1, t' / 2, hR.next hk2 hk1 rfl, eq_i64 (half_odd hlo hs ‹_›), by go_num⟩
              case measure => simp [intOf]; omega
            · go_round
              case rel => exact ⟨k' + 1, t' / 2, hR.next hk2 hk1 rfl, eq_i64 (half_even hs ‹_›), by go_num⟩
              case measure => simp [intOf]; omega
          · go_wp2
            all_goals
              go_round
              case rel => exact ⟨k' + 1, t' / 2, hR.next hk2 hk1 rfl, rfl, by go_num⟩
              case measure => simp [intOf]; omega
        · have e100 : max b (-100) = b := by omega
          by_cases hs : t' < 0
          · go_wp2
            · go_round
              case rel => exact ⟨k' + 1, t' / 2, hR.next hk2 hk1 rfl, eq_i64 (half_odd hlo hs ‹_›), by go_num⟩
              case measure => simp [intOf]; omega
            · go_round
              case rel => exact ⟨k' + 1, t' / 2, hR.next hk2 hk1 rfl, eq_i64 (half_even hs ‹_›), by go_num⟩
              case measure => simp [intOf]; omega
          · go_wp2
            all_goals
              go_round
              case rel => exact ⟨k' + 1, t' / 2, hR.next hk2 hk1 rfl, rfl, by go_num⟩
              case measure => simp [intOf]; omega
      · have hE := Lib.hid (hR.ends ha ha' h0 hk)
        clear hR
        by_cases hk1 : k' < 70
        · have hk2 : ¬(k' : Int) < -b := fun h => hk ⟨hk1, h⟩
          have hm : max b (-100) = b := by omega
          clear hk
          have e1 := hE.out
          go_wp2_with (go_at_call 15; refine (shift_any ha ha' hb hb' _).mono ?_; rintro e w' ⟨rfl, rfl⟩)
          all_goals
            go_ret
            exact ⟨rfl, rfl⟩
        · clear hk
          have e1 := hE.out
          go_wp2_with (go_at_call 15; refine (shift_any ha ha' hb hb' _).mono ?_; rintro e w' ⟨rfl, rfl⟩)
          all_goals
            go_ret
            exact ⟨rfl, rfl⟩

theorem numsShifts_walk {a b : Int} (ha : -9223372036854775808 ≤ a) (ha' : a ≤ 9223372036854775807) (hb : -9223372036854775808 ≤ b) (hb' : b ≤ 9223372036854775807) (w : World) (hl : StepsLaid w) :
    Calls Tryd.prog 5 #[.int .i64 a, .int .i64 b] w fun e w' => e = .returned (.bool true) ∧ w = w' := by
  by_cases h0 : 0 ≤ b
  · exact numsShifts_up ha ha' hb hb' h0 w hl
  · exact numsShifts_down ha ha' hb hb' (by omega) w hl
end Go.Proofs.YtfblnijoojhkeaaDoor
