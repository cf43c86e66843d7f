/- NumsMuls walked: products are the whole numbers', saturated. -/
import Derived.Test.YtfblnijoojhkeaaDoorNumLives
import Derived.Test.YtfblnijoojhkeaaDoorNumMul
import Derived.Lib.Hide
namespace Go.Proofs.YtfblnijoojhkeaaDoor
open Go.RowKit

theorem ret_bool {a : Bool} (h : a = true) : Ending.returned (.bool a) = .returned (.bool true) := by rw [h]
theorem wrap64_id {x : Int} (h : -9223372036854775808 ≤ x) (h' : x ≤ 9223372036854775807) : wrap64 x = x := by unfold wrap64; omega
theorem sat_wrap {x : Int} (h : -9223372036854775808 ≤ x) (h' : x ≤ 9223372036854775807) : (sat x == wrap64 x) = true := by rw [sat_in h h', wrap64_id h h']; simp
theorem pos_mul {x y : Int} (hx : 1 ≤ x) (hy : 1 ≤ y) : 1 ≤ x * y := by
  have := Int.mul_le_mul hx hy (by decide) (by omega); omega

section
variable {x y : Int} (hx : 1 ≤ x) (hx' : x ≤ 9223372036854775807) (hy : 1 ≤ y) (hy' : y ≤ 9223372036854775807)
include hx hx' hy hy'

set_option maxHeartbeats 1000000 in
theorem numsMuls_pp (w : World) (hl : StepsLaid w) :
    Calls Tryd.prog 4 #[.int .i64 x, .int .i64 y] w fun e w' => e = .returned (.bool true) ∧ w = w' := by
  have HP := Lib.hid (pos_mul hx hy)
  have HE : Hid (x * y = x * y) := rfl
  have zx : (x == 0) = false := by rw [beq_eq_false_iff_ne]; omega
  have mx : (x == -9223372036854775808) = false := by rw [beq_eq_false_iff_ne]; omega
  have sx : decide (x < 0) = false := by simp; omega
  have zy : (y == 0) = false := by rw [beq_eq_false_iff_ne]; omega
  have my : (y == -9223372036854775808) = false := by rw [beq_eq_false_iff_ne]; omega
  have sy : decide (y < 0) = false := by simp; omega
  by_cases h : x * y ≤ 9223372036854775807
  · have hq : x ≤ 9223372036854775807 / y := (Int.le_ediv_iff_mul_le (by omega)).2 h
    have H := Lib.hid h; clear h
    go_enter Tryd.func4, Tryd.ntmps4
    go_wp2_with (first | (go_at_call 9; refine (lives01 _ hl).mono ?_; rintro e w' ⟨rfl, rfl⟩) | (go_at_call 14; refine (mul_any (by omega) (by omega) (by omega) (by omega) _).mono ?_; rintro e w' ⟨rfl, rfl⟩))
    all_goals
      go_ret
      exact ⟨ret_bool (by have e := HE.out; have p := HP.out; have h := H.out; exact sat_wrap (by omega) (by omega)), rfl⟩
  · have hq : 9223372036854775807 / y < x := Int.not_le.1 (fun h2 => h ((Int.le_ediv_iff_mul_le (by omega)).1 h2))
    have hq' : decide (x ≤ 9223372036854775807 / y) = false := by simp; omega
    have H := Lib.hid h; clear h hq
    go_enter Tryd.func4, Tryd.ntmps4
    go_wp2_with (first | (go_at_call 9; refine (lives01 _ hl).mono ?_; rintro e w' ⟨rfl, rfl⟩) | (go_at_call 14; refine (mul_any (by omega) (by omega) (by omega) (by omega) _).mono ?_; rintro e w' ⟨rfl, rfl⟩))
    all_goals
      go_ret
      exact ⟨ret_bool (by have e := HE.out; have h := H.out; rw [sat_over (by omega)]; rfl), rfl⟩

set_option maxHeartbeats 1000000 in
theorem numsMuls_nn (w : World) (hl : StepsLaid w) :
    Calls Tryd.prog 4 #[.int .i64 (-x), .int .i64 (-y)] w fun e w' => e = .returned (.bool true) ∧ w = w' := by
  have HP := Lib.hid (pos_mul hx hy)
  have HE : Hid (-x * -y = x * y) := Int.neg_mul_neg x y
  have zx : (-x == 0) = false := by rw [beq_eq_false_iff_ne]; omega
  have mx : (-x == -9223372036854775808) = false := by rw [beq_eq_false_iff_ne]; omega
  have sx : decide (0 < x) = true := by simp; omega
  have zy : (-y == 0) = false := by rw [beq_eq_false_iff_ne]; omega
  have my : (-y == -9223372036854775808) = false := by rw [beq_eq_false_iff_ne]; omega
  have sy : decide (0 < y) = true := by simp; omega
  by_cases h : x * y ≤ 9223372036854775807
  · have hq : x ≤ 9223372036854775807 / y := (Int.le_ediv_iff_mul_le (by omega)).2 h
    have H := Lib.hid h; clear h
    go_enter Tryd.func4, Tryd.ntmps4
    go_wp2_with (first | (go_at_call 9; refine (lives01 _ hl).mono ?_; rintro e w' ⟨rfl, rfl⟩) | (go_at_call 14; refine (mul_any (by omega) (by omega) (by omega) (by omega) _).mono ?_; rintro e w' ⟨rfl, rfl⟩))
    all_goals
      go_ret
      exact ⟨ret_bool (by have e := HE.out; have p := HP.out; have h := H.out; rw [e]; exact sat_wrap (by omega) (by omega)), rfl⟩
  · have hq : 9223372036854775807 / y < x := Int.not_le.1 (fun h2 => h ((Int.le_ediv_iff_mul_le (by omega)).1 h2))
    have hq' : decide (x ≤ 9223372036854775807 / y) = false := by simp; omega
    have H := Lib.hid h; clear h hq
    go_enter Tryd.func4, Tryd.ntmps4
    go_wp2_with (first | (go_at_call 9; refine (lives01 _ hl).mono ?_; rintro e w' ⟨rfl, rfl⟩) | (go_at_call 14; refine (mul_any (by omega) (by omega) (by omega) (by omega) _).mono ?_; rintro e w' ⟨rfl, rfl⟩))
    all_goals
      go_ret
      exact ⟨ret_bool (by have e := HE.out; have h := H.out; rw [e, sat_over (by omega)]; rfl), rfl⟩

set_option maxHeartbeats 1000000 in
theorem numsMuls_np (w : World) (hl : StepsLaid w) :
    Calls Tryd.prog 4 #[.int .i64 (-x), .int .i64 y] w fun e w' => e = .returned (.bool true) ∧ w = w' := by
  have HP := Lib.hid (pos_mul hx hy)
  have HE : Hid (-x * y = -(x * y)) := Int.neg_mul x y
  have zx : (-x == 0) = false := by rw [beq_eq_false_iff_ne]; omega
  have mx : (-x == -9223372036854775808) = false := by rw [beq_eq_false_iff_ne]; omega
  have sx : decide (0 < x) = true := by simp; omega
  have zy : (y == 0) = false := by rw [beq_eq_false_iff_ne]; omega
  have my : (y == -9223372036854775808) = false := by rw [beq_eq_false_iff_ne]; omega
  have sy : decide (y < 0) = false := by simp; omega
  by_cases h : x * y ≤ 9223372036854775807
  · have hq : x ≤ 9223372036854775807 / y := (Int.le_ediv_iff_mul_le (by omega)).2 h
    have H := Lib.hid h; clear h
    go_enter Tryd.func4, Tryd.ntmps4
    go_wp2_with (first | (go_at_call 9; refine (lives01 _ hl).mono ?_; rintro e w' ⟨rfl, rfl⟩) | (go_at_call 14; refine (mul_any (by omega) (by omega) (by omega) (by omega) _).mono ?_; rintro e w' ⟨rfl, rfl⟩))
    all_goals
      go_ret
      exact ⟨ret_bool (by have e := HE.out; have p := HP.out; have h := H.out; rw [e]; exact sat_wrap (by omega) (by omega)), rfl⟩
  · have hq : 9223372036854775807 / y < x := Int.not_le.1 (fun h2 => h ((Int.le_ediv_iff_mul_le (by omega)).1 h2))
    have hq' : decide (x ≤ 9223372036854775807 / y) = false := by simp; omega
    by_cases h2 : x * y = 9223372036854775808
    · by_cases hx2 : x = 4611686018427387904
      · obtain rfl : y = 2 := by subst hx2; omega
        subst hx2
        clear HP HE hq hq' h h2
        have e0 : sat (-9223372036854775808) = -9223372036854775808 := by decide
        go_enter Tryd.func4, Tryd.ntmps4
        go_wp2_with (first | (go_at_call 9; refine (lives01 _ hl).mono ?_; rintro e w' ⟨rfl, rfl⟩) | (go_at_call 14; refine (mul_any (by omega) (by omega) (by omega) (by omega) _).mono ?_; rintro e w' ⟨rfl, rfl⟩))
        all_goals
          go_ret
          exact ⟨ret_bool (by first | rfl | decide), rfl⟩
      · by_cases hy2 : y = 4611686018427387904
        · obtain rfl : x = 2 := by subst hy2; omega
          subst hy2
          clear HP HE hq hq' h h2
          have e0 : sat (-9223372036854775808) = -9223372036854775808 := by decide
          go_enter Tryd.func4, Tryd.ntmps4
          go_wp2_with (first | (go_at_call 9; refine (lives01 _ hl).mono ?_; rintro e w' ⟨rfl, rfl⟩) | (go_at_call 14; refine (mul_any (by omega) (by omega) (by omega) (by omega) _).mono ?_; rintro e w' ⟨rfl, rfl⟩))
          all_goals
            go_ret
            exact ⟨ret_bool (by first | rfl | decide), rfl⟩
        · have hw : IntKind.u64.wrap (x * y) = 9223372036854775808 := by rw [h2]; decide
          have hd : (x == 9223372036854775808 / y) = true := by
            rw [beq_iff_eq, ← h2, Int.mul_ediv_cancel _ (by omega)]
          have nx : (x == 4611686018427387904) = false := by simpa using hx2
          have ny : (y == 4611686018427387904) = false := by simpa using hy2
          have H := Lib.hid h2; clear h h2 hq hx2 hy2
          go_enter Tryd.func4, Tryd.ntmps4
          go_wp2_with (first | (go_at_call 9; refine (lives01 _ hl).mono ?_; rintro e w' ⟨rfl, rfl⟩) | (go_at_call 14; refine (mul_any (by omega) (by omega) (by omega) (by omega) _).mono ?_; rintro e w' ⟨rfl, rfl⟩))
          all_goals
            go_ret
            exact ⟨ret_bool (by have e := HE.out; have h := H.out; rw [e]; exact sat_wrap (by omega) (by omega)), rfl⟩
    · have hd : (x == 9223372036854775808 / y) = false := by
        rw [beq_eq_false_iff_ne]; intro e3
        have := (Int.le_ediv_iff_mul_le (show 0 < y by omega)).1 (Int.le_of_eq e3)
        omega
      have H : Hid (9223372036854775808 < x * y) := by show _ < _; omega
      clear h h2 hq
      by_cases hx2 : x = 4611686018427387904
      · have ny : (y == 2) = false := by rw [beq_eq_false_iff_ne]; rintro rfl; have h := H.out; omega
        subst hx2
        go_enter Tryd.func4, Tryd.ntmps4
        go_wp2_with (first | (go_at_call 9; refine (lives01 _ hl).mono ?_; rintro e w' ⟨rfl, rfl⟩) | (go_at_call 14; refine (mul_any (by omega) (by omega) (by omega) (by omega) _).mono ?_; rintro e w' ⟨rfl, rfl⟩))
        all_goals
          go_ret
          exact ⟨ret_bool (by have e := HE.out; have h := H.out; first | (rw [e, sat_under (by omega)]; rfl) | (rw [sat_under (by omega)]; rfl)), rfl⟩
      · have nx : (x == 4611686018427387904) = false := by simpa using hx2
        by_cases hy2 : y = 4611686018427387904
        · subst hy2
          have gx : 2 < x := by have h := H.out; omega
          have nx2 : (x == 2) = false := by rw [beq_eq_false_iff_ne]; omega
          have nx1 : decide (x ≤ 1) = false := by simp; omega
          clear hx2
          go_enter Tryd.func4, Tryd.ntmps4
          go_wp2_with (first | (go_at_call 9; refine (lives01 _ hl).mono ?_; rintro e w' ⟨rfl, rfl⟩) | (go_at_call 14; refine (mul_any (by omega) (by omega) (by omega) (by omega) _).mono ?_; rintro e w' ⟨rfl, rfl⟩))
          all_goals
            go_ret
            exact ⟨ret_bool (by have e := HE.out; have h := H.out; first | (rw [e, sat_under (by omega)]; rfl) | (rw [sat_under (by omega)]; rfl)), rfl⟩
        · have ny : (y == 4611686018427387904) = false := by simpa using hy2
          clear hx2 hy2
          go_enter Tryd.func4, Tryd.ntmps4
          go_wp2_with (first | (go_at_call 9; refine (lives01 _ hl).mono ?_; rintro e w' ⟨rfl, rfl⟩) | (go_at_call 14; refine (mul_any (by omega) (by omega) (by omega) (by omega) _).mono ?_; rintro e w' ⟨rfl, rfl⟩))
          all_goals
            go_ret
            exact ⟨ret_bool (by have e := HE.out; have h := H.out; rw [e, sat_under (by omega)]; rfl), rfl⟩

set_option maxHeartbeats 1000000 in
theorem numsMuls_pn (w : World) (hl : StepsLaid w) :
    Calls Tryd.prog 4 #[.int .i64 x, .int .i64 (-y)] w fun e w' => e = .returned (.bool true) ∧ w = w' := by
  have HP := Lib.hid (pos_mul hx hy)
  have HE : Hid (x * -y = -(x * y)) := Int.mul_neg x y
  have zx : (x == 0) = false := by rw [beq_eq_false_iff_ne]; omega
  have mx : (x == -9223372036854775808) = false := by rw [beq_eq_false_iff_ne]; omega
  have sx : decide (x < 0) = false := by simp; omega
  have zy : (-y == 0) = false := by rw [beq_eq_false_iff_ne]; omega
  have my : (-y == -9223372036854775808) = false := by rw [beq_eq_false_iff_ne]; omega
  have sy : decide (0 < y) = true := by simp; omega
  by_cases h : x * y ≤ 9223372036854775807
  · have hq : x ≤ 9223372036854775807 / y := (Int.le_ediv_iff_mul_le (by omega)).2 h
    have H := Lib.hid h; clear h
    go_enter Tryd.func4, Tryd.ntmps4
    go_wp2_with (first | (go_at_call 9; refine (lives01 _ hl).mono ?_; rintro e w' ⟨rfl, rfl⟩) | (go_at_call 14; refine (mul_any (by omega) (by omega) (by omega) (by omega) _).mono ?_; rintro e w' ⟨rfl, rfl⟩))
    all_goals
      go_ret
      exact ⟨ret_bool (by have e := HE.out; have p := HP.out; have h := H.out; rw [e]; exact sat_wrap (by omega) (by omega)), rfl⟩
  · have hq : 9223372036854775807 / y < x := Int.not_le.1 (fun h2 => h ((Int.le_ediv_iff_mul_le (by omega)).1 h2))
    have hq' : decide (x ≤ 9223372036854775807 / y) = false := by simp; omega
    by_cases h2 : x * y = 9223372036854775808
    · by_cases hx2 : x = 4611686018427387904
      · obtain rfl : y = 2 := by subst hx2; omega
        subst hx2
        clear HP HE hq hq' h h2
        have e0 : sat (-9223372036854775808) = -9223372036854775808 := by decide
        go_enter Tryd.func4, Tryd.ntmps4
        go_wp2_with (first | (go_at_call 9; refine (lives01 _ hl).mono ?_; rintro e w' ⟨rfl, rfl⟩) | (go_at_call 14; refine (mul_any (by omega) (by omega) (by omega) (by omega) _).mono ?_; rintro e w' ⟨rfl, rfl⟩))
        all_goals
          go_ret
          exact ⟨ret_bool (by first | rfl | decide), rfl⟩
      · by_cases hy2 : y = 4611686018427387904
        · obtain rfl : x = 2 := by subst hy2; omega
          subst hy2
          clear HP HE hq hq' h h2
          have e0 : sat (-9223372036854775808) = -9223372036854775808 := by decide
          go_enter Tryd.func4, Tryd.ntmps4
          go_wp2_with (first | (go_at_call 9; refine (lives01 _ hl).mono ?_; rintro e w' ⟨rfl, rfl⟩) | (go_at_call 14; refine (mul_any (by omega) (by omega) (by omega) (by omega) _).mono ?_; rintro e w' ⟨rfl, rfl⟩))
          all_goals
            go_ret
            exact ⟨ret_bool (by first | rfl | decide), rfl⟩
        · have hw : IntKind.u64.wrap (x * y) = 9223372036854775808 := by rw [h2]; decide
          have hd : (x == 9223372036854775808 / y) = true := by
            rw [beq_iff_eq, ← h2, Int.mul_ediv_cancel _ (by omega)]
          have nx : (x == 4611686018427387904) = false := by simpa using hx2
          have ny : (y == 4611686018427387904) = false := by simpa using hy2
          have H := Lib.hid h2; clear h h2 hq hx2 hy2
          go_enter Tryd.func4, Tryd.ntmps4
          go_wp2_with (first | (go_at_call 9; refine (lives01 _ hl).mono ?_; rintro e w' ⟨rfl, rfl⟩) | (go_at_call 14; refine (mul_any (by omega) (by omega) (by omega) (by omega) _).mono ?_; rintro e w' ⟨rfl, rfl⟩))
          all_goals
            go_ret
            exact ⟨ret_bool (by have e := HE.out; have h := H.out; rw [e]; exact sat_wrap (by omega) (by omega)), rfl⟩
    · have hd : (x == 9223372036854775808 / y) = false := by
        rw [beq_eq_false_iff_ne]; intro e3
        have := (Int.le_ediv_iff_mul_le (show 0 < y by omega)).1 (Int.le_of_eq e3)
        omega
      have H : Hid (9223372036854775808 < x * y) := by show _ < _; omega
      clear h h2 hq
      by_cases hx2 : x = 4611686018427387904
      · have ny : (y == 2) = false := by rw [beq_eq_false_iff_ne]; rintro rfl; have h := H.out; omega
        subst hx2
        go_enter Tryd.func4, Tryd.ntmps4
        go_wp2_with (first | (go_at_call 9; refine (lives01 _ hl).mono ?_; rintro e w' ⟨rfl, rfl⟩) | (go_at_call 14; refine (mul_any (by omega) (by omega) (by omega) (by omega) _).mono ?_; rintro e w' ⟨rfl, rfl⟩))
        all_goals
          go_ret
          exact ⟨ret_bool (by have e := HE.out; have h := H.out; first | (rw [e, sat_under (by omega)]; rfl) | (rw [sat_under (by omega)]; rfl)), rfl⟩
      · have nx : (x == 4611686018427387904) = false := by simpa using hx2
        by_cases hy2 : y = 4611686018427387904
        · subst hy2
          have gx : 2 < x := by have h := H.out; omega
          have nx2 : (x == 2) = false := by rw [beq_eq_false_iff_ne]; omega
          have nx1 : decide (x ≤ 1) = false := by simp; omega
          clear hx2
          go_enter Tryd.func4, Tryd.ntmps4
          go_wp2_with (first | (go_at_call 9; refine (lives01 _ hl).mono ?_; rintro e w' ⟨rfl, rfl⟩) | (go_at_call 14; refine (mul_any (by omega) (by omega) (by omega) (by omega) _).mono ?_; rintro e w' ⟨rfl, rfl⟩))
          all_goals
            go_ret
            exact ⟨ret_bool (by have e := HE.out; have h := H.out; first | (rw [e, sat_under (by omega)]; rfl) | (rw [sat_under (by omega)]; rfl)), rfl⟩
        · have ny : (y == 4611686018427387904) = false := by simpa using hy2
          clear hx2 hy2
          go_enter Tryd.func4, Tryd.ntmps4
          go_wp2_with (first | (go_at_call 9; refine (lives01 _ hl).mono ?_; rintro e w' ⟨rfl, rfl⟩) | (go_at_call 14; refine (mul_any (by omega) (by omega) (by omega) (by omega) _).mono ?_; rintro e w' ⟨rfl, rfl⟩))
          all_goals
            go_ret
            exact ⟨ret_bool (by have e := HE.out; have h := H.out; rw [e, sat_under (by omega)]; rfl), rfl⟩
end
end Go.Proofs.YtfblnijoojhkeaaDoor
