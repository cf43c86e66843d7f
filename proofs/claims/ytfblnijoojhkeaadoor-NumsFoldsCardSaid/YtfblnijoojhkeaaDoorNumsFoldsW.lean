/- NumsFolds walked: numbers are folded and unfolded as the document says; a width is how often a number can be halved. -/
import Derived.Test.YtfblnijoojhkeaaDoorNumLives
import Derived.Lib.Hide
namespace Go.Proofs.YtfblnijoojhkeaaDoor
open Go.RowKit

theorem fold_lo {a : Int} (ha : -9223372036854775808 ≤ a) : 0 ≤ fold a := by unfold fold; split <;> omega
theorem fold_hi {a : Int} (ha : -9223372036854775808 ≤ a) (ha' : a ≤ 9223372036854775807) : fold a ≤ 18446744073709551615 := by unfold fold; split <;> omega
theorem unfold_fold (a : Int) : unfold (fold a) = a := by unfold fold unfold; split <;> split <;> omega
theorem fold_unfold {x : Int} (hx : 0 ≤ x) : fold (unfold x) = x := by unfold fold unfold; split <;> split <;> omega
theorem unfold_lo {x : Int} (hx : 0 ≤ x) (hx' : x ≤ 18446744073709551615) : -9223372036854775808 ≤ unfold x := by unfold unfold; split <;> omega
theorem unfold_hi {x : Int} (hx : 0 ≤ x) (hx' : x ≤ 18446744073709551615) : unfold x ≤ 9223372036854775807 := by unfold unfold; split <;> omega

set_option maxHeartbeats 1000000 in
theorem numsFolds_walk {a x : Int} (ha : -9223372036854775808 ≤ a) (ha' : a ≤ 9223372036854775807) (hx : 0 ≤ x) (hx' : x ≤ 18446744073709551615) (w : World) (hl : StepsLaid w) :
    Calls Tryd.prog 7 #[.int .i64 a, .int .u64 x] w fun e w' => e = .returned (.bool true) ∧ w = w' := by
  obtain ⟨X, rfl⟩ := Int.eq_ofNat_of_zero_le hx
  by_cases hn : a < 0
  · have e1 : fold a = 2 * -(a + 1) + 1 := by unfold fold; rw [if_pos hn]; omega
    have e2 : unfold (2 * -(a + 1) + 1) = a := by rw [← e1]; exact unfold_fold a
    have e3 : fold (unfold X) = X := fold_unfold (by omega)
    have H1 := Lib.hid e1; have H2 := Lib.hid e2; have H3 := Lib.hid e3; clear e1 e2 e3
    have hX : X ≤ 18446744073709551615 := by omega
    have hW : wid X ≤ 64 := wid_le 64 (by show X < 18446744073709551616; omega)
    go_enter Tryd.func7, Tryd.ntmps7
    go_wp2_with (go_at_call 9; refine (lives01 _ hl).mono ?_; rintro e w' ⟨rfl, rfl⟩)
    go_loop [6, 7] (fun n y => ∃ n' y' : Nat, wid X = n' + wid y' ∧ y' ≤ X ∧ n = .int .i64 n' ∧ y = .int .u64 y') (fun _ y => (intOf y).toNat)
    case atStart => exact ⟨0, X, by omega, by omega, rfl, rfl⟩
    case round =>
      obtain ⟨n', y', hr, hy', rfl, rfl⟩ := hrel
      by_cases h0 : y' = 0
      · subst h0
        obtain rfl : n' = wid X := by rw [hr, wid_zero]; omega
        clear hr hy'
        have e1 := H1.out
        have e2 := H2.out
        have e3 := H3.out
        go_wp2_with (first | (go_at_call 23; refine (fold_any (by first | omega | exact unfold_lo hx hx') (by first | omega | exact unfold_hi hx hx') _).mono ?_; rintro e w' ⟨rfl, rfl⟩) | (go_at_call 24; refine (unfold_any (by omega) (by omega) _).mono ?_; rintro e w' ⟨rfl, rfl⟩) | (go_at_call 25; refine (width_any (by omega) _ hl).mono ?_; rintro e w' ⟨rfl, rfl⟩))
        go_ret
        exact ⟨rfl, rfl⟩
      · have hh := wid_half (x := y') (by omega)
        have HR : Hid (wid X = (n' + 1) + wid (y' / 2)) := by show _ = _; omega
        have hn' : n' ≤ 64 := by omega
        clear hr hh
        go_wp2
        all_goals
          go_round
          case rel => exact ⟨n' + 1, y' / 2, HR.out, by omega, by go_num, rfl⟩
          case measure => simp [intOf]; omega
  · have e1 : fold a = 2 * a := by unfold fold; rw [if_neg hn]
    have e2 : unfold (2 * a) = a := by rw [← e1]; exact unfold_fold a
    have e3 : fold (unfold X) = X := fold_unfold (by omega)
    have H1 := Lib.hid e1; have H2 := Lib.hid e2; have H3 := Lib.hid e3; clear e1 e2 e3
    have hX : X ≤ 18446744073709551615 := by omega
    have hW : wid X ≤ 64 := wid_le 64 (by show X < 18446744073709551616; omega)
    go_enter Tryd.func7, Tryd.ntmps7
    go_wp2_with (go_at_call 9; refine (lives01 _ hl).mono ?_; rintro e w' ⟨rfl, rfl⟩)
    go_loop [6, 7] (fun n y => ∃ n' y' : Nat, wid X = n' + wid y' ∧ y' ≤ X ∧ n = .int .i64 n' ∧ y = .int .u64 y') (fun _ y => (intOf y).toNat)
    case atStart => exact ⟨0, X, by omega, by omega, rfl, rfl⟩
    case round =>
      obtain ⟨n', y', hr, hy', rfl, rfl⟩ := hrel
      by_cases h0 : y' = 0
      · subst h0
        obtain rfl : n' = wid X := by rw [hr, wid_zero]; omega
        clear hr hy'
        have e1 := H1.out
        have e2 := H2.out
        have e3 := H3.out
        go_wp2_with (first | (go_at_call 23; refine (fold_any (by first | omega | exact unfold_lo hx hx') (by first | omega | exact unfold_hi hx hx') _).mono ?_; rintro e w' ⟨rfl, rfl⟩) | (go_at_call 24; refine (unfold_any (by omega) (by omega) _).mono ?_; rintro e w' ⟨rfl, rfl⟩) | (go_at_call 25; refine (width_any (by omega) _ hl).mono ?_; rintro e w' ⟨rfl, rfl⟩))
        go_ret
        exact ⟨rfl, rfl⟩
      · have hh := wid_half (x := y') (by omega)
        have HR : Hid (wid X = (n' + 1) + wid (y' / 2)) := by show _ = _; omega
        have hn' : n' ≤ 64 := by omega
        clear hr hh
        go_wp2
        all_goals
          go_round
          case rel => exact ⟨n' + 1, y' / 2, HR.out, by omega, by go_num, rfl⟩
          case measure => simp [intOf]; omega
end Go.Proofs.YtfblnijoojhkeaaDoor
