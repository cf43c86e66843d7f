/- Package window: a tier's width, and where a window begins. -/
import Derived.Test.YtdmlolagpbobeaaWiL
import Derived.Test.YtdmlolagpbobeaaGenOpC
import Derived.Laws.ResultCell
namespace Go.Proofs.Ytdmlolagpbobeaa
open Go.RowKit

set_option maxHeartbeats 2000000 in
theorem wiwidth_any (w : World) (t : Int) (h0 : -9223372036854775808 ≤ t) (h1 : t ≤ 9223372036854775807) :
    Calls Try.prog 28 #[.int .i64 t] w fun e w' => e = .returned (.int .i64 (widthW t)) ∧ w' = w := by
  rcases width_four t with ⟨rfl, e⟩ | ⟨rfl, e⟩ | ⟨rfl, e⟩ | ⟨n0, n1, n2, e⟩
  · rw [e]
    go_enter Try.func28, Try.ntmps28
    go_wp2
    go_ret
    exact ⟨rfl, rfl⟩
  · rw [e]
    go_enter Try.func28, Try.ntmps28
    go_wp2
    go_ret
    exact ⟨rfl, rfl⟩
  · rw [e]
    go_enter Try.func28, Try.ntmps28
    go_wp2
    go_ret
    exact ⟨rfl, rfl⟩
  · rw [e]
    have t0 : (t == 0) = false := by simpa using n0
    have t1 : (t == 1) = false := by simpa using n1
    have t2 : (t == 2) = false := by simpa using n2
    go_enter Try.func28, Try.ntmps28
    go_wp2
    go_ret
    exact ⟨rfl, rfl⟩
set_option maxHeartbeats 2000000 in
theorem wihas_any (w : World) (t a : Int) (h0 : -9223372036854775808 ≤ t) (h1 : t ≤ 9223372036854775807) :
    Calls Try.prog 33 #[.int .i64 t, .int .i64 a] w fun e w' => e = .returned (.bool (hasW t a)) ∧ w' = w := by
  have HW := Lib.hid (wiwidth_any w t h0 h1)
  obtain ⟨W, hW⟩ : ∃ W, W = widthW t := ⟨_, rfl⟩
  have HB : Hid (hasW t a = (decide (0 < W) && decide (0 ≤ a))) := Lib.hid (by rw [hW]; rfl)
  have hr : 0 ≤ W ∧ W ≤ 3600 := by rw [hW]; exact width_range t
  rw [← hW] at HW
  clear hW
  by_cases c : 0 < W
  · have tc : decide (0 < W) = true := decide_eq_true c
    by_cases d : 0 ≤ a
    · have td : decide (0 ≤ a) = true := decide_eq_true d
      go_enter Try.func33, Try.ntmps33
      go_wp2_with (go_at_call 28; refine HW.out.mono ?_; rintro e w1 ⟨rfl, rfl⟩)
      go_ret
      exact ⟨by rw [HB.out, tc, td]; rfl, rfl⟩
    · have td : decide (0 ≤ a) = false := decide_eq_false d
      go_enter Try.func33, Try.ntmps33
      go_wp2_with (go_at_call 28; refine HW.out.mono ?_; rintro e w1 ⟨rfl, rfl⟩)
      go_ret
      exact ⟨by rw [HB.out, tc, td]; rfl, rfl⟩
  · have tc : decide (0 < W) = false := decide_eq_false c
    go_enter Try.func33, Try.ntmps33
    go_wp2_with (go_at_call 28; refine HW.out.mono ?_; rintro e w1 ⟨rfl, rfl⟩)
    go_ret
    exact ⟨by rw [HB.out, tc]; rfl, rfl⟩
set_option maxHeartbeats 2000000 in
theorem wistart_any (w : World) (t a : Int) (h0 : -9223372036854775808 ≤ t) (h1 : t ≤ 9223372036854775807) (h2 : -9223372036854775808 ≤ a) (h3 : a ≤ 9223372036854775807) :
    Calls Try.prog 30 #[.int .i64 t, .int .i64 a] w fun e w' => e = .returned (.int .i64 (startW t a)) ∧ w' = w := by
  have HH := Lib.hid (wihas_any w t a h0 h1)
  have HW := Lib.hid (wiwidth_any w t h0 h1)
  cases hh : hasW t a with
  | false =>
    have hs : startW t a = 0 := by unfold startW; rw [hh]; rfl
    rw [hs]
    rw [hh] at HH
    go_enter Try.func30, Try.ntmps30
    go_wp2_with (go_at_call 33; refine HH.out.mono ?_; rintro e w1 ⟨rfl, rfl⟩)
    go_ret
    exact ⟨rfl, rfl⟩
  | true =>
    have hs : startW t a = a - a % widthW t := by unfold startW; rw [if_pos hh]
    rw [hs]
    rw [hh] at HH
    obtain ⟨W, hW⟩ : ∃ W, W = widthW t := ⟨_, rfl⟩
    have hi := has_iff.1 hh
    have hr : 0 < W ∧ W ≤ 3600 ∧ 0 ≤ a := by rw [hW]; exact ⟨hi.1, (width_range t).2, hi.2⟩
    rw [← hW] at HW ⊢
    clear hW hi hs hh
    have e1 : a.tmod W = a % W := Int.tmod_eq_emod_of_nonneg hr.2.2
    have r1 : 0 ≤ a % W := Int.emod_nonneg a (by omega)
    have r2 : a % W < W := Int.emod_lt_of_pos a hr.1
    have r3 : a % W ≤ a := by have h5 := Int.emod_add_mul_ediv a W; have h6 : 0 ≤ W * (a / W) := Int.mul_nonneg (by omega) (Int.ediv_nonneg hr.2.2 (by omega)); omega
    have e2 : wrap64 (a % W) = a % W := by first | (apply wrap64_id <;> omega) | (unfold wrap64; omega)
    have z1 : (W == 0) = false := by simp; omega
    go_enter Try.func30, Try.ntmps30
    go_wp2_with (first | (go_at_call 33; refine HH.out.mono ?_; rintro e w1 ⟨rfl, rfl⟩) | (go_at_call 28; refine HW.out.mono ?_; rintro e w1 ⟨rfl, rfl⟩))
    go_ret
    exact ⟨rfl, rfl⟩
end Go.Proofs.Ytdmlolagpbobeaa
