/- WindowOf, walked. -/
import Derived.Test.YtfbipeppnffmeaaWiLives
namespace Go.Proofs.Ytfbipeppnffmeaa
open Go.RowKit

/-- the law's own width -/
theorem lwidth_any (w : World) (t : Int) :
    Calls Try.prog 8 #[.int .i64 t] w fun e w' => e = .returned (.int .i64 (widthW t)) ∧ w' = w := by
  rcases width_four t with ⟨rfl, e⟩ | ⟨rfl, e⟩ | ⟨rfl, e⟩ | ⟨n0, n1, n2, e⟩
  · rw [e]
    go_enter Try.func8, Try.ntmps8
    go_wp2
    go_ret
    exact ⟨rfl, rfl⟩
  · rw [e]
    go_enter Try.func8, Try.ntmps8
    go_wp2
    go_ret
    exact ⟨rfl, rfl⟩
  · rw [e]
    go_enter Try.func8, Try.ntmps8
    go_wp2
    go_ret
    exact ⟨rfl, rfl⟩
  · rw [e]
    have t0 : (t == 0) = false := by simpa using n0
    have t1 : (t == 1) = false := by simpa using n1
    have t2 : (t == 2) = false := by simpa using n2
    go_enter Try.func8, Try.ntmps8
    go_wp2
    go_ret
    exact ⟨rfl, rfl⟩
/-- a window ends at now just if now is in a later one -/
theorem closed_law {t a n : Int} (hw : 0 < widthW t) (ha : 0 ≤ a) : closedW t a n = decide (a / widthW t * widthW t + widthW t ≤ n) := by
  have e1 : hasW t a = true := has_iff.2 ⟨hw, ha⟩
  have e2 : startW t a = a - a % widthW t := by unfold startW; rw [if_pos e1]
  unfold closedW
  rw [e1, Bool.true_and, e2]
  refine decide_eq_decide.2 ?_
  by_cases hn : 0 ≤ n
  · have e3 : hasW t n = true := has_iff.2 ⟨hw, hn⟩
    have e4 : startW t n = n - n % widthW t := by unfold startW; rw [if_pos e3]
    rw [e4]
    rcases width_four t with ⟨_, e⟩ | ⟨_, e⟩ | ⟨_, e⟩ | ⟨_, _, _, e⟩
    · rw [e]; omega
    · rw [e]; omega
    · rw [e]; omega
    · omega
  · have e3 : startW t n = 0 := by unfold startW; rw [if_neg (fun h => hn (has_iff.1 h).2)]
    rw [e3]
    rcases width_four t with ⟨_, e⟩ | ⟨_, e⟩ | ⟨_, e⟩ | ⟨_, _, _, e⟩
    · rw [e]; omega
    · rw [e]; omega
    · rw [e]; omega
    · omega
theorem start_law {t a : Int} (hw : 0 < widthW t) (ha : 0 ≤ a) : startW t a = a / widthW t * widthW t := by
  rw [start_at ha, if_neg (by omega)]
  have := Int.emod_add_mul_ediv a (widthW t)
  rw [Int.mul_comm (a / widthW t)]; omega
theorem end_law {t a : Int} (hw : 0 < widthW t) (ha : 0 ≤ a) (hb : a < 4611686018427387904) : endW t a = a / widthW t * widthW t + widthW t := by
  have e1 : hasW t a = true := has_iff.2 ⟨hw, ha⟩
  unfold endW
  rw [if_pos e1, ← start_law hw ha]
  have := width_range t
  have h2 : startW t a ≤ a := by
    rw [start_at ha, if_neg (by omega)]
    have := Int.emod_nonneg a (show widthW t ≠ 0 by omega)
    omega
  omega
set_option maxHeartbeats 16000000 in
set_option maxRecDepth 1000000 in
theorem windowOf_walk {t a n : Int} (h0 : -9223372036854775808 ≤ t) (h1 : t ≤ 9223372036854775807) (h2 : -9223372036854775808 ≤ a) (h3 : a ≤ 9223372036854775807) (h4 : -9223372036854775808 ≤ n) (h5 : n ≤ 9223372036854775807) (w : World) :
    Calls Try.prog 3 #[.int .i64 t, .int .i64 a, .int .i64 n] w fun e w' => e = .returned (.bool true) ∧ Below w.heap.size w w' := by
  by_cases h62 : 4611686018427387904 ≤ a
  · have t62 : decide (4611686018427387904 ≤ a) = true := decide_eq_true h62
    clear h62
    go_enter Try.func3, Try.ntmps3
    repeat (first | go_values | go_skip | go_guarded | go_step)
    refine (wilives_any w).mono ?_
    rintro e W1 ⟨rfl, hb⟩
    have HB1 := Lib.hid hb
    clear hb
    dsimp only
    repeat (first | go_values | go_skip | go_guarded | go_step)
    refine (wilives_any W1).mono ?_
    rintro e W2 ⟨rfl, hb⟩
    have HB2 := Lib.hid (HB1.out.trans (hb.mono HB1.out.size))
    clear hb
    dsimp only
    repeat (first | go_values | go_skip | go_guarded | go_step | go_upon)
    go_ret
    exact ⟨rfl, HB2.out⟩
  have t62 : decide (4611686018427387904 ≤ a) = false := decide_eq_false h62
  obtain ⟨W, hW⟩ : ∃ W, W = widthW t := ⟨_, rfl⟩
  obtain ⟨S, hS⟩ : ∃ S, S = startW t a := ⟨_, rfl⟩
  obtain ⟨E, hE⟩ : ∃ E, E = endW t a := ⟨_, rfl⟩
  obtain ⟨C, hC⟩ : ∃ C, C = closedW t a n := ⟨_, rfl⟩
  have HLW : Hid (∀ V, Calls Try.prog 8 #[.int .i64 t] V fun e w' => e = .returned (.int .i64 W) ∧ w' = V) := Lib.hid fun V => by rw [hW]; exact lwidth_any V t
  have HWI : Hid (∀ V, Calls Try.prog 11 #[.int .i64 t] V fun e w' => e = .returned (.int .i64 W) ∧ w' = V) := Lib.hid fun V => by rw [hW]; exact wiwidth_any V t h0 h1
  have HOF : Hid (∀ V, Calls Try.prog 9 #[.int .i64 t, .int .i64 a] V fun e w' => e = .returned (.agg #[.int .i64 S, .int .i64 E]) ∧ Below V.heap.size V w') := Lib.hid fun V => by rw [hS, hE]; exact wiof_any V t a h0 h1 h2 h3
  have HST : Hid (∀ V, Calls Try.prog 10 #[.int .i64 t, .int .i64 a] V fun e w' => e = .returned (.int .i64 S) ∧ w' = V) := Lib.hid fun V => by rw [hS]; exact wistart_any V t a h0 h1 h2 h3
  have HCL : Hid (∀ V, Calls Try.prog 12 #[.int .i64 t, .int .i64 a, .int .i64 n] V fun e w' => e = .returned (.bool C) ∧ w' = V) := Lib.hid fun V => by rw [hC]; exact wiclosed_any V t a n h0 h1 h2 h3 h4 h5
  by_cases hz : W = 0
  · have hh : hasW t a = false := by unfold hasW; rw [← hW, hz]; rfl
    obtain rfl : S = 0 := by rw [hS]; unfold startW; rw [hh]; rfl
    obtain rfl : E = 0 := by rw [hE]; unfold endW; rw [hh]; rfl
    obtain rfl : C = false := by rw [hC]; unfold closedW; rw [hh]; rfl
    subst hz
    clear h62 hW hS hE hC hh h0 h1 h2 h3 h4 h5
    go_enter Try.func3, Try.ntmps3
    repeat (first | go_values | go_skip | go_guarded | go_step)
    refine (wilives_any w).mono ?_
    rintro e W1 ⟨rfl, hb⟩
    have HB1 := Lib.hid hb
    clear hb
    dsimp only
    repeat (first | go_values | go_skip | go_guarded | go_step)
    refine (HLW.out W1).mono ?_
    rintro e Wx ⟨rfl, hw⟩; replace hw := hw.symm; subst hw
    dsimp only
    repeat (first | go_values | go_skip | go_guarded | go_step)
    refine (HOF.out W1).mono ?_
    rintro e W2 ⟨rfl, hb⟩
    have HB2 := Lib.hid (HB1.out.trans (hb.mono HB1.out.size))
    clear hb HB1
    dsimp only
    repeat (first | go_values | go_skip | go_guarded | go_step)
    refine (HST.out W2).mono ?_
    rintro e Wx ⟨rfl, hw⟩; replace hw := hw.symm; subst hw
    dsimp only
    go_upto_region 5 with fail
    refine wp_name fun W3 hW3 => ?_
    obtain ⟨Q, hQ⟩ : ∃ Q, Q = W2.heap.size := ⟨_, rfl⟩
    have HR3 : Hid (RgAt W3 Q 0 0) := Lib.hid (by rw [hW3.out, hQ]; exact RgAt.new W2 _ _)
    have HB3 : Hid (Below w.heap.size w W3) := Lib.hid (HB2.out.trans ((show Below W2.heap.size W2 W3 by rw [hW3.out]; exact (Below.refl _ W2).alloc (Nat.le_refl _) _).mono HB2.out.size))
    rw [← hQ]
    clear hW3 hQ HB2
    obtain ⟨c0, c1, -, -⟩ := HR3.out.cells
    repeat (first | go_values | go_skip | go_guarded | go_step)
    refine (HWI.out W3).mono ?_
    rintro e Wx ⟨rfl, hw⟩; replace hw := hw.symm; subst hw
    dsimp only
    repeat (first | go_values | go_skip | go_guarded | go_step)
    refine (HCL.out W3).mono ?_
    rintro e Wx ⟨rfl, hw⟩; replace hw := hw.symm; subst hw
    dsimp only
    repeat (first | go_values | go_skip | go_guarded | go_step | go_upon)
    go_ret
    exact ⟨rfl, HB3.out⟩
  have hr := width_range t
  rw [← hW] at hr
  have tz : (W == 0) = false := by simpa using hz
  by_cases ha : a < 0
  · have ta : decide (a < 0) = true := decide_eq_true ha
    have hh : hasW t a = false := by unfold hasW; rw [decide_eq_false (show ¬ 0 ≤ a by omega), Bool.and_false]
    obtain rfl : S = 0 := by rw [hS]; unfold startW; rw [hh]; rfl
    obtain rfl : E = 0 := by rw [hE]; unfold endW; rw [hh]; rfl
    obtain rfl : C = false := by rw [hC]; unfold closedW; rw [hh]; rfl
    clear h62 hW hS hE hC hh h0 h1 h2 h3 h4 h5 ha hr hz
    go_enter Try.func3, Try.ntmps3
    repeat (first | go_values | go_skip | go_guarded | go_step)
    refine (wilives_any w).mono ?_
    rintro e W1 ⟨rfl, hb⟩
    have HB1 := Lib.hid hb
    clear hb
    dsimp only
    repeat (first | go_values | go_skip | go_guarded | go_step)
    refine (HLW.out W1).mono ?_
    rintro e Wx ⟨rfl, hw⟩; replace hw := hw.symm; subst hw
    dsimp only
    repeat (first | go_values | go_skip | go_guarded | go_step)
    refine (HOF.out W1).mono ?_
    rintro e W2 ⟨rfl, hb⟩
    have HB2 := Lib.hid (HB1.out.trans (hb.mono HB1.out.size))
    clear hb HB1
    dsimp only
    repeat (first | go_values | go_skip | go_guarded | go_step)
    refine (HST.out W2).mono ?_
    rintro e Wx ⟨rfl, hw⟩; replace hw := hw.symm; subst hw
    dsimp only
    go_upto_region 5 with fail
    refine wp_name fun W3 hW3 => ?_
    obtain ⟨Q, hQ⟩ : ∃ Q, Q = W2.heap.size := ⟨_, rfl⟩
    have HR3 : Hid (RgAt W3 Q 0 0) := Lib.hid (by rw [hW3.out, hQ]; exact RgAt.new W2 _ _)
    have HB3 : Hid (Below w.heap.size w W3) := Lib.hid (HB2.out.trans ((show Below W2.heap.size W2 W3 by rw [hW3.out]; exact (Below.refl _ W2).alloc (Nat.le_refl _) _).mono HB2.out.size))
    rw [← hQ]
    clear hW3 hQ HB2
    obtain ⟨c0, c1, -, -⟩ := HR3.out.cells
    repeat (first | go_values | go_skip | go_guarded | go_step)
    refine (HWI.out W3).mono ?_
    rintro e Wx ⟨rfl, hw⟩; replace hw := hw.symm; subst hw
    dsimp only
    repeat (first | go_values | go_skip | go_guarded | go_step)
    refine (HCL.out W3).mono ?_
    rintro e Wx ⟨rfl, hw⟩; replace hw := hw.symm; subst hw
    dsimp only
    repeat (first | go_values | go_skip | go_guarded | go_step | go_upon)
    go_ret
    exact ⟨rfl, HB3.out⟩
  have ta : decide (a < 0) = false := decide_eq_false ha
  have hp : 0 < widthW t := by omega
  have hE2 := hE.trans (end_law hp (by omega) (by omega))
  have hS2 := hS.trans (start_law hp (by omega))
  have hC2 := hC.trans (closed_law hp (by omega))
  rw [← hW] at hE2 hS2 hC2
  have hSr := start_range t h3
  rw [← hS] at hSr
  have hSa : S ≤ a := by
    have := start_at (t := t) (show 0 ≤ a by omega)
    rw [← hS, ← hW, if_neg hz] at this
    have := Int.emod_nonneg a hz
    omega
  have HQ : Hid (a.tdiv W = a / W) := Lib.hid (Int.tdiv_eq_ediv_of_nonneg (by omega))
  obtain ⟨D, hD⟩ : ∃ D, D = a / W := ⟨_, rfl⟩
  rw [← hD] at hE2 hS2 hC2 HQ
  have q1 : a.tdiv W = D := HQ.out
  have r1 : 0 ≤ D := by rw [hD]; exact Int.ediv_nonneg (by omega) (by omega)
  have r2 : D ≤ a := by rw [hD]; exact Int.ediv_le_self _ (by omega)
  have q2 : wrap64 D = D := by first | (apply wrap64_id <;> omega) | (unfold wrap64; omega)
  have q3 : wrap64 (D * W) = S := by rw [← hS2]; first | (apply wrap64_id <;> omega) | (unfold wrap64; omega)
  have q4 : wrap64 (S + W) = E := by rw [hE2, ← hS2]; first | (apply wrap64_id <;> omega) | (unfold wrap64; omega)
  have q5 : (C == decide (E ≤ n)) = true := by rw [hC2, hE2]; simp
  clear h62 hW hS hE hC h0 h1 h2 h3 h4 h5 ha hr hp hE2 hS2 hC2 hSr hSa hD HQ r1 r2
  go_enter Try.func3, Try.ntmps3
  repeat (first | go_values | go_skip | go_guarded | go_step)
  refine (wilives_any w).mono ?_
  rintro e W1 ⟨rfl, hb⟩
  have HB1 := Lib.hid hb
  clear hb
  dsimp only
  repeat (first | go_values | go_skip | go_guarded | go_step)
  refine (HLW.out W1).mono ?_
  rintro e Wx ⟨rfl, hw⟩; replace hw := hw.symm; subst hw
  dsimp only
  repeat (first | go_values | go_skip | go_guarded | go_step)
  refine (HOF.out W1).mono ?_
  rintro e W2 ⟨rfl, hb⟩
  have HB2 := Lib.hid (HB1.out.trans (hb.mono HB1.out.size))
  clear hb HB1
  dsimp only
  repeat (first | go_values | go_skip | go_guarded | go_step)
  refine (HST.out W2).mono ?_
  rintro e Wx ⟨rfl, hw⟩; replace hw := hw.symm; subst hw
  dsimp only
  go_upto_region 5 with fail
  refine wp_name fun W3 hW3 => ?_
  obtain ⟨Q, hQ⟩ : ∃ Q, Q = W2.heap.size := ⟨_, rfl⟩
  have HR3 : Hid (RgAt W3 Q S E) := Lib.hid (by rw [hW3.out, hQ]; exact RgAt.new W2 _ _)
  have HB3 : Hid (Below w.heap.size w W3) := Lib.hid (HB2.out.trans ((show Below W2.heap.size W2 W3 by rw [hW3.out]; exact (Below.refl _ W2).alloc (Nat.le_refl _) _).mono HB2.out.size))
  rw [← hQ]
  clear hW3 hQ HB2
  obtain ⟨c0, c1, -, -⟩ := HR3.out.cells
  repeat (first | go_values | go_skip | go_guarded | go_step)
  refine (HWI.out W3).mono ?_
  rintro e Wx ⟨rfl, hw⟩; replace hw := hw.symm; subst hw
  dsimp only
  repeat (first | go_values | go_skip | go_guarded | go_step)
  refine (HCL.out W3).mono ?_
  rintro e Wx ⟨rfl, hw⟩; replace hw := hw.symm; subst hw
  dsimp only
  repeat (first | go_values | go_skip | go_guarded | go_step | go_upon)
  go_ret
  exact ⟨rfl, HB3.out⟩
end Go.Proofs.Ytfbipeppnffmeaa
