/- DeviceTorn, walked. -/
import Derived.Test.YtmbhnnbicdioeaaDvText
namespace Go.Proofs.Ytmbhnnbicdioeaa
open Go.RowKit

/-- behind the crash -/
def tornD (xs ys : List Nat) (keep : Nat) (n : Int) : Dev := ((((Dev.fresh 3).write 1 xs).flush).write 1 ys).crash keep 0 n
theorem torn_lies (xs ys : List Nat) (keep : Nat) (n : Int) : (tornD xs ys keep n).lies = if kept keep 0 = true then [List.replicate 64 0, (padB ys).take (tornN n) ++ (padB xs).drop (tornN n), List.replicate 64 0] else [List.replicate 64 0, padB xs, List.replicate 64 0] := by
  unfold tornD Dev.crash Dev.write Dev.flush Dev.told Dev.fresh crashed crash1 laid
  obtain ⟨Z, hZ⟩ : ∃ Z : List Nat, Z = List.replicate 64 0 := ⟨_, rfl⟩
  rw [← hZ]
  by_cases h : kept keep 0 = true
  · simp [List.zipIdx, h, List.replicate]
  · simp [List.zipIdx, h, List.replicate]
theorem torn_flat (xs ys : List Nat) (keep : Nat) (n : Int) : (tornD xs ys keep n).lies.flatten = List.replicate 64 0 ++ (padB ys).take (if kept keep 0 = true then tornN n else 0) ++ (padB xs).drop (if kept keep 0 = true then tornN n else 0) ++ List.replicate 64 0 := by
  rw [torn_lies]
  split
  · simp only [List.flatten_cons, List.flatten_nil, List.append_nil, List.append_assoc]
  · simp only [List.flatten_cons, List.flatten_nil, List.append_nil, List.append_assoc, List.take_zero, List.drop_zero]

theorem torn_size {xs ys : List Nat} (keep : Nat) (n : Int) (hx : xs.length ≤ 64) (hy : ys.length ≤ 64) : (tornD xs ys keep n).lies.flatten.length = 192 := by
  rw [torn_flat, List.length_append, List.length_append, List.length_append, List.length_replicate, List.length_take, List.length_drop, padB_length hx, padB_length hy]
  have := tornN_le n
  split <;> omega
theorem torn_text {xs ys : List Nat} {n : Int} {keep kk : Nat} (h : (keep = 1 ∧ kk = tornN n) ∨ (keep = 0 ∧ kk = 0)) (hx : (padB xs).length = 64) :
    strOf (padB []) ++ strOf (((padB ys).drop 0).take (kk - 0)) ++ strOf (((padB xs).drop kk).take (64 - kk)) ++ strOf (padB []) =
    strOf (List.replicate 64 0) ++ strOf ((padB ys).take (if kept keep 0 = true then tornN n else 0)) ++ strOf ((padB xs).drop (if kept keep 0 = true then tornN n else 0)) ++ strOf (List.replicate 64 0) := by
  have e : padB [] = List.replicate 64 0 := rfl
  rw [List.drop_zero, Nat.sub_zero, List.take_of_length_le (l := (padB xs).drop kk) (by rw [List.length_drop, hx]; omega), e]
  rcases h with ⟨rfl, rfl⟩ | ⟨rfl, rfl⟩
  · rw [if_pos (by decide)]
  · rw [if_neg (by decide)]

set_option maxHeartbeats 8000000 in
set_option maxRecDepth 1000000 in
theorem deviceTorn_walk {w : World} {v0 v1 : Value} {xs ys : List Nat} {n : Int} (hv0 : Lies w v0 xs) (_hf0 : Fits v0) (_hb0 : ∀ x ∈ xs, x < 256) (_hm0 : xs.length ≤ maxLen) (hv1 : Lies w v1 ys) (_hf1 : Fits v1) (_hb1 : ∀ x ∈ ys, x < 256) (_hm1 : ys.length ≤ maxLen)
    (_hn1 : -9223372036854775808 ≤ n) (_hn2 : n ≤ 9223372036854775807) (keptB : Bool) :
    Calls Try.prog 3 #[v0, v1, .int .i64 n, .bool keptB] w fun e w' => e = .returned (.bool true) ∧ Below w.heap.size w w' := by
  obtain ⟨a0, c0, rfl⟩ := lies_len hv0
  obtain ⟨a1, c1, rfl⟩ := lies_len hv1
  obtain ⟨lx, hlx⟩ : ∃ n, n = xs.length := ⟨_, rfl⟩
  obtain ⟨ly, hly⟩ : ∃ m, m = ys.length := ⟨_, rfl⟩
  have HV0 := Lib.hid hv0
  have HV1 := Lib.hid hv1
  have HLX := Lib.hid hlx
  have HLY := Lib.hid hly
  rw [← hlx, ← hly]
  clear hv0 hv1 hlx hly
  have HLV : Hid (∀ W, Calls Try.prog 6 #[] W fun e w' => e = .returned (.bool true) ∧ Below W.heap.size W w') := Lib.hid lives_any
  by_cases h1 : lx ≤ 64
  · have t1 : decide ((64 : Int) < (lx : Int)) = false := by simp only [decide_eq_false_iff_not]; omega
    by_cases h2 : ly ≤ 64
    · have t2 : decide ((64 : Int) < (ly : Int)) = false := by simp only [decide_eq_false_iff_not]; omega
      go_enter Try.func3, Try.ntmps3
      cases keptB
      · repeat (first | (go_at_call 6; refine (HLV.out _).mono ?_; rintro e w1 ⟨rfl, hb1⟩; have HB1 := Lib.hid hb1; clear hb1; dsimp only) | (go_at_call 7; refine (new_ok (n := 3) (by omega) (by omega) w1).mono ?_; rintro e w2 ⟨P, rfl, hd2, hb2⟩; have HD2 := Lib.hid hd2; have HB2 := Lib.hid (HB1.out.trans (hb2.mono HB1.out.size)); have HBB : Hid (w1.heap.size ≤ w2.heap.size) := Lib.hid hb2.size; clear hd2 hb2; dsimp only) | go_values | go_skip | go_guarded | go_step)
        have HBB2 := HBB
        refine (write_ok (at_ := 1) (bs := xs) HD2.out HBB2.out (by have h := lies_keep HV0.out HB2.out; rw [← HLX.out] at h; exact h) rfl rfl (by decide) (by rw [← HLX.out]; exact h1) (by decide)).mono ?_
        rintro e w3 ⟨rfl, hd3, hk3⟩
        have HD3 := Lib.hid hd3
        have HB3 := Lib.hid (HB2.out.trans ((HD2.out.below HBB2.out hk3).mono HB1.out.size))
        have HBB3 : Hid (w1.heap.size ≤ w3.heap.size) := Lib.hid (Nat.le_trans HBB2.out hk3.only.size)
        clear hd3 hk3
        dsimp only
        repeat (first | fail | go_values | go_skip | go_guarded | go_step)
        refine (flush_ok HD3.out rfl).mono ?_
        rintro e w4 ⟨rfl, hd4, hk4⟩
        have HD4 := Lib.hid hd4
        have HB4 := Lib.hid (HB3.out.trans ((HD3.out.below HBB3.out hk4).mono HB1.out.size))
        have HBB4 : Hid (w1.heap.size ≤ w4.heap.size) := Lib.hid (Nat.le_trans HBB3.out hk4.only.size)
        clear hd4 hk4
        dsimp only
        repeat (first | fail | go_values | go_skip | go_guarded | go_step)
        refine (write_ok (at_ := 1) (bs := ys) HD4.out HBB4.out (by have h := lies_keep HV1.out HB4.out; rw [← HLY.out] at h; exact h) rfl rfl (by show 1 < (Dev.told _).length; rw [Dev.told_length]; exact (by decide : 1 < 3)) (by rw [← HLY.out]; exact h2) (by show 0 ≤ 1000000000; omega)).mono ?_
        rintro e w5 ⟨rfl, hd5, hk5⟩
        have HD5 := Lib.hid hd5
        have HB5 := Lib.hid (HB4.out.trans ((HD4.out.below HBB4.out hk5).mono HB1.out.size))
        have HBB5 : Hid (w1.heap.size ≤ w5.heap.size) := Lib.hid (Nat.le_trans HBB4.out hk5.only.size)
        clear hd5 hk5
        dsimp only
        repeat (first | fail | go_values | go_skip | go_guarded | go_step)
        refine (crash_any (keep := 0) (torn := 0) (bytes := n) HD5.out (by decide)).mono ?_
        rintro e w6 ⟨rfl, hd6, hk6⟩
        have HD6 := Lib.hid hd6
        have HB6 := Lib.hid (HB5.out.trans ((HD5.out.below HBB5.out hk6).mono HB1.out.size))
        have HBB6 : Hid (w1.heap.size ≤ w6.heap.size) := Lib.hid (Nat.le_trans HBB5.out hk6.only.size)
        clear hd6 hk6
        dsimp only
        repeat (first | fail | go_values | go_skip | go_guarded | go_step)
        obtain ⟨kk, hkk⟩ : ∃ k : Nat, k = 0 := ⟨_, rfl⟩
        have hk64 : kk ≤ 64 := by rw [hkk]; omega
        obtain ⟨q, hq⟩ : ∃ q : Int, q = if 64 < n then 64 else n := ⟨_, rfl⟩
        obtain ⟨tn, htn⟩ : ∃ k : Nat, k = tornN n := ⟨_, rfl⟩
        have eQ : (if 64 < n then 64 else n) = q := hq.symm
        have eK : (if 0 < q then q else 0) = (tn : Int) := by rw [hq, htn]; unfold tornN; split <;> split <;> omega
        have HTN := Lib.hid htn
        clear hq htn
        have hkI : (kk : Int) ≤ 64 := by omega
        have HKK := Lib.hid hkk
        clear hkk
        refine wp_region_still_lit (by kernel_rfl) (by kernel_rfl) ?_
        still_step
        refine wpStill_value rfl (run_conv_op 22 9 (.tmp 45) rfl _ (.string (strOf xs)) rfl (by have h := lies_keep HV0.out HB6.out; rw [← HLX.out] at h; exact text_of (w := w6.drew) (lies_keep (w := w6) h (only_drewN (fun _ => False) w6 1 |>.below (Nat.le_refl _) (fun _ h => h.elim))) _ Try.underlying9)) ?_
        (try simp only [Act.put, List.setIfInBounds_toArray, List.set_cons_zero, List.set_cons_succ])
        still_call (full_any xs (by rw [← HLX.out]; omega) _)
        still_step
        refine wpStill_value rfl (run_conv_op 22 9 (.tmp 48) rfl _ (.string (strOf ys)) rfl (by have h := lies_keep HV1.out HB6.out; rw [← HLY.out] at h; exact text_of (w := w6.drew) (lies_keep (w := w6) h (only_drewN (fun _ => False) w6 1 |>.below (Nat.le_refl _) (fun _ h => h.elim))) _ Try.underlying9)) ?_
        (try simp only [Act.put, List.setIfInBounds_toArray, List.set_cons_zero, List.set_cons_succ])
        still_call (full_any ys (by rw [← HLY.out]; omega) _)
        repeat still_step
        refine wpStill_nil ?_
        change Exit.then _ _ Exit.normal _ w6.drew
        obtain ⟨X, hX⟩ : ∃ X, X = strOf (padB xs) := ⟨_, rfl⟩
        obtain ⟨Y, hY⟩ : ∃ Y, Y = strOf (padB ys) := ⟨_, rfl⟩
        have hxs : X.size = 64 := by rw [hX, strOf_size]; exact padB_length (by rw [← HLX.out]; exact h1)
        have hys : Y.size = 64 := by rw [hY, strOf_size]; exact padB_length (by rw [← HLY.out]; exact h2)
        rw [← hX, ← hY]
        have HX := Lib.hid hX
        have HY := Lib.hid hY
        clear hX hY
        repeat (first | fail | go_values | go_skip | go_guarded | go_step)
        obtain ⟨Z0, hZ0⟩ : ∃ Z, Z = strOf (padB []) := ⟨_, rfl⟩
        have HZ0 : Hid (∀ W, Calls Try.prog 11 #[.string ⟨#[]⟩] W fun e w' => e = .returned (.string Z0) ∧ w' = W) := Lib.hid (by rw [hZ0]; exact full_any [] (by simp))
        have HZZ := Lib.hid hZ0
        clear hZ0
        obtain ⟨Y1, hY1⟩ : ∃ Z, Z = Y.extract 0 0 := ⟨_, rfl⟩
        obtain ⟨X1, hX1⟩ : ∃ Z, Z = X.extract 0 X.size := ⟨_, rfl⟩
        have HY1 := Lib.hid hY1
        have HX1 := Lib.hid hX1
        clear hX1 hY1
        obtain ⟨IMG, hIMG⟩ : ∃ I, I = strOf (tornD xs ys 0 n).lies.flatten := ⟨_, rfl⟩
        have HIMG := Lib.hid hIMG
        clear hIMG
        obtain ⟨R1, hR1⟩ : ∃ R, R = Z0 ++ Y1 := ⟨_, rfl⟩
        obtain ⟨R2, hR2⟩ : ∃ R, R = R1 ++ X1 := ⟨_, rfl⟩
        have HR1 := Lib.hid hR1
        have HR2 := Lib.hid hR2
        clear hR1 hR2
        have HEQ : Hid (R2 ++ Z0 = IMG) := Lib.hid (by rw [HR2.out, HR1.out, HZZ.out, HY1.out, HX1.out, hxs, HX.out, HY.out, HIMG.out, strOf_extract, strOf_extract, torn_flat, strOf_append, strOf_append, strOf_append]; exact torn_text (Or.inr ⟨rfl, rfl⟩) (padB_length (by rw [← HLX.out]; exact h1)))
        have hI : IMG.size = 192 := by rw [HIMG.out, strOf_size]; exact torn_size _ _ (by rw [← HLX.out]; exact h1) (by rw [← HLY.out]; exact h2)
        have hz2 : (R2 ++ Z0).size = R1.size + X1.size + Z0.size := by rw [ByteArray.size_append, HR2.out, ByteArray.size_append]
        have hr2 : R2.size ≤ 192 := by rw [HEQ.out, hI] at hz2; rw [HR2.out, ByteArray.size_append]; omega
        have hr1 : R1.size ≤ 192 := by rw [HEQ.out, hI] at hz2; omega
        clear hz2
        refine wp_region_held_drew (S := fun _ => True) (by kernel_rfl) trivial (fun _ => ?_)
        refine anyH_take (i := 0) (some 56) (v := _) rfl rfl (by kernel_rfl) (by kernel_rfl) (by kernel_rfl) (fun _ _ _ h => h) (by rfl) (trivial) (by intro w hSw; go_simp; try with_reducible rfl) ?_
        (try simp only [Act.put, List.setIfInBounds_toArray, List.set_cons_zero, List.set_cons_succ])
        refine anyH_take (i := 4) (some 60) (v := _) rfl rfl (by kernel_rfl) (by kernel_rfl) (by kernel_rfl) (fun _ _ _ h => h) (by rfl) (trivial) (by intro w hSw; go_simp; try with_reducible rfl) ?_
        (try simp only [Act.put, List.setIfInBounds_toArray, List.set_cons_zero, List.set_cons_succ])
        refine anyH_take (i := 5) (some 61) (v := _) rfl rfl (by kernel_rfl) (by kernel_rfl) (by kernel_rfl) (fun _ _ _ h => h) (by rfl) (trivial) (by intro w hSw; go_simp; try with_reducible rfl) ?_
        (try simp only [Act.put, List.setIfInBounds_toArray, List.set_cons_zero, List.set_cons_succ])
        refine anyH_take (i := 6) (some 62) (v := _) rfl rfl (by kernel_rfl) (by kernel_rfl) (by kernel_rfl) (fun _ _ _ h => h) (by rfl) (trivial) (fun W _ => run_text_hi W (.tmp 60) (.tmp 61) rfl Y Y1 0 rfl rfl (by rw [hys]; omega) HY1.out.symm) ?_
        (try simp only [Act.put, List.setIfInBounds_toArray, List.set_cons_zero, List.set_cons_succ])
        refine anyH_take (i := 8) (some 64) (v := _) rfl rfl (by kernel_rfl) (by kernel_rfl) (by kernel_rfl) (fun _ _ _ h => h) (by rfl) (trivial) (by intro w hSw; go_simp; try with_reducible rfl) ?_
        (try simp only [Act.put, List.setIfInBounds_toArray, List.set_cons_zero, List.set_cons_succ])
        refine anyH_take (i := 9) (some 65) (v := _) rfl rfl (by kernel_rfl) (by kernel_rfl) (by kernel_rfl) (fun _ _ _ h => h) (by rfl) (trivial) (by intro w hSw; go_simp; try with_reducible rfl) ?_
        (try simp only [Act.put, List.setIfInBounds_toArray, List.set_cons_zero, List.set_cons_succ])
        refine anyH_take (i := 10) (some 66) (v := _) rfl rfl (by kernel_rfl) (by kernel_rfl) (by kernel_rfl) (fun _ _ _ h => h) (by rfl) (trivial) (fun W _ => run_text_lo W (.tmp 64) (.tmp 65) rfl X X1 0 rfl rfl (by rw [hxs]; omega) HX1.out.symm) ?_
        (try simp only [Act.put, List.setIfInBounds_toArray, List.set_cons_zero, List.set_cons_succ])
        refine wpAnyH_ready (rs := [1]) (by kernel_rfl) (by simp) (AllReadyH.cons rfl (fun K hK => ?_) AllReadyH.nil)
        go_simp
        refine (image_any HD6.out.drew.drew).mono ?_
        rintro e w7 ⟨v7, rfl, hown, hb7⟩
        have HO7 := Lib.hid hown
        have HB7 : Hid (Below w.heap.size w w7) := Lib.hid (HB6.out.trans (below_undrew (w := w6) (below_undrew (w := w6.drew) hb7) |>.mono HB6.out.size))
        obtain ⟨a7, c7, rfl⟩ := own_slice hown
        clear hown hb7
        go_wp2_with fail
        refine hK.out _ _ (trivial) (fun _ => ?_)
        clear hK K
        (try simp only [Act.put, List.setIfInBounds_toArray, List.set_cons_zero, List.set_cons_succ])
        refine anyH_mono (S' := fun W => W = w7) (fun _ _ => trivial) ?_
        have hcv : (convert 22 9 (.slice a7 ((tornD xs ys 0 n).lies.length * 64) c7)).run Try.prog w7 = .ok (.string IMG) w7 := by rw [HIMG.out]; exact text_of (ownsRow_lies HO7.out) _ Try.underlying9
        have HCV := Lib.hid hcv
        clear hcv
        refine anyH_take (i := 2) (some 58) (v := _) rfl rfl (by kernel_rfl) (by kernel_rfl) (by kernel_rfl) (fun _ _ _ h => h) (by rfl) (rfl) (fun W hW => by rw [hW]; exact run_conv_op 22 9 (.tmp 57) rfl _ (.string IMG) rfl HCV.out) ?_
        (try simp only [Act.put, List.setIfInBounds_toArray, List.set_cons_zero, List.set_cons_succ])
        refine wpAnyH_ready (rs := [3]) (by kernel_rfl) (by simp) (AllReadyH.cons rfl (fun K hK => ?_) AllReadyH.nil)
        go_simp
        refine (HZ0.out _).mono ?_
        rintro e w8 ⟨rfl, h8⟩
        have h8 := h8.symm
        subst h8
        go_wp2_with fail
        refine hK.out _ _ (rfl) (fun _ => ?_)
        clear hK K
        (try simp only [Act.put, List.setIfInBounds_toArray, List.set_cons_zero, List.set_cons_succ])
        refine anyH_take (i := 7) (some 63) (v := _) rfl rfl (by kernel_rfl) (by kernel_rfl) (by kernel_rfl) (fun _ _ _ h => h) (by rfl) (rfl) (fun W _ => run_cat_op W (.tmp 59) (.tmp 62) rfl Z0 Y1 R1 rfl rfl HR1.out.symm (by omega)) ?_
        (try simp only [Act.put, List.setIfInBounds_toArray, List.set_cons_zero, List.set_cons_succ])
        refine anyH_take (i := 11) (some 67) (v := _) rfl rfl (by kernel_rfl) (by kernel_rfl) (by kernel_rfl) (fun _ _ _ h => h) (by rfl) (rfl) (fun W _ => run_cat_op W (.tmp 63) (.tmp 66) rfl R1 X1 R2 rfl rfl HR2.out.symm (by omega)) ?_
        (try simp only [Act.put, List.setIfInBounds_toArray, List.set_cons_zero, List.set_cons_succ])
        refine wpAnyH_ready (rs := [12]) (by kernel_rfl) (by simp) (AllReadyH.cons rfl (fun K hK => ?_) AllReadyH.nil)
        go_simp
        refine (HZ0.out _).mono ?_
        rintro e w8 ⟨rfl, h8⟩
        have h8 := h8.symm
        subst h8
        go_wp2_with fail
        refine hK.out _ _ (rfl) (fun _ => ?_)
        clear hK K
        (try simp only [Act.put, List.setIfInBounds_toArray, List.set_cons_zero, List.set_cons_succ])
        refine anyH_take (i := 13) (some 69) (v := _) rfl rfl (by kernel_rfl) (by kernel_rfl) (by kernel_rfl) (fun _ _ _ h => h) (by rfl) (rfl) (fun W _ => run_cat_op W (.tmp 67) (.tmp 68) rfl R2 Z0 IMG rfl rfl HEQ.out (by omega)) ?_
        (try simp only [Act.put, List.setIfInBounds_toArray, List.set_cons_zero, List.set_cons_succ])
        refine anyH_take (i := 14) (some 70) (v := _) rfl rfl (by kernel_rfl) (by kernel_rfl) (by kernel_rfl) (fun _ _ _ h => h) (by rfl) (rfl) (by intro w hSw; go_simp; try with_reducible rfl) ?_
        (try simp only [Act.put, List.setIfInBounds_toArray, List.set_cons_zero, List.set_cons_succ])
        refine anyH_take (i := 15) (some 8) (v := _) rfl rfl (by kernel_rfl) (by kernel_rfl) (by kernel_rfl) (fun _ _ _ h => h) (by rfl) (rfl) (by intro w hSw; go_simp; try with_reducible rfl) ?_
        (try simp only [Act.put, List.setIfInBounds_toArray, List.set_cons_zero, List.set_cons_succ])
        refine wpAnyH_done (by kernel_rfl) ?_ _
        repeat (first | fail | go_values | go_skip | go_guarded | go_step)
        go_ret
        exact ⟨rfl, HB7.out⟩
      · repeat (first | (go_at_call 6; refine (HLV.out _).mono ?_; rintro e w1 ⟨rfl, hb1⟩; have HB1 := Lib.hid hb1; clear hb1; dsimp only) | (go_at_call 7; refine (new_ok (n := 3) (by omega) (by omega) w1).mono ?_; rintro e w2 ⟨P, rfl, hd2, hb2⟩; have HD2 := Lib.hid hd2; have HB2 := Lib.hid (HB1.out.trans (hb2.mono HB1.out.size)); have HBB : Hid (w1.heap.size ≤ w2.heap.size) := Lib.hid hb2.size; clear hd2 hb2; dsimp only) | go_values | go_skip | go_guarded | go_step)
        have HBB2 := HBB
        refine (write_ok (at_ := 1) (bs := xs) HD2.out HBB2.out (by have h := lies_keep HV0.out HB2.out; rw [← HLX.out] at h; exact h) rfl rfl (by decide) (by rw [← HLX.out]; exact h1) (by decide)).mono ?_
        rintro e w3 ⟨rfl, hd3, hk3⟩
        have HD3 := Lib.hid hd3
        have HB3 := Lib.hid (HB2.out.trans ((HD2.out.below HBB2.out hk3).mono HB1.out.size))
        have HBB3 : Hid (w1.heap.size ≤ w3.heap.size) := Lib.hid (Nat.le_trans HBB2.out hk3.only.size)
        clear hd3 hk3
        dsimp only
        repeat (first | fail | go_values | go_skip | go_guarded | go_step)
        refine (flush_ok HD3.out rfl).mono ?_
        rintro e w4 ⟨rfl, hd4, hk4⟩
        have HD4 := Lib.hid hd4
        have HB4 := Lib.hid (HB3.out.trans ((HD3.out.below HBB3.out hk4).mono HB1.out.size))
        have HBB4 : Hid (w1.heap.size ≤ w4.heap.size) := Lib.hid (Nat.le_trans HBB3.out hk4.only.size)
        clear hd4 hk4
        dsimp only
        repeat (first | fail | go_values | go_skip | go_guarded | go_step)
        refine (write_ok (at_ := 1) (bs := ys) HD4.out HBB4.out (by have h := lies_keep HV1.out HB4.out; rw [← HLY.out] at h; exact h) rfl rfl (by show 1 < (Dev.told _).length; rw [Dev.told_length]; exact (by decide : 1 < 3)) (by rw [← HLY.out]; exact h2) (by show 0 ≤ 1000000000; omega)).mono ?_
        rintro e w5 ⟨rfl, hd5, hk5⟩
        have HD5 := Lib.hid hd5
        have HB5 := Lib.hid (HB4.out.trans ((HD4.out.below HBB4.out hk5).mono HB1.out.size))
        have HBB5 : Hid (w1.heap.size ≤ w5.heap.size) := Lib.hid (Nat.le_trans HBB4.out hk5.only.size)
        clear hd5 hk5
        dsimp only
        repeat (first | fail | go_values | go_skip | go_guarded | go_step)
        refine (crash_any (keep := 1) (torn := 0) (bytes := n) HD5.out (by decide)).mono ?_
        rintro e w6 ⟨rfl, hd6, hk6⟩
        have HD6 := Lib.hid hd6
        have HB6 := Lib.hid (HB5.out.trans ((HD5.out.below HBB5.out hk6).mono HB1.out.size))
        have HBB6 : Hid (w1.heap.size ≤ w6.heap.size) := Lib.hid (Nat.le_trans HBB5.out hk6.only.size)
        clear hd6 hk6
        dsimp only
        repeat (first | fail | go_values | go_skip | go_guarded | go_step)
        obtain ⟨kk, hkk⟩ : ∃ k : Nat, k = tornN n := ⟨_, rfl⟩
        have hk64 : kk ≤ 64 := by rw [hkk]; exact tornN_le _
        obtain ⟨q, hq⟩ : ∃ q : Int, q = if 64 < n then 64 else n := ⟨_, rfl⟩
        obtain ⟨tn, htn⟩ : ∃ k : Nat, k = tornN n := ⟨_, rfl⟩
        have eQ : (if 64 < n then 64 else n) = q := hq.symm
        have eK : (if 0 < q then q else 0) = (tn : Int) := by rw [hq, htn]; unfold tornN; split <;> split <;> omega
        rw [← htn] at hkk
        subst hkk
        have HTN := Lib.hid htn
        clear hq htn
        have hkI : (kk : Int) ≤ 64 := by omega
        have HKK := HTN
        refine wp_region_still_lit (by kernel_rfl) (by kernel_rfl) ?_
        still_step
        refine wpStill_value rfl (run_conv_op 22 9 (.tmp 45) rfl _ (.string (strOf xs)) rfl (by have h := lies_keep HV0.out HB6.out; rw [← HLX.out] at h; exact text_of (w := w6.drew) (lies_keep (w := w6) h (only_drewN (fun _ => False) w6 1 |>.below (Nat.le_refl _) (fun _ h => h.elim))) _ Try.underlying9)) ?_
        (try simp only [Act.put, List.setIfInBounds_toArray, List.set_cons_zero, List.set_cons_succ])
        still_call (full_any xs (by rw [← HLX.out]; omega) _)
        still_step
        refine wpStill_value rfl (run_conv_op 22 9 (.tmp 48) rfl _ (.string (strOf ys)) rfl (by have h := lies_keep HV1.out HB6.out; rw [← HLY.out] at h; exact text_of (w := w6.drew) (lies_keep (w := w6) h (only_drewN (fun _ => False) w6 1 |>.below (Nat.le_refl _) (fun _ h => h.elim))) _ Try.underlying9)) ?_
        (try simp only [Act.put, List.setIfInBounds_toArray, List.set_cons_zero, List.set_cons_succ])
        still_call (full_any ys (by rw [← HLY.out]; omega) _)
        repeat still_step
        refine wpStill_nil ?_
        change Exit.then _ _ Exit.normal _ w6.drew
        obtain ⟨X, hX⟩ : ∃ X, X = strOf (padB xs) := ⟨_, rfl⟩
        obtain ⟨Y, hY⟩ : ∃ Y, Y = strOf (padB ys) := ⟨_, rfl⟩
        have hxs : X.size = 64 := by rw [hX, strOf_size]; exact padB_length (by rw [← HLX.out]; exact h1)
        have hys : Y.size = 64 := by rw [hY, strOf_size]; exact padB_length (by rw [← HLY.out]; exact h2)
        rw [← hX, ← hY]
        have HX := Lib.hid hX
        have HY := Lib.hid hY
        clear hX hY
        repeat (first | fail | go_values | go_skip | go_guarded | go_step)
        obtain ⟨Z0, hZ0⟩ : ∃ Z, Z = strOf (padB []) := ⟨_, rfl⟩
        have HZ0 : Hid (∀ W, Calls Try.prog 11 #[.string ⟨#[]⟩] W fun e w' => e = .returned (.string Z0) ∧ w' = W) := Lib.hid (by rw [hZ0]; exact full_any [] (by simp))
        have HZZ := Lib.hid hZ0
        clear hZ0
        obtain ⟨Y1, hY1⟩ : ∃ Z, Z = Y.extract 0 kk := ⟨_, rfl⟩
        obtain ⟨X1, hX1⟩ : ∃ Z, Z = X.extract kk X.size := ⟨_, rfl⟩
        have HY1 := Lib.hid hY1
        have HX1 := Lib.hid hX1
        clear hX1 hY1
        obtain ⟨IMG, hIMG⟩ : ∃ I, I = strOf (tornD xs ys 1 n).lies.flatten := ⟨_, rfl⟩
        have HIMG := Lib.hid hIMG
        clear hIMG
        obtain ⟨R1, hR1⟩ : ∃ R, R = Z0 ++ Y1 := ⟨_, rfl⟩
        obtain ⟨R2, hR2⟩ : ∃ R, R = R1 ++ X1 := ⟨_, rfl⟩
        have HR1 := Lib.hid hR1
        have HR2 := Lib.hid hR2
        clear hR1 hR2
        have HEQ : Hid (R2 ++ Z0 = IMG) := Lib.hid (by rw [HR2.out, HR1.out, HZZ.out, HY1.out, HX1.out, hxs, HX.out, HY.out, HIMG.out, strOf_extract, strOf_extract, torn_flat, strOf_append, strOf_append, strOf_append]; exact torn_text (Or.inl ⟨rfl, HKK.out⟩) (padB_length (by rw [← HLX.out]; exact h1)))
        have hI : IMG.size = 192 := by rw [HIMG.out, strOf_size]; exact torn_size _ _ (by rw [← HLX.out]; exact h1) (by rw [← HLY.out]; exact h2)
        have hz2 : (R2 ++ Z0).size = R1.size + X1.size + Z0.size := by rw [ByteArray.size_append, HR2.out, ByteArray.size_append]
        have hr2 : R2.size ≤ 192 := by rw [HEQ.out, hI] at hz2; rw [HR2.out, ByteArray.size_append]; omega
        have hr1 : R1.size ≤ 192 := by rw [HEQ.out, hI] at hz2; omega
        clear hz2
        refine wp_region_held_drew (S := fun _ => True) (by kernel_rfl) trivial (fun _ => ?_)
        refine anyH_take (i := 0) (some 56) (v := _) rfl rfl (by kernel_rfl) (by kernel_rfl) (by kernel_rfl) (fun _ _ _ h => h) (by rfl) (trivial) (by intro w hSw; go_simp; try with_reducible rfl) ?_
        (try simp only [Act.put, List.setIfInBounds_toArray, List.set_cons_zero, List.set_cons_succ])
        refine anyH_take (i := 4) (some 60) (v := _) rfl rfl (by kernel_rfl) (by kernel_rfl) (by kernel_rfl) (fun _ _ _ h => h) (by rfl) (trivial) (by intro w hSw; go_simp; try with_reducible rfl) ?_
        (try simp only [Act.put, List.setIfInBounds_toArray, List.set_cons_zero, List.set_cons_succ])
        refine anyH_take (i := 5) (some 61) (v := _) rfl rfl (by kernel_rfl) (by kernel_rfl) (by kernel_rfl) (fun _ _ _ h => h) (by rfl) (trivial) (by intro w hSw; go_simp; try with_reducible rfl) ?_
        (try simp only [Act.put, List.setIfInBounds_toArray, List.set_cons_zero, List.set_cons_succ])
        refine anyH_take (i := 6) (some 62) (v := _) rfl rfl (by kernel_rfl) (by kernel_rfl) (by kernel_rfl) (fun _ _ _ h => h) (by rfl) (trivial) (fun W _ => run_text_hi W (.tmp 60) (.tmp 61) rfl Y Y1 kk rfl rfl (by rw [hys]; omega) HY1.out.symm) ?_
        (try simp only [Act.put, List.setIfInBounds_toArray, List.set_cons_zero, List.set_cons_succ])
        refine anyH_take (i := 8) (some 64) (v := _) rfl rfl (by kernel_rfl) (by kernel_rfl) (by kernel_rfl) (fun _ _ _ h => h) (by rfl) (trivial) (by intro w hSw; go_simp; try with_reducible rfl) ?_
        (try simp only [Act.put, List.setIfInBounds_toArray, List.set_cons_zero, List.set_cons_succ])
        refine anyH_take (i := 9) (some 65) (v := _) rfl rfl (by kernel_rfl) (by kernel_rfl) (by kernel_rfl) (fun _ _ _ h => h) (by rfl) (trivial) (by intro w hSw; go_simp; try with_reducible rfl) ?_
        (try simp only [Act.put, List.setIfInBounds_toArray, List.set_cons_zero, List.set_cons_succ])
        refine anyH_take (i := 10) (some 66) (v := _) rfl rfl (by kernel_rfl) (by kernel_rfl) (by kernel_rfl) (fun _ _ _ h => h) (by rfl) (trivial) (fun W _ => run_text_lo W (.tmp 64) (.tmp 65) rfl X X1 kk rfl rfl (by rw [hxs]; omega) HX1.out.symm) ?_
        (try simp only [Act.put, List.setIfInBounds_toArray, List.set_cons_zero, List.set_cons_succ])
        refine wpAnyH_ready (rs := [1]) (by kernel_rfl) (by simp) (AllReadyH.cons rfl (fun K hK => ?_) AllReadyH.nil)
        go_simp
        refine (image_any HD6.out.drew.drew).mono ?_
        rintro e w7 ⟨v7, rfl, hown, hb7⟩
        have HO7 := Lib.hid hown
        have HB7 : Hid (Below w.heap.size w w7) := Lib.hid (HB6.out.trans (below_undrew (w := w6) (below_undrew (w := w6.drew) hb7) |>.mono HB6.out.size))
        obtain ⟨a7, c7, rfl⟩ := own_slice hown
        clear hown hb7
        go_wp2_with fail
        refine hK.out _ _ (trivial) (fun _ => ?_)
        clear hK K
        (try simp only [Act.put, List.setIfInBounds_toArray, List.set_cons_zero, List.set_cons_succ])
        refine anyH_mono (S' := fun W => W = w7) (fun _ _ => trivial) ?_
        have hcv : (convert 22 9 (.slice a7 ((tornD xs ys 1 n).lies.length * 64) c7)).run Try.prog w7 = .ok (.string IMG) w7 := by rw [HIMG.out]; exact text_of (ownsRow_lies HO7.out) _ Try.underlying9
        have HCV := Lib.hid hcv
        clear hcv
        refine anyH_take (i := 2) (some 58) (v := _) rfl rfl (by kernel_rfl) (by kernel_rfl) (by kernel_rfl) (fun _ _ _ h => h) (by rfl) (rfl) (fun W hW => by rw [hW]; exact run_conv_op 22 9 (.tmp 57) rfl _ (.string IMG) rfl HCV.out) ?_
        (try simp only [Act.put, List.setIfInBounds_toArray, List.set_cons_zero, List.set_cons_succ])
        refine wpAnyH_ready (rs := [3]) (by kernel_rfl) (by simp) (AllReadyH.cons rfl (fun K hK => ?_) AllReadyH.nil)
        go_simp
        refine (HZ0.out _).mono ?_
        rintro e w8 ⟨rfl, h8⟩
        have h8 := h8.symm
        subst h8
        go_wp2_with fail
        refine hK.out _ _ (rfl) (fun _ => ?_)
        clear hK K
        (try simp only [Act.put, List.setIfInBounds_toArray, List.set_cons_zero, List.set_cons_succ])
        refine anyH_take (i := 7) (some 63) (v := _) rfl rfl (by kernel_rfl) (by kernel_rfl) (by kernel_rfl) (fun _ _ _ h => h) (by rfl) (rfl) (fun W _ => run_cat_op W (.tmp 59) (.tmp 62) rfl Z0 Y1 R1 rfl rfl HR1.out.symm (by omega)) ?_
        (try simp only [Act.put, List.setIfInBounds_toArray, List.set_cons_zero, List.set_cons_succ])
        refine anyH_take (i := 11) (some 67) (v := _) rfl rfl (by kernel_rfl) (by kernel_rfl) (by kernel_rfl) (fun _ _ _ h => h) (by rfl) (rfl) (fun W _ => run_cat_op W (.tmp 63) (.tmp 66) rfl R1 X1 R2 rfl rfl HR2.out.symm (by omega)) ?_
        (try simp only [Act.put, List.setIfInBounds_toArray, List.set_cons_zero, List.set_cons_succ])
        refine wpAnyH_ready (rs := [12]) (by kernel_rfl) (by simp) (AllReadyH.cons rfl (fun K hK => ?_) AllReadyH.nil)
        go_simp
        refine (HZ0.out _).mono ?_
        rintro e w8 ⟨rfl, h8⟩
        have h8 := h8.symm
        subst h8
        go_wp2_with fail
        refine hK.out _ _ (rfl) (fun _ => ?_)
        clear hK K
        (try simp only [Act.put, List.setIfInBounds_toArray, List.set_cons_zero, List.set_cons_succ])
        refine anyH_take (i := 13) (some 69) (v := _) rfl rfl (by kernel_rfl) (by kernel_rfl) (by kernel_rfl) (fun _ _ _ h => h) (by rfl) (rfl) (fun W _ => run_cat_op W (.tmp 67) (.tmp 68) rfl R2 Z0 IMG rfl rfl HEQ.out (by omega)) ?_
        (try simp only [Act.put, List.setIfInBounds_toArray, List.set_cons_zero, List.set_cons_succ])
        refine anyH_take (i := 14) (some 70) (v := _) rfl rfl (by kernel_rfl) (by kernel_rfl) (by kernel_rfl) (fun _ _ _ h => h) (by rfl) (rfl) (by intro w hSw; go_simp; try with_reducible rfl) ?_
        (try simp only [Act.put, List.setIfInBounds_toArray, List.set_cons_zero, List.set_cons_succ])
        refine anyH_take (i := 15) (some 8) (v := _) rfl rfl (by kernel_rfl) (by kernel_rfl) (by kernel_rfl) (fun _ _ _ h => h) (by rfl) (rfl) (by intro w hSw; go_simp; try with_reducible rfl) ?_
        (try simp only [Act.put, List.setIfInBounds_toArray, List.set_cons_zero, List.set_cons_succ])
        refine wpAnyH_done (by kernel_rfl) ?_ _
        repeat (first | fail | go_values | go_skip | go_guarded | go_step)
        go_ret
        exact ⟨rfl, HB7.out⟩
    · have t2 : decide ((64 : Int) < (ly : Int)) = true := by simp only [decide_eq_true_eq]; omega
      go_enter Try.func3, Try.ntmps3
      have HBw : Hid (Below w.heap.size w w) := Lib.hid (Below.refl _ _)
      repeat (first | (go_at_call 6; refine (HLV.out _).mono ?_; rintro e w1 ⟨rfl, hb1⟩; replace HBw := Lib.hid (HBw.out.trans (hb1.mono HBw.out.size)); clear hb1; dsimp only) | go_values | go_skip | go_guarded | go_step)
      go_ret
      exact ⟨rfl, HBw.out⟩
  · have t1 : decide ((64 : Int) < (lx : Int)) = true := by simp only [decide_eq_true_eq]; omega
    go_enter Try.func3, Try.ntmps3
    have HBw : Hid (Below w.heap.size w w) := Lib.hid (Below.refl _ _)
    repeat (first | (go_at_call 6; refine (HLV.out _).mono ?_; rintro e w1 ⟨rfl, hb1⟩; replace HBw := Lib.hid (HBw.out.trans (hb1.mono HBw.out.size)); clear hb1; dsimp only) | go_values | go_skip | go_guarded | go_step)
    go_ret
    exact ⟨rfl, HBw.out⟩
end Go.Proofs.Ytmbhnnbicdioeaa
