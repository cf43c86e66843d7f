/- BitsParts, walked. -/
import Derived.Test.YtijionbpljhjhaaDoorBitLives
import Derived.Deep.RegionHeld3
namespace Go.Proofs.YtijionbpljhjhaaDoor
open Go.RowKit

theorem mask_val {x : Nat} (hx : x < 18446744073709551616) {n : Nat} (hn : n ≤ 64) : bits .and .u64 (x : Int) (IntKind.u64.wrap (IntKind.u64.wrap (2 ^ n) - 1)) = ((x % 2 ^ n : Nat) : Int) := by
  have h2 : IntKind.u64.wrap (IntKind.u64.wrap (2 ^ n) - 1) = ((2 ^ n - 1 : Nat) : Int) := by
    have hp := Nat.two_pow_pos n
    have hc : ((2 : Int) ^ n) = ((2 ^ n : Nat) : Int) := by simp
    simp only [IntKind.wrap_u64]
    rw [hc]
    rcases Nat.lt_or_ge n 64 with h | h
    · have h3 : 2 ^ n < 2 ^ 64 := Nat.pow_lt_pow_right (by omega) h
      generalize 2 ^ n = y at *
      omega
    · obtain rfl : n = 64 := by omega
      decide
  have h3 : 2 ^ n ≤ 2 ^ 64 := Nat.pow_le_pow_right (by omega) hn
  rw [h2, u64_and_nat _ _ hx (by have := Nat.two_pow_pos n; omega), Nat.and_two_pow_sub_one_eq_mod]

theorem top_val {x : Nat} (hx : x < 18446744073709551616) : bits .or .u64 (x : Int) 9223372036854775808 = ((x ||| 9223372036854775808 : Nat) : Int) := by
  rw [show (9223372036854775808 : Int) = ((9223372036854775808 : Nat) : Int) from rfl, u64_or_nat _ _ hx (by omega)]

theorem numBits_get? (x w i : Nat) : (numBits x w)[i]? = if i < w then some (decide (x / 2 ^ (w - 1 - i) % 2 = 1)) else none := by
  unfold numBits
  by_cases h : i < w <;> simp [h]
theorem numBits_parts (x h l : Nat) : numBits x (h + l) = numBits (x / 2 ^ l) h ++ numBits (x % 2 ^ l) l := by
  apply List.ext_getElem?
  intro i
  rw [List.getElem?_append, numBits_length, numBits_get?, numBits_get?, numBits_get?]
  by_cases hi : i < h
  · rw [if_pos (by omega), if_pos hi, if_pos hi]
    rw [Nat.div_div_eq_div_mul, ← Nat.pow_add, show h + l - 1 - i = l + (h - 1 - i) by omega]
  · rw [if_neg hi]
    by_cases hj : i < h + l
    · rw [if_pos hj, if_pos (by omega)]
      have e1 : h + l - 1 - i = l - 1 - (i - h) := by omega
      rw [e1]
      have hj : l - 1 - (i - h) < l := by omega
      generalize l - 1 - (i - h) = j at *
      have h3 : x / 2 ^ j % 2 = x % 2 ^ l / 2 ^ j % 2 := by
        have e2 : 2 ^ l = 2 ^ j * (2 * 2 ^ (l - j - 1)) := by
          rw [← Nat.pow_succ', ← Nat.pow_add]; congr 1; omega
        rw [e2, Nat.mod_mul_right_div_self, Nat.mod_mul_right_mod]
      rw [h3]
    · rw [if_neg hj, if_neg (by omega)]

theorem two_writers (w : World) : WriterAt w.heap.size ((w.alloc (.cells #[.slice none 0 0, .int .i64 0] 27)).alloc (.cells #[.slice none 0 0, .int .i64 0] 27)) w.heap.size none [] ∧
    WriterAt w.heap.size ((w.alloc (.cells #[.slice none 0 0, .int .i64 0] 27)).alloc (.cells #[.slice none 0 0, .int .i64 0] 27)) (w.heap.size + 1) none [] :=
  ⟨⟨Nat.le_refl _, .slice none 0 0, rfl, heap_alloc2_old w _ _, World.ownsRow_nil _ _ _ _⟩, ⟨by omega, .slice none 0 0, rfl, heap_alloc2_new w _ _, World.ownsRow_nil _ _ _ _⟩⟩

theorem wid_parts {Y h l : Nat} (hY : Y < 2 ^ (h + l)) : wid Y ≤ h + l ∧ wid (Y / 2 ^ l) ≤ h ∧ wid (Y % 2 ^ l) ≤ l := by
  refine ⟨wid_le _ hY, wid_le _ ?_, wid_le _ (Nat.mod_lt _ (Nat.two_pow_pos _))⟩
  rw [Nat.pow_add, Nat.mul_comm] at hY
  exact Nat.div_lt_of_lt_mul hY

set_option maxHeartbeats 2000000 in
theorem bitsParts_walk {x hi lo : Int} (hx : 0 ≤ x) (hx' : x ≤ 18446744073709551615) (hh : 0 ≤ hi) (hh' : hi ≤ 255) (hl : 0 ≤ lo) (hl' : lo ≤ 255) (w : World) (hL : StepsLaid w) :
    Calls Tryd.prog 6 #[.int .u64 x, .int .u8 hi, .int .u8 lo] w fun e w' => e = .returned (.bool true) ∧ Below w.heap.size w w' := by
  obtain ⟨X, rfl⟩ := Int.eq_ofNat_of_zero_le hx
  obtain ⟨h, eh⟩ := Int.eq_ofNat_of_zero_le (show 0 ≤ hi % 33 by omega)
  obtain ⟨l, el⟩ := Int.eq_ofNat_of_zero_le (show 0 ≤ lo % 33 by omega)
  have hb : h ≤ 32 := by omega
  have lb : l ≤ 32 := by omega
  have hX : X < 18446744073709551616 := by omega
  have hL0 := Lib.hid hL
  clear hL
  have two64 : ∀ y : Nat, y < 2 ^ (h + l) → y < 18446744073709551616 := fun y hy => Nat.lt_of_lt_of_le hy (Nat.le_trans (Nat.pow_le_pow_right (by omega) (show h + l ≤ 64 by omega)) (by decide))
  have T64 := Lib.hid two64
  have hsum : h + l ≤ 64 := by omega
  clear two64
  by_cases h64 : h + l = 64
  all_goals
    have t64 : ((h : Int) + (l : Int) == 64) = decide (h + l = 64) := by rw [Bool.eq_iff_iff]; simp; omega
    simp only [h64, decide_true, decide_false] at t64
    have H64 := Lib.hid h64
    clear h64
    go_enter Tryd.func6, Tryd.ntmps6
    go_wp2_with fail
    refine (lives02 _ hL0.out).mono ?_
    rintro e W1 ⟨rfl, hb1⟩
    have HB := Lib.hid hb1
    clear hb1
    go_wp2_with fail
    rw [mask_val hX hsum]
    have hY0 := Nat.mod_lt X (Nat.two_pow_pos (h + l))
    first | (rw [top_val (T64.out _ hY0)]; have hY : X % 2 ^ (h + l) ||| 9223372036854775808 < 2 ^ (h + l) := Nat.or_lt_two_pow hY0 (by rw [H64.out]; decide); clear hY0; generalize X % 2 ^ (h + l) ||| 9223372036854775808 = Y at *) | (have hY : X % 2 ^ (h + l) < 2 ^ (h + l) := hY0; clear hY0; generalize X % 2 ^ (h + l) = Y at *)
    obtain ⟨k1, k2, k3⟩ := wid_parts hY
    have hY64 : Y < 18446744073709551616 := T64.out _ hY
    have K2 := Lib.hid k2
    have K3 := Lib.hid k3
    obtain ⟨wa, wb⟩ := two_writers W1
    have HA0 := Lib.hid (Wrote.start wa)
    have HB0 := Lib.hid wb
    have hs0 := hL0.out.lt
    have HL1 := Lib.hid (((hL0.out.keep HB.out hs0).alloc (.cells #[.slice none 0 0, .int .i64 0] 27)).alloc (.cells #[.slice none 0 0, .int .i64 0] 27))
    have hs1 : 0 < W1.heap.size := Nat.lt_of_lt_of_le hs0 HB.out.size
    clear wa wb
    rw [show ((h : Int) + (l : Int)) = ((h + l : Nat) : Int) from (Int.natCast_add h l).symm]
    refine (put_ok hY64 hsum k1 HL1.out (by simp; omega) (by simp) HA0.out).mono ?_
    rintro e W2 ⟨rfl, ha⟩
    have HA := Lib.hid ha
    have HL2 := Lib.hid (HL1.out.keep (ha.below (by simp; omega)) hs1)
    have HB1 := Lib.hid (Wrote.start (HB0.out.only ha.2.2.1 (by simp) (by simp)))
    have hz2 : W1.heap.size ≤ W2.heap.size := by have := ha.2.2.1.size; simp at this; omega
    clear ha k1 k2 k3 hY t64
    go_wp2_with fail
    rw [show ((Y : Int) / 2 ^ l) = ((Y / 2 ^ l : Nat) : Int) by simp]
    refine (put_ok (Nat.lt_of_le_of_lt (Nat.div_le_self _ _) hY64) (by omega) K2.out HL2.out hz2 (by simp) HB1.out).mono ?_
    rintro e W3 ⟨rfl, hb⟩
    have HB2 := Lib.hid hb
    have HL3 := Lib.hid (HL2.out.keep (hb.below hz2) hs1)
    clear hb
    go_wp2_with fail
    rw [mask_val hY64 (by omega)]
    refine (put_ok (Nat.lt_of_le_of_lt (Nat.mod_le _ _) hY64) (by omega) K3.out HL3.out hz2 (by simp [numBits_length]; omega) HB2.out).mono ?_
    rintro e W4 ⟨rfl, hb⟩
    have hbits : [] ++ numBits (Y / 2 ^ l) h ++ numBits (Y % 2 ^ l) l = numBits Y (h + l) := by rw [numBits_parts]; rfl
    rw [hbits] at hb
    have HB3 := Lib.hid hb
    have HA3 : Hid (∃ g, WriterAt W1.heap.size W4 W1.heap.size g (numBits Y (h + l))) := by
      obtain ⟨_, _, ho, g', hw, hg⟩ := HA.out
      refine ⟨g', hw.only hb.2.2.1 (by simp) (fun k hk => ?_)⟩
      rcases hg with h1 | ⟨j, h1, h2⟩
      · rw [h1] at hk; cases hk
      · rw [h1] at hk; cases hk; simp at h2 ⊢; omega
    have HE : Hid (Below W1.heap.size W1 W4) := (((Below.refl _ _).alloc (Nat.le_refl _) _).alloc (by simp) _).trans ((HA.out.below (by simp; omega)).trans (hb.below hz2))
    have hnl : (numBits Y (h + l)).length ≤ 1000000000 := by rw [numBits_length]; omega
    obtain ⟨ga, hga⟩ := HA3.out
    obtain ⟨gb, hgb⟩ : ∃ gb, WriterAt W1.heap.size W4 (W1.heap.size + 1) gb (numBits Y (h + l)) := by
      obtain ⟨_, _, _, gb, hgb, _⟩ := HB3.out
      exact ⟨gb, hgb⟩
    have GA := Lib.hid (gives_of hga hnl)
    have GB := Lib.hid (gives_of hgb hnl)
    have LA := Lib.hid (tells_of hga)
    have LB := Lib.hid (tells_of hgb)
    clear hb hbits HL2 HL3 HB1 HB2 HA HA0 HB0 HL1 K2 K3 hga hgb HA3 HB3 hY64 T64 H64 hnl hL0
    go_wp2_with fail
    generalize IntKind.u64.wrap (IntKind.u64.wrap (2 ^ (h + l)) - 1) = z1
    generalize IntKind.u64.wrap (2 ^ (h + l)) = z2
    generalize IntKind.u64.wrap (IntKind.u64.wrap (2 ^ l) - 1) = z3
    generalize IntKind.u64.wrap (2 ^ l) = z4
    generalize (X : Int) % 2 ^ (h + l) = z5
    generalize (Y : Int) % 2 ^ l = z6
    generalize (Y : Int) / 2 ^ l = z7
    generalize (h : Int) + (l : Int) = z8
    have hz3 := HE.out.size
    have HF := Lib.hid (HB.out.trans (HE.out.mono HB.out.size))
    generalize (numBits Y (h + l)).length = N at *
    generalize packB (numBits Y (h + l)) = bs at *
    generalize W1.heap.size + 1 = B1 at *
    generalize W1.heap.size = A1 at *
    clear hh hh' hl hl' hx hx' eh el hb lb hX hsum hz2 hs0 hs1 HE HB
    refine wp_region_held_drew (S := fun _ => True) (by kernel_rfl) trivial (fun _ => ?_)
    refine anyH_take (i := 0) (some 59) (v := _) rfl rfl (by kernel_rfl) (by kernel_rfl) (by kernel_rfl) (fun _ _ _ h => h) (by rfl) (trivial) (by intro w hSw; go_simp; try with_reducible rfl) ?_
    (try simp only [Act.put, List.setIfInBounds_toArray, List.set_cons_zero, List.set_cons_succ])
    refine anyH_take (i := 1) (some 60) (v := _) rfl rfl (by kernel_rfl) (by kernel_rfl) (by kernel_rfl) (fun _ _ _ h => h) (by rfl) (trivial) (by intro w hSw; go_simp; try with_reducible rfl) ?_
    (try simp only [Act.put, List.setIfInBounds_toArray, List.set_cons_zero, List.set_cons_succ])
    refine anyH_take (i := 2) (some 61) (v := _) rfl rfl (by kernel_rfl) (by kernel_rfl) (by kernel_rfl) (fun _ _ _ h => h) (by rfl) (trivial) (by intro w hSw; go_simp; try with_reducible rfl) ?_
    (try simp only [Act.put, List.setIfInBounds_toArray, List.set_cons_zero, List.set_cons_succ])
    refine anyH_take (i := 3) (some 62) (v := _) rfl rfl (by kernel_rfl) (by kernel_rfl) (by kernel_rfl) (fun _ _ _ h => h) (by rfl) (trivial) (by intro w hSw; go_simp; try with_reducible rfl) ?_
    (try simp only [Act.put, List.setIfInBounds_toArray, List.set_cons_zero, List.set_cons_succ])
    refine anyH_take (i := 4) (some 63) (v := _) rfl rfl (by kernel_rfl) (by kernel_rfl) (by kernel_rfl) (fun _ _ _ h => h) (by rfl) (trivial) (by intro w hSw; go_simp; try with_reducible rfl) ?_
    (try simp only [Act.put, List.setIfInBounds_toArray, List.set_cons_zero, List.set_cons_succ])
    refine anyH_take (i := 5) (some 64) (v := _) rfl rfl (by kernel_rfl) (by kernel_rfl) (by kernel_rfl) (fun _ _ _ h => h) (by rfl) (trivial) (by intro w hSw; go_simp; try with_reducible rfl) ?_
    (try simp only [Act.put, List.setIfInBounds_toArray, List.set_cons_zero, List.set_cons_succ])
    refine anyH_take (i := 6) (some 65) (v := _) rfl rfl (by kernel_rfl) (by kernel_rfl) (by kernel_rfl) (fun _ _ _ h => h) (by rfl) (trivial) (by intro w hSw; go_simp; try with_reducible rfl) ?_
    (try simp only [Act.put, List.setIfInBounds_toArray, List.set_cons_zero, List.set_cons_succ])
    refine anyH_take (i := 7) (some 66) (v := _) rfl rfl (by kernel_rfl) (by kernel_rfl) (by kernel_rfl) (fun _ _ _ h => h) (by rfl) (trivial) (by intro w hSw; go_simp; try with_reducible rfl) ?_
    (try simp only [Act.put, List.setIfInBounds_toArray, List.set_cons_zero, List.set_cons_succ])
    refine anyH_take (i := 8) (some 67) (v := _) rfl rfl (by kernel_rfl) (by kernel_rfl) (by kernel_rfl) (fun _ _ _ h => h) (by rfl) (trivial) (by intro w hSw; go_simp; try with_reducible rfl) ?_
    (try simp only [Act.put, List.setIfInBounds_toArray, List.set_cons_zero, List.set_cons_succ])
    refine anyH_take (i := 9) (some 68) (v := _) rfl rfl (by kernel_rfl) (by kernel_rfl) (by kernel_rfl) (fun _ _ _ h => h) (by rfl) (trivial) (by intro w hSw; go_simp; try with_reducible rfl) ?_
    (try simp only [Act.put, List.setIfInBounds_toArray, List.set_cons_zero, List.set_cons_succ])
    refine anyH_take (i := 10) (some 69) (v := _) rfl rfl (by kernel_rfl) (by kernel_rfl) (by kernel_rfl) (fun _ _ _ h => h) (by rfl) (trivial) (by intro w hSw; go_simp; try with_reducible rfl) ?_
    (try simp only [Act.put, List.setIfInBounds_toArray, List.set_cons_zero, List.set_cons_succ])
    refine anyH_take (i := 11) (some 70) (v := _) rfl rfl (by kernel_rfl) (by kernel_rfl) (by kernel_rfl) (fun _ _ _ h => h) (by rfl) (trivial) (by intro w hSw; go_simp; try with_reducible rfl) ?_
    (try simp only [Act.put, List.setIfInBounds_toArray, List.set_cons_zero, List.set_cons_succ])
    refine anyH_take (i := 13) (some 72) (v := _) rfl rfl (by kernel_rfl) (by kernel_rfl) (by kernel_rfl) (fun _ _ _ h => h) (by rfl) (trivial) (by intro w hSw; go_simp; try with_reducible rfl) ?_
    (try simp only [Act.put, List.setIfInBounds_toArray, List.set_cons_zero, List.set_cons_succ])
    refine wpAnyH_ready (rs := [12]) (by kernel_rfl) (by simp) (AllReadyH.cons rfl (fun K hK => ?_) AllReadyH.nil)
    go_simp
    (refine (LA.out _ (Below.refl _ _).drew).mono ?_; rintro e w' ⟨rfl, rfl⟩)
    go_wp2_with fail
    refine hK.out _ _ (trivial) (fun _ => ?_)
    clear hK K
    (try simp only [Act.put, List.setIfInBounds_toArray, List.set_cons_zero, List.set_cons_succ])
    refine wpAnyH_ready (rs := [14]) (by kernel_rfl) (by simp) (AllReadyH.cons rfl (fun K hK => ?_) AllReadyH.nil)
    go_simp
    (refine (LB.out _ (Below.refl _ _).drew).mono ?_; rintro e w' ⟨rfl, rfl⟩)
    go_wp2_with fail
    refine hK.out _ _ (trivial) (fun _ => ?_)
    clear hK K
    (try simp only [Act.put, List.setIfInBounds_toArray, List.set_cons_zero, List.set_cons_succ])
    refine anyH_take (i := 15) (some 74) (v := _) rfl rfl (by kernel_rfl) (by kernel_rfl) (by kernel_rfl) (fun _ _ _ h => h) (by rfl) (trivial) (by intro w hSw; go_simp; try with_reducible rfl) ?_
    (try simp only [Act.put, List.setIfInBounds_toArray, List.set_cons_zero, List.set_cons_succ])
    refine anyH_take (i := 16) (some 75) (v := _) rfl rfl (by kernel_rfl) (by kernel_rfl) (by kernel_rfl) (fun _ _ _ h => h) (by rfl) (trivial) (by intro w hSw; go_simp; try with_reducible rfl) ?_
    (try simp only [Act.put, List.setIfInBounds_toArray, List.set_cons_zero, List.set_cons_succ])
    refine anyH_take (i := 17) (some 76) (v := _) rfl rfl (by kernel_rfl) (by kernel_rfl) (by kernel_rfl) (fun _ _ _ h => h) (by rfl) (trivial) (by intro w hSw; go_simp; try with_reducible rfl) ?_
    (try simp only [Act.put, List.setIfInBounds_toArray, List.set_cons_zero, List.set_cons_succ])
    refine anyH_take (i := 18) (some 77) (v := _) rfl rfl (by kernel_rfl) (by kernel_rfl) (by kernel_rfl) (fun _ _ _ h => h) (by rfl) (trivial) (by intro w hSw; go_simp; try with_reducible rfl) ?_
    (try simp only [Act.put, List.setIfInBounds_toArray, List.set_cons_zero, List.set_cons_succ])
    refine anyH_take (i := 21) (some 80) (v := _) rfl rfl (by kernel_rfl) (by kernel_rfl) (by kernel_rfl) (fun _ _ _ h => h) (by rfl) (trivial) (by intro w hSw; go_simp; try with_reducible rfl) ?_
    (try simp only [Act.put, List.setIfInBounds_toArray, List.set_cons_zero, List.set_cons_succ])
    refine wpAnyH_ready (rs := [19]) (by kernel_rfl) (by simp) (AllReadyH.cons rfl (fun K hK => ?_) AllReadyH.nil)
    go_simp
    (refine (GA.out _ (Below.refl _ _).drew).mono ?_; rintro e w5 ⟨v5, rfl, hb5, _, hc5⟩; have HB5 := Lib.hid hb5; have hq5 := hc5; clear hb5 hc5)
    go_wp2_with fail
    refine hK.out _ _ (trivial) (fun _ => ?_)
    clear hK K
    (try simp only [Act.put, List.setIfInBounds_toArray, List.set_cons_zero, List.set_cons_succ])
    refine anyH_mono (S' := fun w => Below w5.heap.size w5 w) (fun _ _ => trivial) ?_
    refine anyH_take (i := 20) (some 79) (v := _) rfl rfl (by kernel_rfl) (by kernel_rfl) (by kernel_rfl) (fun _ _ _ h => h) (by rfl) (Below.refl _ _) (by intro w hSw; go_simp; try with_reducible rfl) ?_
    (try simp only [Act.put, List.setIfInBounds_toArray, List.set_cons_zero, List.set_cons_succ])
    refine wpAnyH_ready (rs := [22]) (by kernel_rfl) (by simp) (AllReadyH.cons rfl (fun K hK => ?_) AllReadyH.nil)
    go_simp
    (refine (GB.out _ HB5.out).mono ?_; rintro e w6 ⟨v6, rfl, hb6, hb56, hc6⟩; have HB6 := Lib.hid hb6; have HB56 := Lib.hid hb56; have hq6 := hc6; clear hb6 hb56 hc6)
    go_wp2_with fail
    refine hK.out _ _ (HB56.out) (fun _ => ?_)
    clear hK K
    (try simp only [Act.put, List.setIfInBounds_toArray, List.set_cons_zero, List.set_cons_succ])
    refine anyH_mono (S' := fun w => Below w6.heap.size w6 w) (fun _ h => HB56.out.trans (h.mono HB56.out.size)) ?_
    refine anyH_take (i := 23) (some 82) (v := _) rfl rfl (by kernel_rfl) (by kernel_rfl) (by kernel_rfl) (fun _ _ _ h => h) (by rfl) (Below.refl _ _) (by intro w hSw; go_simp; try with_reducible rfl) ?_
    (try simp only [Act.put, List.setIfInBounds_toArray, List.set_cons_zero, List.set_cons_succ])
    refine anyH_take (i := 24) (some 83) (v := _) rfl rfl (by kernel_rfl) (by kernel_rfl) (by kernel_rfl) (fun _ _ _ h => h) (by rfl) (Below.refl _ _) (by intro w hSw; go_simp; try with_reducible rfl) ?_
    (try simp only [Act.put, List.setIfInBounds_toArray, List.set_cons_zero, List.set_cons_succ])
    refine anyH_take (i := 25) (some 84) (v := _) rfl rfl (by kernel_rfl) (by kernel_rfl) (by kernel_rfl) (fun _ _ _ h => h) (by rfl) (Below.refl _ _) (by intro w hSw; go_simp; try with_reducible rfl) ?_
    (try simp only [Act.put, List.setIfInBounds_toArray, List.set_cons_zero, List.set_cons_succ])
    refine anyH_take (i := 26) (some 6) (v := _) rfl rfl (by kernel_rfl) (by kernel_rfl) (by kernel_rfl) (fun _ _ _ h => h) (by rfl) (Below.refl _ _) (by intro w hSw; go_simp; try with_reducible rfl) ?_
    (try simp only [Act.put, List.setIfInBounds_toArray, List.set_cons_zero, List.set_cons_succ])
    refine wpAnyH_done (by kernel_rfl) ?_ _

    go_wp2
    go_ret
    exact ⟨rfl, HF.out.trans (HB6.out.mono (HF.out.size))⟩
end Go.Proofs.YtijionbpljhjhaaDoor
