/- OctetOrders, walked. -/
import Derived.Test.YtcomdobmkmbmeaaDoorOctOrd
import Derived.Deep.RegionHeld3
import Derived.Deep.QuietTactic
namespace Go.Proofs.YtcomdobmkmbmeaaDoor
open Go.RowKit

theorem two_owriters (w : World) {k : Nat} (hk : w.heap.size = k) : OWriterAt k ((w.alloc (.cells #[.slice none 0 0] 27)).alloc (.cells #[.slice none 0 0] 27)) k none [] ∧
    OWriterAt k ((w.alloc (.cells #[.slice none 0 0] 27)).alloc (.cells #[.slice none 0 0] 27)) (k + 1) none [] := by
  subst hk
  exact ⟨⟨Nat.le_refl _, .slice none 0 0, rfl, heap_alloc2_old w _ _, World.ownsRow_nil _ _ _ _⟩, ⟨by omega, .slice none 0 0, rfl, heap_alloc2_new w _ _, World.ownsRow_nil _ _ _ _⟩⟩

set_option maxHeartbeats 2000000 in
theorem orders1 {X Y : Nat} {wh : Int} (hX : X < 18446744073709551616) (hY : Y < 18446744073709551616) (hh : 0 ≤ wh) (hh' : wh ≤ 255) (hm : wh % 4 = 0) (w : World) (hL : StepsLaid w) :
    Calls Tryd.prog 4 #[.int .u64 (X : Int), .int .u64 (Y : Int), .int .u8 wh] w fun e w' => e = .returned (.bool true) ∧ Below w.heap.size w w' := by
  have hL0 := Lib.hid hL
  clear hL
  go_enter Tryd.func4, Tryd.ntmps4
  go_wp2_with fail
  refine (lives03 _ hL0.out).mono ?_
  rintro e W1 ⟨rfl, hb1⟩
  have HB := Lib.hid hb1
  have hs0 := hL0.out.lt
  have HLW := Lib.hid (hL0.out.keep hb1 hs0)
  have hz1 := hb1.size
  clear hb1
  go_wp2_with fail
  go_quiet (fail)
  go_wp2_with fail
  obtain ⟨A, hA⟩ : ∃ A, A = X % 256 := ⟨_, rfl⟩
  obtain ⟨C, hC⟩ : ∃ C, C = Y % 256 := ⟨_, rfl⟩
  have hA1 : A < 256 := by omega
  have hC1 : C < 256 := by omega
  rw [show ((X : Int) % 256) = (A : Int) by omega, show ((Y : Int) % 256) = (C : Int) by omega]
  clear hA hC hX hY hm hh hh'
  obtain ⟨V, hV⟩ : ∃ V, V = (W1.alloc (.cells #[.int .i64 1, .int .i64 2, .int .i64 4, .int .i64 8] 3)).drewN nq := ⟨_, rfl⟩
  rw [← hV]
  have hsz : V.heap.size = W1.heap.size + 1 := by rw [hV]; show (W1.alloc _).heap.size = _; simp
  have hVb : Hid (Below w.heap.size w V) := HB.out.trans (by rw [hV]; exact ((Below.refl _ W1).alloc hz1 _).trans ((only_drewN (fun _ => False) _ nq).below (by simp; omega) (fun _ h => h.elim)))
  have HLV : Hid (StepsLaid V) := by rw [hV]; exact (HLW.out.alloc _)
  clear hV HLW
  obtain ⟨wa, wb⟩ := two_owriters V hsz
  have HA0 := Lib.hid (OWrote.start wa)
  have HB0 := Lib.hid wb
  have HL1 := Lib.hid ((HLV.out.alloc (.cells #[.slice none 0 0] 27)).alloc (.cells #[.slice none 0 0] 27))
  have hs1 : 0 < W1.heap.size + 1 := by omega
  clear wa wb
  refine (num_ok (n := 1) (by omega) (by unfold Wide; omega) (wid_le 8 (by omega)) HL1.out (by simp; omega) (by simp) HA0.out).mono ?_
  rintro e W2 ⟨rfl, ha⟩
  have HA := Lib.hid ha
  have HL2 := Lib.hid (HL1.out.keep (ha.below (by simp; omega)) hs1)
  have HB1 := Lib.hid (OWrote.start (HB0.out.only ha.2.2.1 (by simp) (by simp)))
  have hz2 : W1.heap.size + 1 ≤ W2.heap.size := by have := ha.2.2.1.size; simp at this; omega
  clear ha
  go_wp2_with fail
  refine (num_ok (n := 1) (by omega) (by unfold Wide; omega) (wid_le 8 (by omega)) HL2.out hz2 (by simp) HB1.out).mono ?_
  rintro e W4 ⟨rfl, hb⟩
  have HB3 := Lib.hid hb
  have HA3 : Hid (∃ g, OWriterAt (W1.heap.size + 1) W4 (W1.heap.size + 1) g ([] ++ numB A 1)) := by
    obtain ⟨_, _, ho, g', hw, hg⟩ := HA.out
    refine ⟨g', hw.only hb.2.2.1 (by simp) (fun k hk => ?_)⟩
    rcases hg with h1 | ⟨j, h1, h2⟩
    · rw [h1] at hk; cases hk
    · rw [h1] at hk; cases hk; simp at h2 ⊢; omega
  have HE : Hid (Below (W1.heap.size + 1) V W4) := (((Below.refl _ _).alloc (by omega) _).alloc (by simp; omega) _).trans ((HA.out.below (by simp; omega)).trans (hb.below hz2))
  obtain ⟨ga, hga⟩ := HA3.out
  obtain ⟨gb, hgb⟩ := OWriterAt.of HB3.out
  rw [List.nil_append] at hga hgb
  have GA := Lib.hid (ogives_of hga (by rw [numB_length]; omega))
  have GB := Lib.hid (ogives_of hgb (by rw [numB_length]; omega))
  have GA := GA.out
  have GB := GB.out
  rw [OGives, numB_length] at GA GB
  have GA := Lib.hid GA
  have GB := Lib.hid GB
  have hless := less_nums (A := A) (B := C) (n := 1) (by omega) (by omega)
  have hcast : decide ((A : Int) < C) = decide (A < C) := by rw [decide_eq_decide]; omega
  have HF : Hid (Below w.heap.size w W4) := hVb.out.trans (HE.out.mono (by omega))
  clear hb HL2 HB1 HA HA0 HB0 HL1 hga hgb HA3 HB3 hL0 HE hVb HLV HB
  go_wp2_with fail
  generalize strOf (numB A 1) = sa at *
  generalize strOf (numB C 1) = sc at *
  clear hA1 hC1 hz2 hs0 hs1 hsz hz1
  refine wp_region_held_drew (S := fun _ => True) (by kernel_rfl) trivial (fun _ => ?_)
  refine anyH_take (i := 0) (some 43) (v := _) rfl rfl (by kernel_rfl) (by kernel_rfl) (by kernel_rfl) (fun _ _ _ h => h) (by rfl) (trivial) (by intro w hSw; go_simp; try with_reducible rfl) ?_
  (try simp only [Act.put, List.setIfInBounds_toArray, List.set_cons_zero, List.set_cons_succ])
  refine anyH_take (i := 1) (some 44) (v := _) rfl rfl (by kernel_rfl) (by kernel_rfl) (by kernel_rfl) (fun _ _ _ h => h) (by rfl) (trivial) (by intro w hSw; go_simp; try with_reducible rfl) ?_
  (try simp only [Act.put, List.setIfInBounds_toArray, List.set_cons_zero, List.set_cons_succ])
  refine anyH_take (i := 2) (some 45) (v := _) rfl rfl (by kernel_rfl) (by kernel_rfl) (by kernel_rfl) (fun _ _ _ h => h) (by rfl) (trivial) (by intro w hSw; go_simp; try with_reducible rfl) ?_
  (try simp only [Act.put, List.setIfInBounds_toArray, List.set_cons_zero, List.set_cons_succ])
  refine anyH_take (i := 3) (some 46) (v := _) rfl rfl (by kernel_rfl) (by kernel_rfl) (by kernel_rfl) (fun _ _ _ h => h) (by rfl) (trivial) (by intro w hSw; go_simp; try with_reducible rfl) ?_
  (try simp only [Act.put, List.setIfInBounds_toArray, List.set_cons_zero, List.set_cons_succ])
  refine anyH_take (i := 4) (some 47) (v := _) rfl rfl (by kernel_rfl) (by kernel_rfl) (by kernel_rfl) (fun _ _ _ h => h) (by rfl) (trivial) (by intro w hSw; go_simp; try with_reducible rfl) ?_
  (try simp only [Act.put, List.setIfInBounds_toArray, List.set_cons_zero, List.set_cons_succ])
  refine anyH_take (i := 5) (some 48) (v := _) rfl rfl (by kernel_rfl) (by kernel_rfl) (by kernel_rfl) (fun _ _ _ h => h) (by rfl) (trivial) (by intro w hSw; go_simp; try with_reducible rfl) ?_
  (try simp only [Act.put, List.setIfInBounds_toArray, List.set_cons_zero, List.set_cons_succ])
  refine anyH_take (i := 6) (some 49) (v := _) rfl rfl (by kernel_rfl) (by kernel_rfl) (by kernel_rfl) (fun _ _ _ h => h) (by rfl) (trivial) (by intro w hSw; go_simp; try with_reducible rfl) ?_
  (try simp only [Act.put, List.setIfInBounds_toArray, List.set_cons_zero, List.set_cons_succ])
  refine anyH_take (i := 7) (some 50) (v := _) rfl rfl (by kernel_rfl) (by kernel_rfl) (by kernel_rfl) (fun _ _ _ h => h) (by rfl) (trivial) (by intro w hSw; go_simp; try with_reducible rfl) ?_
  (try simp only [Act.put, List.setIfInBounds_toArray, List.set_cons_zero, List.set_cons_succ])
  refine anyH_take (i := 10) (some 53) (v := _) rfl rfl (by kernel_rfl) (by kernel_rfl) (by kernel_rfl) (fun _ _ _ h => h) (by rfl) (trivial) (by intro w hSw; go_simp; try with_reducible rfl) ?_
  (try simp only [Act.put, List.setIfInBounds_toArray, List.set_cons_zero, List.set_cons_succ])
  refine wpAnyH_ready (rs := [8]) (by kernel_rfl) (by simp) (AllReadyH.cons rfl (fun K hK => ?_) AllReadyH.nil)
  go_simp
  (refine (GA.out _ (Below.refl _ _).drew).mono ?_; rintro e w5 ⟨a5, c5, rfl, hb5, _, _⟩; have HB5 := Lib.hid hb5; clear hb5)
  go_wp2_with fail
  refine hK.out _ _ (trivial) (fun _ => ?_)
  clear hK K
  (try simp only [Act.put, List.setIfInBounds_toArray, List.set_cons_zero, List.set_cons_succ])
  refine anyH_mono (S' := fun w => Below w5.heap.size w5 w) (fun _ _ => trivial) ?_
  refine anyH_take (i := 9) (some 52) (v := _) rfl rfl (by kernel_rfl) (by kernel_rfl) (by kernel_rfl) (fun _ _ _ h => h) (by rfl) (Below.refl _ _) (by intro w hSw; go_simp; try with_reducible rfl) ?_
  (try simp only [Act.put, List.setIfInBounds_toArray, List.set_cons_zero, List.set_cons_succ])
  refine anyH_take (i := 11) (some 54) (v := _) rfl rfl (by kernel_rfl) (by kernel_rfl) (by kernel_rfl) (fun _ _ _ h => h) (by rfl) (Below.refl _ _) (by intro w hSw; go_simp; try with_reducible rfl) ?_
  (try simp only [Act.put, List.setIfInBounds_toArray, List.set_cons_zero, List.set_cons_succ])
  refine anyH_take (i := 12) (some 55) (v := _) rfl rfl (by kernel_rfl) (by kernel_rfl) (by kernel_rfl) (fun _ _ _ h => h) (by rfl) (Below.refl _ _) (by intro w hSw; go_simp; try with_reducible rfl) ?_
  (try simp only [Act.put, List.setIfInBounds_toArray, List.set_cons_zero, List.set_cons_succ])
  refine anyH_take (i := 13) (some 56) (v := _) rfl rfl (by kernel_rfl) (by kernel_rfl) (by kernel_rfl) (fun _ _ _ h => h) (by rfl) (Below.refl _ _) (by intro w hSw; go_simp; try with_reducible rfl) ?_
  (try simp only [Act.put, List.setIfInBounds_toArray, List.set_cons_zero, List.set_cons_succ])
  refine anyH_take (i := 14) (some 57) (v := _) rfl rfl (by kernel_rfl) (by kernel_rfl) (by kernel_rfl) (fun _ _ _ h => h) (by rfl) (Below.refl _ _) (by intro w hSw; go_simp; try with_reducible rfl) ?_
  (try simp only [Act.put, List.setIfInBounds_toArray, List.set_cons_zero, List.set_cons_succ])
  refine anyH_take (i := 17) (some 60) (v := _) rfl rfl (by kernel_rfl) (by kernel_rfl) (by kernel_rfl) (fun _ _ _ h => h) (by rfl) (Below.refl _ _) (by intro w hSw; go_simp; try with_reducible rfl) ?_
  (try simp only [Act.put, List.setIfInBounds_toArray, List.set_cons_zero, List.set_cons_succ])
  refine anyH_take (i := 21) (some 64) (v := _) rfl rfl (by kernel_rfl) (by kernel_rfl) (by kernel_rfl) (fun _ _ _ h => h) (by rfl) (Below.refl _ _) (by intro w hSw; go_simp; try with_reducible rfl) ?_
  (try simp only [Act.put, List.setIfInBounds_toArray, List.set_cons_zero, List.set_cons_succ])
  refine anyH_take (i := 22) (some 65) (v := _) rfl rfl (by kernel_rfl) (by kernel_rfl) (by kernel_rfl) (fun _ _ _ h => h) (by rfl) (Below.refl _ _) (by intro w hSw; go_simp; try with_reducible rfl) ?_
  (try simp only [Act.put, List.setIfInBounds_toArray, List.set_cons_zero, List.set_cons_succ])
  refine anyH_take (i := 23) (some 66) (v := _) rfl rfl (by kernel_rfl) (by kernel_rfl) (by kernel_rfl) (fun _ _ _ h => h) (by rfl) (Below.refl _ _) (by intro w hSw; go_simp; try with_reducible rfl) ?_
  (try simp only [Act.put, List.setIfInBounds_toArray, List.set_cons_zero, List.set_cons_succ])
  refine wpAnyH_ready (rs := [15]) (by kernel_rfl) (by simp) (AllReadyH.cons rfl (fun K hK => ?_) AllReadyH.nil)
  go_simp
  (refine (GA.out _ HB5.out).mono ?_; rintro e w6 ⟨a6, c6, rfl, hb6, hb56, hc6⟩; have HB6 := Lib.hid hb6; have HB56 := Lib.hid hb56; have hq6 := hc6; clear hb6 hb56 hc6)
  go_wp2_with fail
  refine hK.out _ _ (HB56.out) (fun _ => ?_)
  clear hK K
  (try simp only [Act.put, List.setIfInBounds_toArray, List.set_cons_zero, List.set_cons_succ])
  refine anyH_mono (S' := fun w => Below w6.heap.size w6 w) (fun _ h => HB56.out.trans (h.mono HB56.out.size)) ?_
  refine anyH_take (i := 16) (some 59) (v := _) rfl rfl (by kernel_rfl) (by kernel_rfl) (by kernel_rfl) (fun _ _ _ h => h) (by rfl) (Below.refl _ _) (by intro w hSw; go_simp; try with_reducible rfl) ?_
  (try simp only [Act.put, List.setIfInBounds_toArray, List.set_cons_zero, List.set_cons_succ])
  refine wpAnyH_ready (rs := [18]) (by kernel_rfl) (by simp) (AllReadyH.cons rfl (fun K hK => ?_) AllReadyH.nil)
  go_simp
  (refine (GB.out _ HB6.out).mono ?_; rintro e w7 ⟨a7, c7, rfl, hb7, hb67, hc7⟩; have HB7 := Lib.hid hb7; have HB67 := Lib.hid hb67; have hq7 := hc7; clear hb7 hb67 hc7)
  go_wp2_with fail
  refine hK.out _ _ (HB67.out) (fun _ => ?_)
  clear hK K
  (try simp only [Act.put, List.setIfInBounds_toArray, List.set_cons_zero, List.set_cons_succ])
  refine anyH_mono (S' := fun w => Below w7.heap.size w7 w) (fun _ h => HB67.out.trans (h.mono HB67.out.size)) ?_
  refine anyH_take (i := 19) (some 62) (v := _) rfl rfl (by kernel_rfl) (by kernel_rfl) (by kernel_rfl) (fun _ _ _ h => h) (by rfl) (Below.refl _ _) (by intro w hSw; go_simp; try with_reducible rfl) ?_
  (try simp only [Act.put, List.setIfInBounds_toArray, List.set_cons_zero, List.set_cons_succ])
  refine anyH_take (i := 20) (some 63) (v := _) rfl rfl (by kernel_rfl) (by kernel_rfl) (by kernel_rfl) (fun _ _ _ h => h) (by rfl) (Below.refl _ _) (by intro w hSw; go_simp; try with_reducible rfl) ?_
  (try simp only [Act.put, List.setIfInBounds_toArray, List.set_cons_zero, List.set_cons_succ])
  refine anyH_take (i := 24) (some 67) (v := _) rfl rfl (by kernel_rfl) (by kernel_rfl) (by kernel_rfl) (fun _ _ _ h => h) (by rfl) (Below.refl _ _) (by intro w hSw; go_simp; try with_reducible rfl) ?_
  (try simp only [Act.put, List.setIfInBounds_toArray, List.set_cons_zero, List.set_cons_succ])
  refine anyH_take (i := 25) (some 68) (v := _) rfl rfl (by kernel_rfl) (by kernel_rfl) (by kernel_rfl) (fun _ _ _ h => h) (by rfl) (Below.refl _ _) (by intro w hSw; go_simp; try with_reducible rfl) ?_
  (try simp only [Act.put, List.setIfInBounds_toArray, List.set_cons_zero, List.set_cons_succ])
  refine anyH_take (i := 26) (some 6) (v := _) rfl rfl (by kernel_rfl) (by kernel_rfl) (by kernel_rfl) (fun _ _ _ h => h) (by rfl) (Below.refl _ _) (by intro w hSw; go_simp; try with_reducible rfl) ?_
  (try simp only [Act.put, List.setIfInBounds_toArray, List.set_cons_zero, List.set_cons_succ])
  refine wpAnyH_done (by kernel_rfl) ?_ _
  go_wp2
  go_ret
  exact ⟨rfl, HF.out.trans (HB7.out.mono HF.out.size)⟩

set_option maxHeartbeats 2000000 in
theorem orders2 {X Y : Nat} {wh : Int} (hX : X < 18446744073709551616) (hY : Y < 18446744073709551616) (hh : 0 ≤ wh) (hh' : wh ≤ 255) (hm : wh % 4 = 1) (w : World) (hL : StepsLaid w) :
    Calls Tryd.prog 4 #[.int .u64 (X : Int), .int .u64 (Y : Int), .int .u8 wh] w fun e w' => e = .returned (.bool true) ∧ Below w.heap.size w w' := by
  have hL0 := Lib.hid hL
  clear hL
  go_enter Tryd.func4, Tryd.ntmps4
  go_wp2_with fail
  refine (lives03 _ hL0.out).mono ?_
  rintro e W1 ⟨rfl, hb1⟩
  have HB := Lib.hid hb1
  have hs0 := hL0.out.lt
  have HLW := Lib.hid (hL0.out.keep hb1 hs0)
  have hz1 := hb1.size
  clear hb1
  go_wp2_with fail
  go_quiet (fail)
  go_wp2_with fail
  obtain ⟨A, hA⟩ : ∃ A, A = X % 65536 := ⟨_, rfl⟩
  obtain ⟨C, hC⟩ : ∃ C, C = Y % 65536 := ⟨_, rfl⟩
  have hA1 : A < 65536 := by omega
  have hC1 : C < 65536 := by omega
  rw [show ((X : Int) % 65536) = (A : Int) by omega, show ((Y : Int) % 65536) = (C : Int) by omega]
  clear hA hC hX hY hm hh hh'
  obtain ⟨V, hV⟩ : ∃ V, V = (W1.alloc (.cells #[.int .i64 1, .int .i64 2, .int .i64 4, .int .i64 8] 3)).drewN nq := ⟨_, rfl⟩
  rw [← hV]
  have hsz : V.heap.size = W1.heap.size + 1 := by rw [hV]; show (W1.alloc _).heap.size = _; simp
  have hVb : Hid (Below w.heap.size w V) := HB.out.trans (by rw [hV]; exact ((Below.refl _ W1).alloc hz1 _).trans ((only_drewN (fun _ => False) _ nq).below (by simp; omega) (fun _ h => h.elim)))
  have HLV : Hid (StepsLaid V) := by rw [hV]; exact (HLW.out.alloc _)
  clear hV HLW
  obtain ⟨wa, wb⟩ := two_owriters V hsz
  have HA0 := Lib.hid (OWrote.start wa)
  have HB0 := Lib.hid wb
  have HL1 := Lib.hid ((HLV.out.alloc (.cells #[.slice none 0 0] 27)).alloc (.cells #[.slice none 0 0] 27))
  have hs1 : 0 < W1.heap.size + 1 := by omega
  clear wa wb
  refine (num_ok (n := 2) (by omega) (by unfold Wide; omega) (wid_le 16 (by omega)) HL1.out (by simp; omega) (by simp) HA0.out).mono ?_
  rintro e W2 ⟨rfl, ha⟩
  have HA := Lib.hid ha
  have HL2 := Lib.hid (HL1.out.keep (ha.below (by simp; omega)) hs1)
  have HB1 := Lib.hid (OWrote.start (HB0.out.only ha.2.2.1 (by simp) (by simp)))
  have hz2 : W1.heap.size + 1 ≤ W2.heap.size := by have := ha.2.2.1.size; simp at this; omega
  clear ha
  go_wp2_with fail
  refine (num_ok (n := 2) (by omega) (by unfold Wide; omega) (wid_le 16 (by omega)) HL2.out hz2 (by simp) HB1.out).mono ?_
  rintro e W4 ⟨rfl, hb⟩
  have HB3 := Lib.hid hb
  have HA3 : Hid (∃ g, OWriterAt (W1.heap.size + 1) W4 (W1.heap.size + 1) g ([] ++ numB A 2)) := by
    obtain ⟨_, _, ho, g', hw, hg⟩ := HA.out
    refine ⟨g', hw.only hb.2.2.1 (by simp) (fun k hk => ?_)⟩
    rcases hg with h1 | ⟨j, h1, h2⟩
    · rw [h1] at hk; cases hk
    · rw [h1] at hk; cases hk; simp at h2 ⊢; omega
  have HE : Hid (Below (W1.heap.size + 1) V W4) := (((Below.refl _ _).alloc (by omega) _).alloc (by simp; omega) _).trans ((HA.out.below (by simp; omega)).trans (hb.below hz2))
  obtain ⟨ga, hga⟩ := HA3.out
  obtain ⟨gb, hgb⟩ := OWriterAt.of HB3.out
  rw [List.nil_append] at hga hgb
  have GA := Lib.hid (ogives_of hga (by rw [numB_length]; omega))
  have GB := Lib.hid (ogives_of hgb (by rw [numB_length]; omega))
  have GA := GA.out
  have GB := GB.out
  rw [OGives, numB_length] at GA GB
  have GA := Lib.hid GA
  have GB := Lib.hid GB
  have hless := less_nums (A := A) (B := C) (n := 2) (by omega) (by omega)
  have hcast : decide ((A : Int) < C) = decide (A < C) := by rw [decide_eq_decide]; omega
  have HF : Hid (Below w.heap.size w W4) := hVb.out.trans (HE.out.mono (by omega))
  clear hb HL2 HB1 HA HA0 HB0 HL1 hga hgb HA3 HB3 hL0 HE hVb HLV HB
  go_wp2_with fail
  generalize strOf (numB A 2) = sa at *
  generalize strOf (numB C 2) = sc at *
  clear hA1 hC1 hz2 hs0 hs1 hsz hz1
  refine wp_region_held_drew (S := fun _ => True) (by kernel_rfl) trivial (fun _ => ?_)
  refine anyH_take (i := 0) (some 43) (v := _) rfl rfl (by kernel_rfl) (by kernel_rfl) (by kernel_rfl) (fun _ _ _ h => h) (by rfl) (trivial) (by intro w hSw; go_simp; try with_reducible rfl) ?_
  (try simp only [Act.put, List.setIfInBounds_toArray, List.set_cons_zero, List.set_cons_succ])
  refine anyH_take (i := 1) (some 44) (v := _) rfl rfl (by kernel_rfl) (by kernel_rfl) (by kernel_rfl) (fun _ _ _ h => h) (by rfl) (trivial) (by intro w hSw; go_simp; try with_reducible rfl) ?_
  (try simp only [Act.put, List.setIfInBounds_toArray, List.set_cons_zero, List.set_cons_succ])
  refine anyH_take (i := 2) (some 45) (v := _) rfl rfl (by kernel_rfl) (by kernel_rfl) (by kernel_rfl) (fun _ _ _ h => h) (by rfl) (trivial) (by intro w hSw; go_simp; try with_reducible rfl) ?_
  (try simp only [Act.put, List.setIfInBounds_toArray, List.set_cons_zero, List.set_cons_succ])
  refine anyH_take (i := 3) (some 46) (v := _) rfl rfl (by kernel_rfl) (by kernel_rfl) (by kernel_rfl) (fun _ _ _ h => h) (by rfl) (trivial) (by intro w hSw; go_simp; try with_reducible rfl) ?_
  (try simp only [Act.put, List.setIfInBounds_toArray, List.set_cons_zero, List.set_cons_succ])
  refine anyH_take (i := 4) (some 47) (v := _) rfl rfl (by kernel_rfl) (by kernel_rfl) (by kernel_rfl) (fun _ _ _ h => h) (by rfl) (trivial) (by intro w hSw; go_simp; try with_reducible rfl) ?_
  (try simp only [Act.put, List.setIfInBounds_toArray, List.set_cons_zero, List.set_cons_succ])
  refine anyH_take (i := 5) (some 48) (v := _) rfl rfl (by kernel_rfl) (by kernel_rfl) (by kernel_rfl) (fun _ _ _ h => h) (by rfl) (trivial) (by intro w hSw; go_simp; try with_reducible rfl) ?_
  (try simp only [Act.put, List.setIfInBounds_toArray, List.set_cons_zero, List.set_cons_succ])
  refine anyH_take (i := 6) (some 49) (v := _) rfl rfl (by kernel_rfl) (by kernel_rfl) (by kernel_rfl) (fun _ _ _ h => h) (by rfl) (trivial) (by intro w hSw; go_simp; try with_reducible rfl) ?_
  (try simp only [Act.put, List.setIfInBounds_toArray, List.set_cons_zero, List.set_cons_succ])
  refine anyH_take (i := 7) (some 50) (v := _) rfl rfl (by kernel_rfl) (by kernel_rfl) (by kernel_rfl) (fun _ _ _ h => h) (by rfl) (trivial) (by intro w hSw; go_simp; try with_reducible rfl) ?_
  (try simp only [Act.put, List.setIfInBounds_toArray, List.set_cons_zero, List.set_cons_succ])
  refine anyH_take (i := 10) (some 53) (v := _) rfl rfl (by kernel_rfl) (by kernel_rfl) (by kernel_rfl) (fun _ _ _ h => h) (by rfl) (trivial) (by intro w hSw; go_simp; try with_reducible rfl) ?_
  (try simp only [Act.put, List.setIfInBounds_toArray, List.set_cons_zero, List.set_cons_succ])
  refine wpAnyH_ready (rs := [8]) (by kernel_rfl) (by simp) (AllReadyH.cons rfl (fun K hK => ?_) AllReadyH.nil)
  go_simp
  (refine (GA.out _ (Below.refl _ _).drew).mono ?_; rintro e w5 ⟨a5, c5, rfl, hb5, _, _⟩; have HB5 := Lib.hid hb5; clear hb5)
  go_wp2_with fail
  refine hK.out _ _ (trivial) (fun _ => ?_)
  clear hK K
  (try simp only [Act.put, List.setIfInBounds_toArray, List.set_cons_zero, List.set_cons_succ])
  refine anyH_mono (S' := fun w => Below w5.heap.size w5 w) (fun _ _ => trivial) ?_
  refine anyH_take (i := 9) (some 52) (v := _) rfl rfl (by kernel_rfl) (by kernel_rfl) (by kernel_rfl) (fun _ _ _ h => h) (by rfl) (Below.refl _ _) (by intro w hSw; go_simp; try with_reducible rfl) ?_
  (try simp only [Act.put, List.setIfInBounds_toArray, List.set_cons_zero, List.set_cons_succ])
  refine anyH_take (i := 11) (some 54) (v := _) rfl rfl (by kernel_rfl) (by kernel_rfl) (by kernel_rfl) (fun _ _ _ h => h) (by rfl) (Below.refl _ _) (by intro w hSw; go_simp; try with_reducible rfl) ?_
  (try simp only [Act.put, List.setIfInBounds_toArray, List.set_cons_zero, List.set_cons_succ])
  refine anyH_take (i := 12) (some 55) (v := _) rfl rfl (by kernel_rfl) (by kernel_rfl) (by kernel_rfl) (fun _ _ _ h => h) (by rfl) (Below.refl _ _) (by intro w hSw; go_simp; try with_reducible rfl) ?_
  (try simp only [Act.put, List.setIfInBounds_toArray, List.set_cons_zero, List.set_cons_succ])
  refine anyH_take (i := 13) (some 56) (v := _) rfl rfl (by kernel_rfl) (by kernel_rfl) (by kernel_rfl) (fun _ _ _ h => h) (by rfl) (Below.refl _ _) (by intro w hSw; go_simp; try with_reducible rfl) ?_
  (try simp only [Act.put, List.setIfInBounds_toArray, List.set_cons_zero, List.set_cons_succ])
  refine anyH_take (i := 14) (some 57) (v := _) rfl rfl (by kernel_rfl) (by kernel_rfl) (by kernel_rfl) (fun _ _ _ h => h) (by rfl) (Below.refl _ _) (by intro w hSw; go_simp; try with_reducible rfl) ?_
  (try simp only [Act.put, List.setIfInBounds_toArray, List.set_cons_zero, List.set_cons_succ])
  refine anyH_take (i := 17) (some 60) (v := _) rfl rfl (by kernel_rfl) (by kernel_rfl) (by kernel_rfl) (fun _ _ _ h => h) (by rfl) (Below.refl _ _) (by intro w hSw; go_simp; try with_reducible rfl) ?_
  (try simp only [Act.put, List.setIfInBounds_toArray, List.set_cons_zero, List.set_cons_succ])
  refine anyH_take (i := 21) (some 64) (v := _) rfl rfl (by kernel_rfl) (by kernel_rfl) (by kernel_rfl) (fun _ _ _ h => h) (by rfl) (Below.refl _ _) (by intro w hSw; go_simp; try with_reducible rfl) ?_
  (try simp only [Act.put, List.setIfInBounds_toArray, List.set_cons_zero, List.set_cons_succ])
  refine anyH_take (i := 22) (some 65) (v := _) rfl rfl (by kernel_rfl) (by kernel_rfl) (by kernel_rfl) (fun _ _ _ h => h) (by rfl) (Below.refl _ _) (by intro w hSw; go_simp; try with_reducible rfl) ?_
  (try simp only [Act.put, List.setIfInBounds_toArray, List.set_cons_zero, List.set_cons_succ])
  refine anyH_take (i := 23) (some 66) (v := _) rfl rfl (by kernel_rfl) (by kernel_rfl) (by kernel_rfl) (fun _ _ _ h => h) (by rfl) (Below.refl _ _) (by intro w hSw; go_simp; try with_reducible rfl) ?_
  (try simp only [Act.put, List.setIfInBounds_toArray, List.set_cons_zero, List.set_cons_succ])
  refine wpAnyH_ready (rs := [15]) (by kernel_rfl) (by simp) (AllReadyH.cons rfl (fun K hK => ?_) AllReadyH.nil)
  go_simp
  (refine (GA.out _ HB5.out).mono ?_; rintro e w6 ⟨a6, c6, rfl, hb6, hb56, hc6⟩; have HB6 := Lib.hid hb6; have HB56 := Lib.hid hb56; have hq6 := hc6; clear hb6 hb56 hc6)
  go_wp2_with fail
  refine hK.out _ _ (HB56.out) (fun _ => ?_)
  clear hK K
  (try simp only [Act.put, List.setIfInBounds_toArray, List.set_cons_zero, List.set_cons_succ])
  refine anyH_mono (S' := fun w => Below w6.heap.size w6 w) (fun _ h => HB56.out.trans (h.mono HB56.out.size)) ?_
  refine anyH_take (i := 16) (some 59) (v := _) rfl rfl (by kernel_rfl) (by kernel_rfl) (by kernel_rfl) (fun _ _ _ h => h) (by rfl) (Below.refl _ _) (by intro w hSw; go_simp; try with_reducible rfl) ?_
  (try simp only [Act.put, List.setIfInBounds_toArray, List.set_cons_zero, List.set_cons_succ])
  refine wpAnyH_ready (rs := [18]) (by kernel_rfl) (by simp) (AllReadyH.cons rfl (fun K hK => ?_) AllReadyH.nil)
  go_simp
  (refine (GB.out _ HB6.out).mono ?_; rintro e w7 ⟨a7, c7, rfl, hb7, hb67, hc7⟩; have HB7 := Lib.hid hb7; have HB67 := Lib.hid hb67; have hq7 := hc7; clear hb7 hb67 hc7)
  go_wp2_with fail
  refine hK.out _ _ (HB67.out) (fun _ => ?_)
  clear hK K
  (try simp only [Act.put, List.setIfInBounds_toArray, List.set_cons_zero, List.set_cons_succ])
  refine anyH_mono (S' := fun w => Below w7.heap.size w7 w) (fun _ h => HB67.out.trans (h.mono HB67.out.size)) ?_
  refine anyH_take (i := 19) (some 62) (v := _) rfl rfl (by kernel_rfl) (by kernel_rfl) (by kernel_rfl) (fun _ _ _ h => h) (by rfl) (Below.refl _ _) (by intro w hSw; go_simp; try with_reducible rfl) ?_
  (try simp only [Act.put, List.setIfInBounds_toArray, List.set_cons_zero, List.set_cons_succ])
  refine anyH_take (i := 20) (some 63) (v := _) rfl rfl (by kernel_rfl) (by kernel_rfl) (by kernel_rfl) (fun _ _ _ h => h) (by rfl) (Below.refl _ _) (by intro w hSw; go_simp; try with_reducible rfl) ?_
  (try simp only [Act.put, List.setIfInBounds_toArray, List.set_cons_zero, List.set_cons_succ])
  refine anyH_take (i := 24) (some 67) (v := _) rfl rfl (by kernel_rfl) (by kernel_rfl) (by kernel_rfl) (fun _ _ _ h => h) (by rfl) (Below.refl _ _) (by intro w hSw; go_simp; try with_reducible rfl) ?_
  (try simp only [Act.put, List.setIfInBounds_toArray, List.set_cons_zero, List.set_cons_succ])
  refine anyH_take (i := 25) (some 68) (v := _) rfl rfl (by kernel_rfl) (by kernel_rfl) (by kernel_rfl) (fun _ _ _ h => h) (by rfl) (Below.refl _ _) (by intro w hSw; go_simp; try with_reducible rfl) ?_
  (try simp only [Act.put, List.setIfInBounds_toArray, List.set_cons_zero, List.set_cons_succ])
  refine anyH_take (i := 26) (some 6) (v := _) rfl rfl (by kernel_rfl) (by kernel_rfl) (by kernel_rfl) (fun _ _ _ h => h) (by rfl) (Below.refl _ _) (by intro w hSw; go_simp; try with_reducible rfl) ?_
  (try simp only [Act.put, List.setIfInBounds_toArray, List.set_cons_zero, List.set_cons_succ])
  refine wpAnyH_done (by kernel_rfl) ?_ _
  go_wp2
  go_ret
  exact ⟨rfl, HF.out.trans (HB7.out.mono HF.out.size)⟩

set_option maxHeartbeats 2000000 in
theorem orders4 {X Y : Nat} {wh : Int} (hX : X < 18446744073709551616) (hY : Y < 18446744073709551616) (hh : 0 ≤ wh) (hh' : wh ≤ 255) (hm : wh % 4 = 2) (w : World) (hL : StepsLaid w) :
    Calls Tryd.prog 4 #[.int .u64 (X : Int), .int .u64 (Y : Int), .int .u8 wh] w fun e w' => e = .returned (.bool true) ∧ Below w.heap.size w w' := by
  have hL0 := Lib.hid hL
  clear hL
  go_enter Tryd.func4, Tryd.ntmps4
  go_wp2_with fail
  refine (lives03 _ hL0.out).mono ?_
  rintro e W1 ⟨rfl, hb1⟩
  have HB := Lib.hid hb1
  have hs0 := hL0.out.lt
  have HLW := Lib.hid (hL0.out.keep hb1 hs0)
  have hz1 := hb1.size
  clear hb1
  go_wp2_with fail
  go_quiet (fail)
  go_wp2_with fail
  obtain ⟨A, hA⟩ : ∃ A, A = X % 4294967296 := ⟨_, rfl⟩
  obtain ⟨C, hC⟩ : ∃ C, C = Y % 4294967296 := ⟨_, rfl⟩
  have hA1 : A < 4294967296 := by omega
  have hC1 : C < 4294967296 := by omega
  rw [show ((X : Int) % 4294967296) = (A : Int) by omega, show ((Y : Int) % 4294967296) = (C : Int) by omega]
  clear hA hC hX hY hm hh hh'
  obtain ⟨V, hV⟩ : ∃ V, V = (W1.alloc (.cells #[.int .i64 1, .int .i64 2, .int .i64 4, .int .i64 8] 3)).drewN nq := ⟨_, rfl⟩
  rw [← hV]
  have hsz : V.heap.size = W1.heap.size + 1 := by rw [hV]; show (W1.alloc _).heap.size = _; simp
  have hVb : Hid (Below w.heap.size w V) := HB.out.trans (by rw [hV]; exact ((Below.refl _ W1).alloc hz1 _).trans ((only_drewN (fun _ => False) _ nq).below (by simp; omega) (fun _ h => h.elim)))
  have HLV : Hid (StepsLaid V) := by rw [hV]; exact (HLW.out.alloc _)
  clear hV HLW
  obtain ⟨wa, wb⟩ := two_owriters V hsz
  have HA0 := Lib.hid (OWrote.start wa)
  have HB0 := Lib.hid wb
  have HL1 := Lib.hid ((HLV.out.alloc (.cells #[.slice none 0 0] 27)).alloc (.cells #[.slice none 0 0] 27))
  have hs1 : 0 < W1.heap.size + 1 := by omega
  clear wa wb
  refine (num_ok (n := 4) (by omega) (by unfold Wide; omega) (wid_le 32 (by omega)) HL1.out (by simp; omega) (by simp) HA0.out).mono ?_
  rintro e W2 ⟨rfl, ha⟩
  have HA := Lib.hid ha
  have HL2 := Lib.hid (HL1.out.keep (ha.below (by simp; omega)) hs1)
  have HB1 := Lib.hid (OWrote.start (HB0.out.only ha.2.2.1 (by simp) (by simp)))
  have hz2 : W1.heap.size + 1 ≤ W2.heap.size := by have := ha.2.2.1.size; simp at this; omega
  clear ha
  go_wp2_with fail
  refine (num_ok (n := 4) (by omega) (by unfold Wide; omega) (wid_le 32 (by omega)) HL2.out hz2 (by simp) HB1.out).mono ?_
  rintro e W4 ⟨rfl, hb⟩
  have HB3 := Lib.hid hb
  have HA3 : Hid (∃ g, OWriterAt (W1.heap.size + 1) W4 (W1.heap.size + 1) g ([] ++ numB A 4)) := by
    obtain ⟨_, _, ho, g', hw, hg⟩ := HA.out
    refine ⟨g', hw.only hb.2.2.1 (by simp) (fun k hk => ?_)⟩
    rcases hg with h1 | ⟨j, h1, h2⟩
    · rw [h1] at hk; cases hk
    · rw [h1] at hk; cases hk; simp at h2 ⊢; omega
  have HE : Hid (Below (W1.heap.size + 1) V W4) := (((Below.refl _ _).alloc (by omega) _).alloc (by simp; omega) _).trans ((HA.out.below (by simp; omega)).trans (hb.below hz2))
  obtain ⟨ga, hga⟩ := HA3.out
  obtain ⟨gb, hgb⟩ := OWriterAt.of HB3.out
  rw [List.nil_append] at hga hgb
  have GA := Lib.hid (ogives_of hga (by rw [numB_length]; omega))
  have GB := Lib.hid (ogives_of hgb (by rw [numB_length]; omega))
  have GA := GA.out
  have GB := GB.out
  rw [OGives, numB_length] at GA GB
  have GA := Lib.hid GA
  have GB := Lib.hid GB
  have hless := less_nums (A := A) (B := C) (n := 4) (by omega) (by omega)
  have hcast : decide ((A : Int) < C) = decide (A < C) := by rw [decide_eq_decide]; omega
  have HF : Hid (Below w.heap.size w W4) := hVb.out.trans (HE.out.mono (by omega))
  clear hb HL2 HB1 HA HA0 HB0 HL1 hga hgb HA3 HB3 hL0 HE hVb HLV HB
  go_wp2_with fail
  generalize strOf (numB A 4) = sa at *
  generalize strOf (numB C 4) = sc at *
  clear hA1 hC1 hz2 hs0 hs1 hsz hz1
  refine wp_region_held_drew (S := fun _ => True) (by kernel_rfl) trivial (fun _ => ?_)
  refine anyH_take (i := 0) (some 43) (v := _) rfl rfl (by kernel_rfl) (by kernel_rfl) (by kernel_rfl) (fun _ _ _ h => h) (by rfl) (trivial) (by intro w hSw; go_simp; try with_reducible rfl) ?_
  (try simp only [Act.put, List.setIfInBounds_toArray, List.set_cons_zero, List.set_cons_succ])
  refine anyH_take (i := 1) (some 44) (v := _) rfl rfl (by kernel_rfl) (by kernel_rfl) (by kernel_rfl) (fun _ _ _ h => h) (by rfl) (trivial) (by intro w hSw; go_simp; try with_reducible rfl) ?_
  (try simp only [Act.put, List.setIfInBounds_toArray, List.set_cons_zero, List.set_cons_succ])
  refine anyH_take (i := 2) (some 45) (v := _) rfl rfl (by kernel_rfl) (by kernel_rfl) (by kernel_rfl) (fun _ _ _ h => h) (by rfl) (trivial) (by intro w hSw; go_simp; try with_reducible rfl) ?_
  (try simp only [Act.put, List.setIfInBounds_toArray, List.set_cons_zero, List.set_cons_succ])
  refine anyH_take (i := 3) (some 46) (v := _) rfl rfl (by kernel_rfl) (by kernel_rfl) (by kernel_rfl) (fun _ _ _ h => h) (by rfl) (trivial) (by intro w hSw; go_simp; try with_reducible rfl) ?_
  (try simp only [Act.put, List.setIfInBounds_toArray, List.set_cons_zero, List.set_cons_succ])
  refine anyH_take (i := 4) (some 47) (v := _) rfl rfl (by kernel_rfl) (by kernel_rfl) (by kernel_rfl) (fun _ _ _ h => h) (by rfl) (trivial) (by intro w hSw; go_simp; try with_reducible rfl) ?_
  (try simp only [Act.put, List.setIfInBounds_toArray, List.set_cons_zero, List.set_cons_succ])
  refine anyH_take (i := 5) (some 48) (v := _) rfl rfl (by kernel_rfl) (by kernel_rfl) (by kernel_rfl) (fun _ _ _ h => h) (by rfl) (trivial) (by intro w hSw; go_simp; try with_reducible rfl) ?_
  (try simp only [Act.put, List.setIfInBounds_toArray, List.set_cons_zero, List.set_cons_succ])
  refine anyH_take (i := 6) (some 49) (v := _) rfl rfl (by kernel_rfl) (by kernel_rfl) (by kernel_rfl) (fun _ _ _ h => h) (by rfl) (trivial) (by intro w hSw; go_simp; try with_reducible rfl) ?_
  (try simp only [Act.put, List.setIfInBounds_toArray, List.set_cons_zero, List.set_cons_succ])
  refine anyH_take (i := 7) (some 50) (v := _) rfl rfl (by kernel_rfl) (by kernel_rfl) (by kernel_rfl) (fun _ _ _ h => h) (by rfl) (trivial) (by intro w hSw; go_simp; try with_reducible rfl) ?_
  (try simp only [Act.put, List.setIfInBounds_toArray, List.set_cons_zero, List.set_cons_succ])
  refine anyH_take (i := 10) (some 53) (v := _) rfl rfl (by kernel_rfl) (by kernel_rfl) (by kernel_rfl) (fun _ _ _ h => h) (by rfl) (trivial) (by intro w hSw; go_simp; try with_reducible rfl) ?_
  (try simp only [Act.put, List.setIfInBounds_toArray, List.set_cons_zero, List.set_cons_succ])
  refine wpAnyH_ready (rs := [8]) (by kernel_rfl) (by simp) (AllReadyH.cons rfl (fun K hK => ?_) AllReadyH.nil)
  go_simp
  (refine (GA.out _ (Below.refl _ _).drew).mono ?_; rintro e w5 ⟨a5, c5, rfl, hb5, _, _⟩; have HB5 := Lib.hid hb5; clear hb5)
  go_wp2_with fail
  refine hK.out _ _ (trivial) (fun _ => ?_)
  clear hK K
  (try simp only [Act.put, List.setIfInBounds_toArray, List.set_cons_zero, List.set_cons_succ])
  refine anyH_mono (S' := fun w => Below w5.heap.size w5 w) (fun _ _ => trivial) ?_
  refine anyH_take (i := 9) (some 52) (v := _) rfl rfl (by kernel_rfl) (by kernel_rfl) (by kernel_rfl) (fun _ _ _ h => h) (by rfl) (Below.refl _ _) (by intro w hSw; go_simp; try with_reducible rfl) ?_
  (try simp only [Act.put, List.setIfInBounds_toArray, List.set_cons_zero, List.set_cons_succ])
  refine anyH_take (i := 11) (some 54) (v := _) rfl rfl (by kernel_rfl) (by kernel_rfl) (by kernel_rfl) (fun _ _ _ h => h) (by rfl) (Below.refl _ _) (by intro w hSw; go_simp; try with_reducible rfl) ?_
  (try simp only [Act.put, List.setIfInBounds_toArray, List.set_cons_zero, List.set_cons_succ])
  refine anyH_take (i := 12) (some 55) (v := _) rfl rfl (by kernel_rfl) (by kernel_rfl) (by kernel_rfl) (fun _ _ _ h => h) (by rfl) (Below.refl _ _) (by intro w hSw; go_simp; try with_reducible rfl) ?_
  (try simp only [Act.put, List.setIfInBounds_toArray, List.set_cons_zero, List.set_cons_succ])
  refine anyH_take (i := 13) (some 56) (v := _) rfl rfl (by kernel_rfl) (by kernel_rfl) (by kernel_rfl) (fun _ _ _ h => h) (by rfl) (Below.refl _ _) (by intro w hSw; go_simp; try with_reducible rfl) ?_
  (try simp only [Act.put, List.setIfInBounds_toArray, List.set_cons_zero, List.set_cons_succ])
  refine anyH_take (i := 14) (some 57) (v := _) rfl rfl (by kernel_rfl) (by kernel_rfl) (by kernel_rfl) (fun _ _ _ h => h) (by rfl) (Below.refl _ _) (by intro w hSw; go_simp; try with_reducible rfl) ?_
  (try simp only [Act.put, List.setIfInBounds_toArray, List.set_cons_zero, List.set_cons_succ])
  refine anyH_take (i := 17) (some 60) (v := _) rfl rfl (by kernel_rfl) (by kernel_rfl) (by kernel_rfl) (fun _ _ _ h => h) (by rfl) (Below.refl _ _) (by intro w hSw; go_simp; try with_reducible rfl) ?_
  (try simp only [Act.put, List.setIfInBounds_toArray, List.set_cons_zero, List.set_cons_succ])
  refine anyH_take (i := 21) (some 64) (v := _) rfl rfl (by kernel_rfl) (by kernel_rfl) (by kernel_rfl) (fun _ _ _ h => h) (by rfl) (Below.refl _ _) (by intro w hSw; go_simp; try with_reducible rfl) ?_
  (try simp only [Act.put, List.setIfInBounds_toArray, List.set_cons_zero, List.set_cons_succ])
  refine anyH_take (i := 22) (some 65) (v := _) rfl rfl (by kernel_rfl) (by kernel_rfl) (by kernel_rfl) (fun _ _ _ h => h) (by rfl) (Below.refl _ _) (by intro w hSw; go_simp; try with_reducible rfl) ?_
  (try simp only [Act.put, List.setIfInBounds_toArray, List.set_cons_zero, List.set_cons_succ])
  refine anyH_take (i := 23) (some 66) (v := _) rfl rfl (by kernel_rfl) (by kernel_rfl) (by kernel_rfl) (fun _ _ _ h => h) (by rfl) (Below.refl _ _) (by intro w hSw; go_simp; try with_reducible rfl) ?_
  (try simp only [Act.put, List.setIfInBounds_toArray, List.set_cons_zero, List.set_cons_succ])
  refine wpAnyH_ready (rs := [15]) (by kernel_rfl) (by simp) (AllReadyH.cons rfl (fun K hK => ?_) AllReadyH.nil)
  go_simp
  (refine (GA.out _ HB5.out).mono ?_; rintro e w6 ⟨a6, c6, rfl, hb6, hb56, hc6⟩; have HB6 := Lib.hid hb6; have HB56 := Lib.hid hb56; have hq6 := hc6; clear hb6 hb56 hc6)
  go_wp2_with fail
  refine hK.out _ _ (HB56.out) (fun _ => ?_)
  clear hK K
  (try simp only [Act.put, List.setIfInBounds_toArray, List.set_cons_zero, List.set_cons_succ])
  refine anyH_mono (S' := fun w => Below w6.heap.size w6 w) (fun _ h => HB56.out.trans (h.mono HB56.out.size)) ?_
  refine anyH_take (i := 16) (some 59) (v := _) rfl rfl (by kernel_rfl) (by kernel_rfl) (by kernel_rfl) (fun _ _ _ h => h) (by rfl) (Below.refl _ _) (by intro w hSw; go_simp; try with_reducible rfl) ?_
  (try simp only [Act.put, List.setIfInBounds_toArray, List.set_cons_zero, List.set_cons_succ])
  refine wpAnyH_ready (rs := [18]) (by kernel_rfl) (by simp) (AllReadyH.cons rfl (fun K hK => ?_) AllReadyH.nil)
  go_simp
  (refine (GB.out _ HB6.out).mono ?_; rintro e w7 ⟨a7, c7, rfl, hb7, hb67, hc7⟩; have HB7 := Lib.hid hb7; have HB67 := Lib.hid hb67; have hq7 := hc7; clear hb7 hb67 hc7)
  go_wp2_with fail
  refine hK.out _ _ (HB67.out) (fun _ => ?_)
  clear hK K
  (try simp only [Act.put, List.setIfInBounds_toArray, List.set_cons_zero, List.set_cons_succ])
  refine anyH_mono (S' := fun w => Below w7.heap.size w7 w) (fun _ h => HB67.out.trans (h.mono HB67.out.size)) ?_
  refine anyH_take (i := 19) (some 62) (v := _) rfl rfl (by kernel_rfl) (by kernel_rfl) (by kernel_rfl) (fun _ _ _ h => h) (by rfl) (Below.refl _ _) (by intro w hSw; go_simp; try with_reducible rfl) ?_
  (try simp only [Act.put, List.setIfInBounds_toArray, List.set_cons_zero, List.set_cons_succ])
  refine anyH_take (i := 20) (some 63) (v := _) rfl rfl (by kernel_rfl) (by kernel_rfl) (by kernel_rfl) (fun _ _ _ h => h) (by rfl) (Below.refl _ _) (by intro w hSw; go_simp; try with_reducible rfl) ?_
  (try simp only [Act.put, List.setIfInBounds_toArray, List.set_cons_zero, List.set_cons_succ])
  refine anyH_take (i := 24) (some 67) (v := _) rfl rfl (by kernel_rfl) (by kernel_rfl) (by kernel_rfl) (fun _ _ _ h => h) (by rfl) (Below.refl _ _) (by intro w hSw; go_simp; try with_reducible rfl) ?_
  (try simp only [Act.put, List.setIfInBounds_toArray, List.set_cons_zero, List.set_cons_succ])
  refine anyH_take (i := 25) (some 68) (v := _) rfl rfl (by kernel_rfl) (by kernel_rfl) (by kernel_rfl) (fun _ _ _ h => h) (by rfl) (Below.refl _ _) (by intro w hSw; go_simp; try with_reducible rfl) ?_
  (try simp only [Act.put, List.setIfInBounds_toArray, List.set_cons_zero, List.set_cons_succ])
  refine anyH_take (i := 26) (some 6) (v := _) rfl rfl (by kernel_rfl) (by kernel_rfl) (by kernel_rfl) (fun _ _ _ h => h) (by rfl) (Below.refl _ _) (by intro w hSw; go_simp; try with_reducible rfl) ?_
  (try simp only [Act.put, List.setIfInBounds_toArray, List.set_cons_zero, List.set_cons_succ])
  refine wpAnyH_done (by kernel_rfl) ?_ _
  go_wp2
  go_ret
  exact ⟨rfl, HF.out.trans (HB7.out.mono HF.out.size)⟩

set_option maxHeartbeats 2000000 in
theorem orders8 {X Y : Nat} {wh : Int} (hX : X < 18446744073709551616) (hY : Y < 18446744073709551616) (hh : 0 ≤ wh) (hh' : wh ≤ 255) (hm : wh % 4 = 3) (w : World) (hL : StepsLaid w) :
    Calls Tryd.prog 4 #[.int .u64 (X : Int), .int .u64 (Y : Int), .int .u8 wh] w fun e w' => e = .returned (.bool true) ∧ Below w.heap.size w w' := by
  have hL0 := Lib.hid hL
  clear hL
  go_enter Tryd.func4, Tryd.ntmps4
  go_wp2_with fail
  refine (lives03 _ hL0.out).mono ?_
  rintro e W1 ⟨rfl, hb1⟩
  have HB := Lib.hid hb1
  have hs0 := hL0.out.lt
  have HLW := Lib.hid (hL0.out.keep hb1 hs0)
  have hz1 := hb1.size
  clear hb1
  go_wp2_with fail
  obtain ⟨A, hA⟩ : ∃ A, A = X := ⟨_, rfl⟩
  obtain ⟨C, hC⟩ : ∃ C, C = Y := ⟨_, rfl⟩
  have hA1 : A < 18446744073709551616 := by omega
  have hC1 : C < 18446744073709551616 := by omega
  rw [← hA, ← hC]
  clear hA hC hX hY hm hh hh'
  obtain ⟨V, hV⟩ : ∃ V, V = (W1.alloc (.cells #[.int .i64 1, .int .i64 2, .int .i64 4, .int .i64 8] 3)) := ⟨_, rfl⟩
  rw [← hV]
  have hsz : V.heap.size = W1.heap.size + 1 := by rw [hV]; simp
  have hVb : Hid (Below w.heap.size w V) := HB.out.trans (by rw [hV]; exact (Below.refl _ W1).alloc hz1 _)
  have HLV : Hid (StepsLaid V) := by rw [hV]; exact (HLW.out.alloc _)
  clear hV HLW
  obtain ⟨wa, wb⟩ := two_owriters V hsz
  have HA0 := Lib.hid (OWrote.start wa)
  have HB0 := Lib.hid wb
  have HL1 := Lib.hid ((HLV.out.alloc (.cells #[.slice none 0 0] 27)).alloc (.cells #[.slice none 0 0] 27))
  have hs1 : 0 < W1.heap.size + 1 := by omega
  clear wa wb
  refine (num_ok (n := 8) (by omega) (by unfold Wide; omega) (wid_le 64 (by omega)) HL1.out (by simp; omega) (by simp) HA0.out).mono ?_
  rintro e W2 ⟨rfl, ha⟩
  have HA := Lib.hid ha
  have HL2 := Lib.hid (HL1.out.keep (ha.below (by simp; omega)) hs1)
  have HB1 := Lib.hid (OWrote.start (HB0.out.only ha.2.2.1 (by simp) (by simp)))
  have hz2 : W1.heap.size + 1 ≤ W2.heap.size := by have := ha.2.2.1.size; simp at this; omega
  clear ha
  go_wp2_with fail
  refine (num_ok (n := 8) (by omega) (by unfold Wide; omega) (wid_le 64 (by omega)) HL2.out hz2 (by simp) HB1.out).mono ?_
  rintro e W4 ⟨rfl, hb⟩
  have HB3 := Lib.hid hb
  have HA3 : Hid (∃ g, OWriterAt (W1.heap.size + 1) W4 (W1.heap.size + 1) g ([] ++ numB A 8)) := by
    obtain ⟨_, _, ho, g', hw, hg⟩ := HA.out
    refine ⟨g', hw.only hb.2.2.1 (by simp) (fun k hk => ?_)⟩
    rcases hg with h1 | ⟨j, h1, h2⟩
    · rw [h1] at hk; cases hk
    · rw [h1] at hk; cases hk; simp at h2 ⊢; omega
  have HE : Hid (Below (W1.heap.size + 1) V W4) := (((Below.refl _ _).alloc (by omega) _).alloc (by simp; omega) _).trans ((HA.out.below (by simp; omega)).trans (hb.below hz2))
  obtain ⟨ga, hga⟩ := HA3.out
  obtain ⟨gb, hgb⟩ := OWriterAt.of HB3.out
  rw [List.nil_append] at hga hgb
  have GA := Lib.hid (ogives_of hga (by rw [numB_length]; omega))
  have GB := Lib.hid (ogives_of hgb (by rw [numB_length]; omega))
  have GA := GA.out
  have GB := GB.out
  rw [OGives, numB_length] at GA GB
  have GA := Lib.hid GA
  have GB := Lib.hid GB
  have hless := less_nums (A := A) (B := C) (n := 8) (by omega) (by omega)
  have hcast : decide ((A : Int) < C) = decide (A < C) := by rw [decide_eq_decide]; omega
  have HF : Hid (Below w.heap.size w W4) := hVb.out.trans (HE.out.mono (by omega))
  clear hb HL2 HB1 HA HA0 HB0 HL1 hga hgb HA3 HB3 hL0 HE hVb HLV HB
  go_wp2_with fail
  generalize strOf (numB A 8) = sa at *
  generalize strOf (numB C 8) = sc at *
  clear hA1 hC1 hz2 hs0 hs1 hsz hz1
  refine wp_region_held_drew (S := fun _ => True) (by kernel_rfl) trivial (fun _ => ?_)
  refine anyH_take (i := 0) (some 43) (v := _) rfl rfl (by kernel_rfl) (by kernel_rfl) (by kernel_rfl) (fun _ _ _ h => h) (by rfl) (trivial) (by intro w hSw; go_simp; try with_reducible rfl) ?_
  (try simp only [Act.put, List.setIfInBounds_toArray, List.set_cons_zero, List.set_cons_succ])
  refine anyH_take (i := 1) (some 44) (v := _) rfl rfl (by kernel_rfl) (by kernel_rfl) (by kernel_rfl) (fun _ _ _ h => h) (by rfl) (trivial) (by intro w hSw; go_simp; try with_reducible rfl) ?_
  (try simp only [Act.put, List.setIfInBounds_toArray, List.set_cons_zero, List.set_cons_succ])
  refine anyH_take (i := 2) (some 45) (v := _) rfl rfl (by kernel_rfl) (by kernel_rfl) (by kernel_rfl) (fun _ _ _ h => h) (by rfl) (trivial) (by intro w hSw; go_simp; try with_reducible rfl) ?_
  (try simp only [Act.put, List.setIfInBounds_toArray, List.set_cons_zero, List.set_cons_succ])
  refine anyH_take (i := 3) (some 46) (v := _) rfl rfl (by kernel_rfl) (by kernel_rfl) (by kernel_rfl) (fun _ _ _ h => h) (by rfl) (trivial) (by intro w hSw; go_simp; try with_reducible rfl) ?_
  (try simp only [Act.put, List.setIfInBounds_toArray, List.set_cons_zero, List.set_cons_succ])
  refine anyH_take (i := 4) (some 47) (v := _) rfl rfl (by kernel_rfl) (by kernel_rfl) (by kernel_rfl) (fun _ _ _ h => h) (by rfl) (trivial) (by intro w hSw; go_simp; try with_reducible rfl) ?_
  (try simp only [Act.put, List.setIfInBounds_toArray, List.set_cons_zero, List.set_cons_succ])
  refine anyH_take (i := 5) (some 48) (v := _) rfl rfl (by kernel_rfl) (by kernel_rfl) (by kernel_rfl) (fun _ _ _ h => h) (by rfl) (trivial) (by intro w hSw; go_simp; try with_reducible rfl) ?_
  (try simp only [Act.put, List.setIfInBounds_toArray, List.set_cons_zero, List.set_cons_succ])
  refine anyH_take (i := 6) (some 49) (v := _) rfl rfl (by kernel_rfl) (by kernel_rfl) (by kernel_rfl) (fun _ _ _ h => h) (by rfl) (trivial) (by intro w hSw; go_simp; try with_reducible rfl) ?_
  (try simp only [Act.put, List.setIfInBounds_toArray, List.set_cons_zero, List.set_cons_succ])
  refine anyH_take (i := 7) (some 50) (v := _) rfl rfl (by kernel_rfl) (by kernel_rfl) (by kernel_rfl) (fun _ _ _ h => h) (by rfl) (trivial) (by intro w hSw; go_simp; try with_reducible rfl) ?_
  (try simp only [Act.put, List.setIfInBounds_toArray, List.set_cons_zero, List.set_cons_succ])
  refine anyH_take (i := 10) (some 53) (v := _) rfl rfl (by kernel_rfl) (by kernel_rfl) (by kernel_rfl) (fun _ _ _ h => h) (by rfl) (trivial) (by intro w hSw; go_simp; try with_reducible rfl) ?_
  (try simp only [Act.put, List.setIfInBounds_toArray, List.set_cons_zero, List.set_cons_succ])
  refine wpAnyH_ready (rs := [8]) (by kernel_rfl) (by simp) (AllReadyH.cons rfl (fun K hK => ?_) AllReadyH.nil)
  go_simp
  (refine (GA.out _ (Below.refl _ _).drew).mono ?_; rintro e w5 ⟨a5, c5, rfl, hb5, _, _⟩; have HB5 := Lib.hid hb5; clear hb5)
  go_wp2_with fail
  refine hK.out _ _ (trivial) (fun _ => ?_)
  clear hK K
  (try simp only [Act.put, List.setIfInBounds_toArray, List.set_cons_zero, List.set_cons_succ])
  refine anyH_mono (S' := fun w => Below w5.heap.size w5 w) (fun _ _ => trivial) ?_
  refine anyH_take (i := 9) (some 52) (v := _) rfl rfl (by kernel_rfl) (by kernel_rfl) (by kernel_rfl) (fun _ _ _ h => h) (by rfl) (Below.refl _ _) (by intro w hSw; go_simp; try with_reducible rfl) ?_
  (try simp only [Act.put, List.setIfInBounds_toArray, List.set_cons_zero, List.set_cons_succ])
  refine anyH_take (i := 11) (some 54) (v := _) rfl rfl (by kernel_rfl) (by kernel_rfl) (by kernel_rfl) (fun _ _ _ h => h) (by rfl) (Below.refl _ _) (by intro w hSw; go_simp; try with_reducible rfl) ?_
  (try simp only [Act.put, List.setIfInBounds_toArray, List.set_cons_zero, List.set_cons_succ])
  refine anyH_take (i := 12) (some 55) (v := _) rfl rfl (by kernel_rfl) (by kernel_rfl) (by kernel_rfl) (fun _ _ _ h => h) (by rfl) (Below.refl _ _) (by intro w hSw; go_simp; try with_reducible rfl) ?_
  (try simp only [Act.put, List.setIfInBounds_toArray, List.set_cons_zero, List.set_cons_succ])
  refine anyH_take (i := 13) (some 56) (v := _) rfl rfl (by kernel_rfl) (by kernel_rfl) (by kernel_rfl) (fun _ _ _ h => h) (by rfl) (Below.refl _ _) (by intro w hSw; go_simp; try with_reducible rfl) ?_
  (try simp only [Act.put, List.setIfInBounds_toArray, List.set_cons_zero, List.set_cons_succ])
  refine anyH_take (i := 14) (some 57) (v := _) rfl rfl (by kernel_rfl) (by kernel_rfl) (by kernel_rfl) (fun _ _ _ h => h) (by rfl) (Below.refl _ _) (by intro w hSw; go_simp; try with_reducible rfl) ?_
  (try simp only [Act.put, List.setIfInBounds_toArray, List.set_cons_zero, List.set_cons_succ])
  refine anyH_take (i := 17) (some 60) (v := _) rfl rfl (by kernel_rfl) (by kernel_rfl) (by kernel_rfl) (fun _ _ _ h => h) (by rfl) (Below.refl _ _) (by intro w hSw; go_simp; try with_reducible rfl) ?_
  (try simp only [Act.put, List.setIfInBounds_toArray, List.set_cons_zero, List.set_cons_succ])
  refine anyH_take (i := 21) (some 64) (v := _) rfl rfl (by kernel_rfl) (by kernel_rfl) (by kernel_rfl) (fun _ _ _ h => h) (by rfl) (Below.refl _ _) (by intro w hSw; go_simp; try with_reducible rfl) ?_
  (try simp only [Act.put, List.setIfInBounds_toArray, List.set_cons_zero, List.set_cons_succ])
  refine anyH_take (i := 22) (some 65) (v := _) rfl rfl (by kernel_rfl) (by kernel_rfl) (by kernel_rfl) (fun _ _ _ h => h) (by rfl) (Below.refl _ _) (by intro w hSw; go_simp; try with_reducible rfl) ?_
  (try simp only [Act.put, List.setIfInBounds_toArray, List.set_cons_zero, List.set_cons_succ])
  refine anyH_take (i := 23) (some 66) (v := _) rfl rfl (by kernel_rfl) (by kernel_rfl) (by kernel_rfl) (fun _ _ _ h => h) (by rfl) (Below.refl _ _) (by intro w hSw; go_simp; try with_reducible rfl) ?_
  (try simp only [Act.put, List.setIfInBounds_toArray, List.set_cons_zero, List.set_cons_succ])
  refine wpAnyH_ready (rs := [15]) (by kernel_rfl) (by simp) (AllReadyH.cons rfl (fun K hK => ?_) AllReadyH.nil)
  go_simp
  (refine (GA.out _ HB5.out).mono ?_; rintro e w6 ⟨a6, c6, rfl, hb6, hb56, hc6⟩; have HB6 := Lib.hid hb6; have HB56 := Lib.hid hb56; have hq6 := hc6; clear hb6 hb56 hc6)
  go_wp2_with fail
  refine hK.out _ _ (HB56.out) (fun _ => ?_)
  clear hK K
  (try simp only [Act.put, List.setIfInBounds_toArray, List.set_cons_zero, List.set_cons_succ])
  refine anyH_mono (S' := fun w => Below w6.heap.size w6 w) (fun _ h => HB56.out.trans (h.mono HB56.out.size)) ?_
  refine anyH_take (i := 16) (some 59) (v := _) rfl rfl (by kernel_rfl) (by kernel_rfl) (by kernel_rfl) (fun _ _ _ h => h) (by rfl) (Below.refl _ _) (by intro w hSw; go_simp; try with_reducible rfl) ?_
  (try simp only [Act.put, List.setIfInBounds_toArray, List.set_cons_zero, List.set_cons_succ])
  refine wpAnyH_ready (rs := [18]) (by kernel_rfl) (by simp) (AllReadyH.cons rfl (fun K hK => ?_) AllReadyH.nil)
  go_simp
  (refine (GB.out _ HB6.out).mono ?_; rintro e w7 ⟨a7, c7, rfl, hb7, hb67, hc7⟩; have HB7 := Lib.hid hb7; have HB67 := Lib.hid hb67; have hq7 := hc7; clear hb7 hb67 hc7)
  go_wp2_with fail
  refine hK.out _ _ (HB67.out) (fun _ => ?_)
  clear hK K
  (try simp only [Act.put, List.setIfInBounds_toArray, List.set_cons_zero, List.set_cons_succ])
  refine anyH_mono (S' := fun w => Below w7.heap.size w7 w) (fun _ h => HB67.out.trans (h.mono HB67.out.size)) ?_
  refine anyH_take (i := 19) (some 62) (v := _) rfl rfl (by kernel_rfl) (by kernel_rfl) (by kernel_rfl) (fun _ _ _ h => h) (by rfl) (Below.refl _ _) (by intro w hSw; go_simp; try with_reducible rfl) ?_
  (try simp only [Act.put, List.setIfInBounds_toArray, List.set_cons_zero, List.set_cons_succ])
  refine anyH_take (i := 20) (some 63) (v := _) rfl rfl (by kernel_rfl) (by kernel_rfl) (by kernel_rfl) (fun _ _ _ h => h) (by rfl) (Below.refl _ _) (by intro w hSw; go_simp; try with_reducible rfl) ?_
  (try simp only [Act.put, List.setIfInBounds_toArray, List.set_cons_zero, List.set_cons_succ])
  refine anyH_take (i := 24) (some 67) (v := _) rfl rfl (by kernel_rfl) (by kernel_rfl) (by kernel_rfl) (fun _ _ _ h => h) (by rfl) (Below.refl _ _) (by intro w hSw; go_simp; try with_reducible rfl) ?_
  (try simp only [Act.put, List.setIfInBounds_toArray, List.set_cons_zero, List.set_cons_succ])
  refine anyH_take (i := 25) (some 68) (v := _) rfl rfl (by kernel_rfl) (by kernel_rfl) (by kernel_rfl) (fun _ _ _ h => h) (by rfl) (Below.refl _ _) (by intro w hSw; go_simp; try with_reducible rfl) ?_
  (try simp only [Act.put, List.setIfInBounds_toArray, List.set_cons_zero, List.set_cons_succ])
  refine anyH_take (i := 26) (some 6) (v := _) rfl rfl (by kernel_rfl) (by kernel_rfl) (by kernel_rfl) (fun _ _ _ h => h) (by rfl) (Below.refl _ _) (by intro w hSw; go_simp; try with_reducible rfl) ?_
  (try simp only [Act.put, List.setIfInBounds_toArray, List.set_cons_zero, List.set_cons_succ])
  refine wpAnyH_done (by kernel_rfl) ?_ _
  go_wp2
  go_ret
  exact ⟨rfl, HF.out.trans (HB7.out.mono HF.out.size)⟩

theorem octetOrders_walk {x y wh : Int} (hx : 0 ≤ x) (hx' : x ≤ 18446744073709551615) (hy : 0 ≤ y) (hy' : y ≤ 18446744073709551615) (hh : 0 ≤ wh) (hh' : wh ≤ 255) (w : World) (hL : StepsLaid w) :
    Calls Tryd.prog 4 #[.int .u64 x, .int .u64 y, .int .u8 wh] w fun e w' => e = .returned (.bool true) ∧ Below w.heap.size w w' := by
  obtain ⟨X, rfl⟩ := Int.eq_ofNat_of_zero_le hx
  obtain ⟨Y, rfl⟩ := Int.eq_ofNat_of_zero_le hy
  have hm : wh % 4 = 0 ∨ wh % 4 = 1 ∨ wh % 4 = 2 ∨ wh % 4 = 3 := by omega
  rcases hm with hm | hm | hm | hm
  · exact orders1 (by omega) (by omega) hh hh' hm w hL
  · exact orders2 (by omega) (by omega) hh hh' hm w hL
  · exact orders4 (by omega) (by omega) hh hh' hm w hL
  · exact orders8 (by omega) (by omega) hh hh' hm w hL
end Go.Proofs.YtcomdobmkmbmeaaDoor
