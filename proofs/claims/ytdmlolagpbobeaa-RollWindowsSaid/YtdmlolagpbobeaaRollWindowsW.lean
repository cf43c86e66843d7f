/- RollWindows, walked. Written by py/roll-windows.py. -/
import Derived.Test.YtdmlolagpbobeaaRoLives
import Derived.Test.YtdmlolagpbobeaaRoLawR
import Derived.Test.YtdmlolagpbobeaaRoLaw
import Derived.Test.YtdmlolagpbobeaaRoTier
import Derived.Test.YtdmlolagpbobeaaWiLaw
namespace Go.Proofs.Ytdmlolagpbobeaa
open Go.RowKit

theorem start_div {t a : Int} (hw : 0 < widthW t) (ha : 0 ≤ a) (h63 : a ≤ 9223372036854775807) : ∃ D : Int, a.tdiv (widthW t) = D ∧ wrap64 D = D ∧ wrap64 (D * widthW t) = startW t a := by
  have e1 : a.tdiv (widthW t) = a / widthW t := Int.tdiv_eq_ediv_of_nonneg ha
  have r1 : 0 ≤ a / widthW t := Int.ediv_nonneg ha (by omega)
  have r2 : a / widthW t ≤ a := Int.ediv_le_self _ ha
  have e2 : a / widthW t * widthW t = startW t a := by
    rw [start_at ha, if_neg (by omega)]
    have := Int.emod_add_mul_ediv a (widthW t)
    rw [Int.mul_comm]; omega
  have hr := start_range t h63
  refine ⟨a / widthW t, e1, ?_, ?_⟩
  · first | (apply wrap64_id <;> omega) | (unfold wrap64; omega)
  · rw [e2]; first | (apply wrap64_id <;> omega) | (unfold wrap64; omega)
theorem grpP_law {t : Int} {l : List Pt} {i j : Nat} {k : Int} (hij : i < j) (hj : j ≤ l.length) (hk : SameK (fun x : Pt => startW t x.a) l i j k) (hr : ∀ y, l[j]? = some y → startW t y.a ≠ k) :
    grpP t (l.drop i) = [ofA k ((l.drop i).take (j - i))] ++ grpP t (l.drop j) := by
  have h := grpP_at hij hj hk hr
  unfold ofR at h
  rwa [if_neg (by intro h0; have h1 := part_len l (i := i) hj; rw [h0] at h1; simp at h1; omega)] at h
set_option maxHeartbeats 16000000 in
set_option maxRecDepth 1000000 in
theorem rollWindows_walk {w : World} {t : Int} (ht0 : -9223372036854775808 ≤ t) (ht1 : t ≤ 9223372036854775807) {v : Value} {l : List Pt} (hv : PLies w v l) (hfi : Fits v) (hf : ∀ p ∈ l, p.fits) (hm : l.length ≤ maxLen) :
    Calls Try.prog 5 #[.int .i64 t, v] w fun e w' => e = .returned (.bool true) ∧ Below w.heap.size w w' := by
  have HV := Lib.hid hv
  have HF := Lib.hid hf
  have HFI := Lib.hid hfi
  obtain ⟨a, b, off, cap, rfl, hadr, hpts⟩ := hv
  have HCL : Hid (l.length ≤ cap) := Lib.hid (hfi _ _ _ rfl)
  have HADR := Lib.hid hadr
  have HP := Lib.hid hpts
  have hmx : l.length ≤ 9223372036854775807 := by unfold maxLen at hm; omega
  clear hadr hpts hf hm hfi
  by_cases h60 : 60 < l.length
  · have t60 : decide (60 < (l.length : Int)) = true := decide_eq_true (by omega)
    have t61 : decide (60 < l.length) = true := decide_eq_true h60
    clear h60
    go_enter Try.func5, Try.ntmps5
    go_wp2_with fail
    refine (rolives_any w).mono ?_
    rintro e W1 ⟨rfl, hb⟩
    have HB1 := Lib.hid hb
    clear hb
    dsimp only
    go_wp2_with fail
    refine (rolives_any W1).mono ?_
    rintro e W2 ⟨rfl, hb⟩
    have HB2 := Lib.hid (HB1.out.trans (hb.mono HB1.out.size))
    clear hb
    dsimp only
    go_wp2
    go_ret
    exact ⟨rfl, HB2.out⟩
  have t60 : decide (60 < (l.length : Int)) = false := decide_eq_false (by omega)
  have t61 : decide (60 < l.length) = false := decide_eq_false h60
  have hl60 : l.length ≤ 60 := by omega
  have HRS : Hid (∀ W, Below w.heap.size w W → Calls Try.prog 17 #[.slice a l.length cap] W fun e w' => e = .returned (.bool (upFrom (-1) (l.map Pt.a))) ∧ Below W.heap.size W w') := Lib.hid fun W hb => lrises_any (HV.out.beyond hb) (by omega)
  have HPO : Hid (∀ (W : World), Below w.heap.size w W → Calls Try.prog 15 #[.int .i64 t, .slice a l.length cap] W fun e w' => ∃ v', e = .returned v' ∧ AgRow W.heap.size w' v' (pointsR t l) ∧ Below W.heap.size W w') := Lib.hid fun W hb => ropoints_any ht0 ht1 (HV.out.beyond hb) HFI.out HF.out (by omega)
  have HLW : Hid (∀ W, Calls Try.prog 16 #[.int .i64 t] W fun e w' => e = .returned (.int .i64 (widthW t)) ∧ w' = W) := Lib.hid fun W => lwidth_any W t
  have HPT : Hid (∀ (W : World) (k : Int) (u : Value) (g : List Pt), -9223372036854775808 ≤ k → k ≤ 9223372036854775807 → PLies W u g → (∀ p ∈ g, p.fits) → g.length ≤ 1000000 → Calls Try.prog 10 #[.int .i64 k, u] W fun e w' => e = .returned (agV (ofA k g)) ∧ Below W.heap.size W w') := Lib.hid fun W k u g h0 h00 h1 h2 h3 => lpts_any h0 h00 h1 h2 (by omega)
  clear h60
  obtain ⟨R, hR⟩ : ∃ R, R = pointsR t l := ⟨_, rfl⟩
  rw [← hR] at HPO
  have HR := Lib.hid hR
  have HRL : Hid (R.length ≤ 60) := Lib.hid (by rw [hR]; exact Nat.le_trans (points_len t l) hl60)
  clear hR
  go_enter Try.func5, Try.ntmps5
  go_wp2_with fail
  refine (rolives_any w).mono ?_
  rintro e W1 ⟨rfl, hb⟩
  have HB1 := Lib.hid hb
  clear hb
  dsimp only
  go_wp2_with fail
  refine (HPO.out W1 HB1.out).mono ?_
  rintro e W2 ⟨v5, rfl, hr, hb⟩
  have HROW := Lib.hid hr
  have HB2 := Lib.hid (HB1.out.trans (hb.mono HB1.out.size))
  clear hb hr HPO
  dsimp only
  go_wp2_with fail
  refine (HLW.out W2).mono ?_
  rintro e Wx ⟨rfl, hw⟩; replace hw := hw.symm; subst hw
  dsimp only
  obtain ⟨a5, b5, o5, k5, rfl, hadr5, hags5⟩ := HROW.out.lies
  have HADR5 := Lib.hid hadr5
  have HA5 := Lib.hid hags5
  clear hadr5 hags5 HLW HB1
  by_cases hw : widthW t = 0
  · have HNO : Hid (R.length = 0) := Lib.hid (by rw [HR.out]; unfold pointsR; rw [if_pos (.inl hw)]; rfl)
    have hn0 := HNO.out
    rw [hw, hn0]
    go_wp2
    go_ret
    exact ⟨rfl, HB2.out⟩
  have tw : (widthW t == 0) = false := by simpa using hw
  have HW0 : Hid (0 < widthW t) := Lib.hid (by have := width_range t; omega)
  cases hup : upFrom (-1) (l.map Pt.a) with
  | false =>
    have HNO : Hid (R.length = 0) := Lib.hid (by rw [HR.out]; unfold pointsR; rw [if_pos (.inr hup)]; rfl)
    rw [hup] at HRS
    have hn0 := HNO.out
    rw [hn0]
    clear hup hw
    go_wp2_with fail
    refine (HRS.out W2 HB2.out).mono ?_
    rintro e W3 ⟨rfl, hb⟩
    have HB3 := Lib.hid (HB2.out.trans (hb.mono HB2.out.size))
    clear hb
    dsimp only
    go_wp2
    go_ret
    exact ⟨rfl, HB3.out⟩
  | true =>
    have HRG : Hid (R = grpP t l) := Lib.hid (by rw [HR.out]; unfold pointsR; rw [if_neg (by rw [hup]; rintro (h | h); exact hw h; cases h)]; rfl)
    have HDIV : Hid (∀ p ∈ l, ∃ D : Int, p.a.tdiv (widthW t) = D ∧ wrap64 D = D ∧ wrap64 (D * widthW t) = startW t p.a) := Lib.hid fun p hp => start_div HW0.out (up_nonneg hup p hp) (HF.out p hp).2.1
    have HSTR : Hid (∀ p ∈ l, 0 ≤ startW t p.a ∧ startW t p.a ≤ 9223372036854775807) := Lib.hid fun p hp => start_range t (HF.out p hp).2.1
    rw [hup] at HRS
    obtain ⟨W, hW⟩ : ∃ W, W = widthW t := ⟨_, rfl⟩
    rw [← hW] at tw hw HDIV ⊢
    clear hup hW
    go_wp2_with fail
    refine (HRS.out W2 HB2.out).mono ?_
    rintro e W3 ⟨rfl, hb⟩
    have HB53 := Lib.hid hb
    have HB3 := Lib.hid (HB2.out.trans (hb.mono HB2.out.size))
    clear hb HRS HW0
    dsimp only
    go_wp2_with fail
    go_loopw [7, 8] (fun c d wr => ∃ (i m : Nat) (done : List Ag), i ≤ l.length ∧ c = .int .i64 m ∧ d = .int .i64 i ∧ m = done.length ∧ R = done ++ grpP t (l.drop i) ∧ Below w.heap.size w wr ∧ Below W2.heap.size W2 wr) (fun _ d _ => l.length - (intOf d).toNat)
    case atStart => exact ⟨0, 0, [], Nat.zero_le _, rfl, rfl, rfl, by rw [HRG.out]; rfl, HB3.out, HB53.out⟩
    case round =>
      obtain ⟨i, m, done, hi, rfl, rfl, hdm, hre, hb, hb5⟩ := hrel
      obtain ⟨W4, hW4⟩ : ∃ W4, W4 = wr := ⟨_, rfl⟩
      subst hW4
      have HDM := Lib.hid hdm
      have HRE := Lib.hid hre
      have HB4 := Lib.hid hb
      have HB54 := Lib.hid hb5
      have HP4 := Lib.hid (HP.out.beyond hb)
      have hmr : m ≤ 60 := by
        have h1 := HRL.out
        rw [hre, List.length_append] at h1; omega
      clear hdm hre hb hb5 HB3 HB53
      by_cases hlt : i < l.length
      · have ea := HADR.out (by intro h; simp [h] at hlt)
        subst ea
        obtain ⟨p, hp⟩ : ∃ p, l[i]? = some p := ⟨l[i], List.getElem?_eq_getElem hlt⟩
        obtain ⟨c0, c1⟩ := HP4.out i p hp
        have HPK := Lib.hid hp
        obtain ⟨D, hD1, hD2, hD3⟩ := HDIV.out p (List.mem_of_getElem? hp)
        obtain ⟨k, hk⟩ : ∃ k, k = startW t p.a := ⟨_, rfl⟩
        have HKR : Hid (0 ≤ k ∧ k ≤ 9223372036854775807) := Lib.hid (by rw [hk]; exact HSTR.out p (List.mem_of_getElem? hp))
        rw [← hk] at hD3
        have HK := Lib.hid hk
        clear hp hk
        go_wp2_with fail
        clear c0 c1 hD1 hD2 hD3 HP4
        go_loopw [10] (fun c wr => ∃ j : Nat, i ≤ j ∧ j ≤ l.length ∧ c = .int .i64 j ∧ SameK (fun x : Pt => startW t x.a) l i j k ∧ Below w.heap.size w wr ∧ Below W2.heap.size W2 wr) (fun c _ => l.length - (intOf c).toNat)
        case atStart => exact ⟨i, Nat.le_refl _, by omega, rfl, fun m x h1 h2 => by omega, HB4.out, HB54.out⟩
        case round =>
          obtain ⟨j, hij0, hj, rfl, hsame, hb, hb5⟩ := hrel
          obtain ⟨W6, hW6⟩ : ∃ W6, W6 = wr := ⟨_, rfl⟩
          subst hW6
          have HSAME := Lib.hid hsame
          have HB6 := Lib.hid hb
          have HB56 := Lib.hid hb5
          have HP4 := Lib.hid (HP.out.beyond hb)
          clear hsame hb hb5 HB4 HB54
          by_cases hjl : j < l.length
          · obtain ⟨q, hq⟩ : ∃ q, l[j]? = some q := ⟨l[j], List.getElem?_eq_getElem hjl⟩
            obtain ⟨c0, c1⟩ := HP4.out j q hq
            have HQK := Lib.hid hq
            obtain ⟨E, hE1, hE2, hE3⟩ := HDIV.out q (List.mem_of_getElem? hq)
            obtain ⟨s, hs⟩ : ∃ s, s = startW t q.a := ⟨_, rfl⟩
            rw [← hs] at hE3
            have HS := Lib.hid hs
            clear hq hs
            by_cases hkq : s = k
            · have HSN : Hid (SameK (fun x : Pt => startW t x.a) l i (j + 1) k) := Lib.hid (HSAME.out.more HQK.out (HS.out.symm.trans hkq))
              have tk : (s == k) = true := by simpa using hkq
              clear hkq
              go_wp2_with fail
              go_roundw
              case rel => exact ⟨j + 1, by omega, by omega, by go_num, HSN.out, HB6.out, HB56.out⟩
              case measure => simp [intOf]; omega
            · have hij : i < j := by
                rcases Nat.lt_or_ge i j with h | h
                · exact h
                · obtain rfl : i = j := by omega
                  have h1 := HQK.out
                  rw [HPK.out] at h1
                  obtain rfl := Option.some.inj h1
                  exact absurd (HS.out.trans HK.out.symm) hkq
              have HNX : Hid (grpP t (l.drop i) = [ofA k ((l.drop i).take (j - i))] ++ grpP t (l.drop j)) := Lib.hid (grpP_law hij hj HSAME.out fun y hy => by rw [HQK.out] at hy; rw [← Option.some.inj hy, ← HS.out]; exact hkq)
              have tk : (s == k) = false := by simpa using hkq
              clear hkq HSAME hij0
              have hij2 : (i : Int) ≤ (j : Int) := by omega
              have hjc : (j : Int) ≤ (cap : Int) := by have := HCL.out; omega
              have hic : ¬ (cap = i) := by have := HCL.out; omega
              have hml : m < R.length := by rw [HRE.out, HNX.out, HDM.out, List.length_append]; simp <;> omega
              have hmI : (m : Int) < (R.length : Int) := by omega
              have tge : decide ((R.length : Int) ≤ (m : Int)) = false := decide_eq_false (by omega)
              have tge2 : decide (R.length ≤ m) = false := decide_eq_false (by omega)
              have ea := HADR5.out (by intro h; simp [h] at hml)
              subst ea
              obtain ⟨A, hA⟩ : ∃ A, A = ofA k ((l.drop i).take (j - i)) := ⟨_, rfl⟩
              have HRA : Hid (R[m]? = some A) := Lib.hid (by rw [HRE.out, HNX.out, HDM.out, List.getElem?_append_right (Nat.le_refl _), Nat.sub_self, hA]; rfl)
              have HSD : Hid (AgsAt W6.drew b5 o5 R) := Lib.hid (HA5.out.beyond ((below_drew HB56.out)))
              have hcall := HPT.out W6.drew k (.slice (some ⟨b, off + i * 2, none⟩) (j - i) (cap - i)) ((l.drop i).take (j - i)) (by have := HKR.out; omega) HKR.out.2 (pts_part (HP.out.beyond (below_drew HB6.out)) hj (cap - i)) (fun p hp => HF.out p (mem_part hp)) (by rw [part_len l hj]; omega)
              rw [← hA] at hcall
              have HC := Lib.hid hcall
              have HREN : Hid (R = (done ++ [A]) ++ grpP t (l.drop j)) := Lib.hid (by rw [HRE.out, HNX.out, hA, List.append_assoc])
              have HDN : Hid (m + 1 = (done ++ [A]).length) := Lib.hid (by rw [List.length_append, HDM.out]; rfl)
              clear hcall hA
              go_upto_region 14 with fail
              refine wp_region_held_drew (S := fun W => AgsAt W b5 o5 R) (by kernel_rfl) HSD.out (fun _ => ?_)
              refine anyH_take (i := 0) (some 67) (v := _) rfl rfl (by kernel_rfl) (by kernel_rfl) (by kernel_rfl) (fun _ _ _ h => h) (by rfl) (HSD.out) (by intro w hSw; obtain ⟨q0, q1, q2, q3, q4⟩ := hSw m A HRA.out; go_simp; try with_reducible rfl) ?_
              (try simp only [Act.put, List.setIfInBounds_toArray, List.set_cons_zero, List.set_cons_succ])
              refine anyH_take (i := 1) (some 68) (v := _) rfl rfl (by kernel_rfl) (by kernel_rfl) (by kernel_rfl) (fun _ _ _ h => h) (by rfl) (HSD.out) (by intro w hSw; obtain ⟨q0, q1, q2, q3, q4⟩ := hSw m A HRA.out; go_simp; try with_reducible rfl) ?_
              (try simp only [Act.put, List.setIfInBounds_toArray, List.set_cons_zero, List.set_cons_succ])
              refine anyH_take (i := 2) (some 69) (v := _) rfl rfl (by kernel_rfl) (by kernel_rfl) (by kernel_rfl) (fun _ _ _ h => h) (by rfl) (HSD.out) (by intro w hSw; obtain ⟨q0, q1, q2, q3, q4⟩ := hSw m A HRA.out; go_simp; try with_reducible rfl) ?_
              (try simp only [Act.put, List.setIfInBounds_toArray, List.set_cons_zero, List.set_cons_succ])
              refine anyH_take (i := 3) (some 70) (v := _) rfl rfl (by kernel_rfl) (by kernel_rfl) (by kernel_rfl) (fun _ _ _ h => h) (by rfl) (HSD.out) (by intro w hSw; obtain ⟨q0, q1, q2, q3, q4⟩ := hSw m A HRA.out; go_simp; try with_reducible rfl) ?_
              (try simp only [Act.put, List.setIfInBounds_toArray, List.set_cons_zero, List.set_cons_succ])
              refine anyH_take (i := 4) (some 71) (v := _) rfl rfl (by kernel_rfl) (by kernel_rfl) (by kernel_rfl) (fun _ _ _ h => h) (by rfl) (HSD.out) (by intro w hSw; obtain ⟨q0, q1, q2, q3, q4⟩ := hSw m A HRA.out; go_simp; try with_reducible rfl) ?_
              (try simp only [Act.put, List.setIfInBounds_toArray, List.set_cons_zero, List.set_cons_succ])
              refine anyH_take (i := 5) (some 72) (v := _) rfl rfl (by kernel_rfl) (by kernel_rfl) (by kernel_rfl) (fun _ _ _ h => h) (by rfl) (HSD.out) (by intro w hSw; obtain ⟨q0, q1, q2, q3, q4⟩ := hSw m A HRA.out; go_simp; try with_reducible rfl) ?_
              (try simp only [Act.put, List.setIfInBounds_toArray, List.set_cons_zero, List.set_cons_succ])
              refine anyH_take (i := 6) (some 73) (v := _) rfl rfl (by kernel_rfl) (by kernel_rfl) (by kernel_rfl) (fun _ _ _ h => h) (by rfl) (HSD.out) (by intro w hSw; obtain ⟨q0, q1, q2, q3, q4⟩ := hSw m A HRA.out; go_simp; try with_reducible rfl) ?_
              (try simp only [Act.put, List.setIfInBounds_toArray, List.set_cons_zero, List.set_cons_succ])
              refine anyH_take (i := 7) (some 74) (v := _) rfl rfl (by kernel_rfl) (by kernel_rfl) (by kernel_rfl) (fun _ _ _ h => h) (by rfl) (HSD.out) (by intro w hSw; obtain ⟨q0, q1, q2, q3, q4⟩ := hSw m A HRA.out; go_simp; try with_reducible rfl) ?_
              (try simp only [Act.put, List.setIfInBounds_toArray, List.set_cons_zero, List.set_cons_succ])
              refine anyH_take (i := 8) (some 75) (v := _) rfl rfl (by kernel_rfl) (by kernel_rfl) (by kernel_rfl) (fun _ _ _ h => h) (by rfl) (HSD.out) (by intro w hSw; obtain ⟨q0, q1, q2, q3, q4⟩ := hSw m A HRA.out; go_simp; try with_reducible rfl) ?_
              (try simp only [Act.put, List.setIfInBounds_toArray, List.set_cons_zero, List.set_cons_succ])
              refine anyH_take (i := 9) (some 76) (v := _) rfl rfl (by kernel_rfl) (by kernel_rfl) (by kernel_rfl) (fun _ _ _ h => h) (by rfl) (HSD.out) (by intro w hSw; obtain ⟨q0, q1, q2, q3, q4⟩ := hSw m A HRA.out; go_simp; try with_reducible rfl) ?_
              (try simp only [Act.put, List.setIfInBounds_toArray, List.set_cons_zero, List.set_cons_succ])
              refine anyH_take (i := 10) (some 77) (v := _) rfl rfl (by kernel_rfl) (by kernel_rfl) (by kernel_rfl) (fun _ _ _ h => h) (by rfl) (HSD.out) (by intro w hSw; obtain ⟨q0, q1, q2, q3, q4⟩ := hSw m A HRA.out; go_simp; try with_reducible rfl) ?_
              (try simp only [Act.put, List.setIfInBounds_toArray, List.set_cons_zero, List.set_cons_succ])
              refine anyH_take (i := 11) (some 78) (v := _) rfl rfl (by kernel_rfl) (by kernel_rfl) (by kernel_rfl) (fun _ _ _ h => h) (by rfl) (HSD.out) (by intro w hSw; obtain ⟨q0, q1, q2, q3, q4⟩ := hSw m A HRA.out; go_simp; try with_reducible rfl) ?_
              (try simp only [Act.put, List.setIfInBounds_toArray, List.set_cons_zero, List.set_cons_succ])
              refine anyH_take (i := 12) (some 79) (v := _) rfl rfl (by kernel_rfl) (by kernel_rfl) (by kernel_rfl) (fun _ _ _ h => h) (by rfl) (HSD.out) (by intro w hSw; obtain ⟨q0, q1, q2, q3, q4⟩ := hSw m A HRA.out; go_simp; try with_reducible rfl) ?_
              (try simp only [Act.put, List.setIfInBounds_toArray, List.set_cons_zero, List.set_cons_succ])
              refine anyH_take (i := 13) (some 80) (v := _) rfl rfl (by kernel_rfl) (by kernel_rfl) (by kernel_rfl) (fun _ _ _ h => h) (by rfl) (HSD.out) (by intro w hSw; obtain ⟨q0, q1, q2, q3, q4⟩ := hSw m A HRA.out; go_simp; try with_reducible rfl) ?_
              (try simp only [Act.put, List.setIfInBounds_toArray, List.set_cons_zero, List.set_cons_succ])
              refine wpAnyH_ready (rs := [14]) (by kernel_rfl) (by simp) (AllReadyH.cons rfl (fun K hK => ?_) AllReadyH.nil)
              go_simp
              refine (HC.out).mono ?_
              rintro e W8 ⟨rfl, hb⟩; replace hb := below_undrew hb
              have HS8 : Hid (AgsAt W8 b5 o5 R) := Lib.hid (HA5.out.beyond (HB56.out.trans (hb.mono HB56.out.size)))
              have HB8 := Lib.hid (HB6.out.trans (hb.mono HB6.out.size))
              have HB58 := Lib.hid (HB56.out.trans (hb.mono HB56.out.size))
              clear hb
              unfold agV
              go_wp2_with fail
              refine hK.out _ _ (HS8.out) (fun _ => ?_)
              clear hK K
              (try simp only [Act.put, List.setIfInBounds_toArray, List.set_cons_zero, List.set_cons_succ])
              refine anyH_take (i := 15) (some 82) (v := _) rfl rfl (by kernel_rfl) (by kernel_rfl) (by kernel_rfl) (fun _ _ _ h => h) (by rfl) (HS8.out) (by intro w hSw; obtain ⟨q0, q1, q2, q3, q4⟩ := hSw m A HRA.out; go_simp; try with_reducible rfl) ?_
              (try simp only [Act.put, List.setIfInBounds_toArray, List.set_cons_zero, List.set_cons_succ])
              refine anyH_take (i := 16) (some 83) (v := _) rfl rfl (by kernel_rfl) (by kernel_rfl) (by kernel_rfl) (fun _ _ _ h => h) (by rfl) (HS8.out) (by intro w hSw; obtain ⟨q0, q1, q2, q3, q4⟩ := hSw m A HRA.out; go_simp; try with_reducible rfl) ?_
              (try simp only [Act.put, List.setIfInBounds_toArray, List.set_cons_zero, List.set_cons_succ])
              refine wpAnyH_done (by kernel_rfl) ?_ _
              go_wp2_with fail
              go_roundw
              case rel => exact ⟨j, m + 1, done ++ [A], by omega, by go_num, rfl, HDN.out, HREN.out, HB8.out, HB58.out⟩
              case measure => simp [intOf]; omega
          · obtain rfl : j = l.length := by omega
            have hij : i < l.length := hlt
            have HNX : Hid (grpP t (l.drop i) = [ofA k ((l.drop i).take (l.length - i))] ++ grpP t (l.drop l.length)) := Lib.hid (grpP_law hij hj HSAME.out fun y hy => by have := (List.getElem?_eq_some_iff.1 hy).1; omega)
            clear HSAME hij0
            have hij2 : (i : Int) ≤ (l.length : Int) := by omega
            have hjc : (l.length : Int) ≤ (cap : Int) := by have := HCL.out; omega
            have hic : ¬ (cap = i) := by have := HCL.out; omega
            have hml : m < R.length := by rw [HRE.out, HNX.out, HDM.out, List.length_append]; simp <;> omega
            have hmI : (m : Int) < (R.length : Int) := by omega
            have tge : decide ((R.length : Int) ≤ (m : Int)) = false := decide_eq_false (by omega)
            have tge2 : decide (R.length ≤ m) = false := decide_eq_false (by omega)
            have ea := HADR5.out (by intro h; simp [h] at hml)
            subst ea
            obtain ⟨A, hA⟩ : ∃ A, A = ofA k ((l.drop i).take (l.length - i)) := ⟨_, rfl⟩
            have HRA : Hid (R[m]? = some A) := Lib.hid (by rw [HRE.out, HNX.out, HDM.out, List.getElem?_append_right (Nat.le_refl _), Nat.sub_self, hA]; rfl)
            have HSD : Hid (AgsAt W6.drew b5 o5 R) := Lib.hid (HA5.out.beyond ((below_drew HB56.out)))
            have hcall := HPT.out W6.drew k (.slice (some ⟨b, off + i * 2, none⟩) (l.length - i) (cap - i)) ((l.drop i).take (l.length - i)) (by have := HKR.out; omega) HKR.out.2 (pts_part (HP.out.beyond (below_drew HB6.out)) hj (cap - i)) (fun p hp => HF.out p (mem_part hp)) (by rw [part_len l hj]; omega)
            rw [← hA] at hcall
            have HC := Lib.hid hcall
            have HREN : Hid (R = (done ++ [A]) ++ grpP t (l.drop l.length)) := Lib.hid (by rw [HRE.out, HNX.out, hA, List.append_assoc])
            have HDN : Hid (m + 1 = (done ++ [A]).length) := Lib.hid (by rw [List.length_append, HDM.out]; rfl)
            clear hcall hA
            go_upto_region 14 with fail
            refine wp_region_held_drew (S := fun W => AgsAt W b5 o5 R) (by kernel_rfl) HSD.out (fun _ => ?_)
            refine anyH_take (i := 0) (some 67) (v := _) rfl rfl (by kernel_rfl) (by kernel_rfl) (by kernel_rfl) (fun _ _ _ h => h) (by rfl) (HSD.out) (by intro w hSw; obtain ⟨q0, q1, q2, q3, q4⟩ := hSw m A HRA.out; go_simp; try with_reducible rfl) ?_
            (try simp only [Act.put, List.setIfInBounds_toArray, List.set_cons_zero, List.set_cons_succ])
            refine anyH_take (i := 1) (some 68) (v := _) rfl rfl (by kernel_rfl) (by kernel_rfl) (by kernel_rfl) (fun _ _ _ h => h) (by rfl) (HSD.out) (by intro w hSw; obtain ⟨q0, q1, q2, q3, q4⟩ := hSw m A HRA.out; go_simp; try with_reducible rfl) ?_
            (try simp only [Act.put, List.setIfInBounds_toArray, List.set_cons_zero, List.set_cons_succ])
            refine anyH_take (i := 2) (some 69) (v := _) rfl rfl (by kernel_rfl) (by kernel_rfl) (by kernel_rfl) (fun _ _ _ h => h) (by rfl) (HSD.out) (by intro w hSw; obtain ⟨q0, q1, q2, q3, q4⟩ := hSw m A HRA.out; go_simp; try with_reducible rfl) ?_
            (try simp only [Act.put, List.setIfInBounds_toArray, List.set_cons_zero, List.set_cons_succ])
            refine anyH_take (i := 3) (some 70) (v := _) rfl rfl (by kernel_rfl) (by kernel_rfl) (by kernel_rfl) (fun _ _ _ h => h) (by rfl) (HSD.out) (by intro w hSw; obtain ⟨q0, q1, q2, q3, q4⟩ := hSw m A HRA.out; go_simp; try with_reducible rfl) ?_
            (try simp only [Act.put, List.setIfInBounds_toArray, List.set_cons_zero, List.set_cons_succ])
            refine anyH_take (i := 4) (some 71) (v := _) rfl rfl (by kernel_rfl) (by kernel_rfl) (by kernel_rfl) (fun _ _ _ h => h) (by rfl) (HSD.out) (by intro w hSw; obtain ⟨q0, q1, q2, q3, q4⟩ := hSw m A HRA.out; go_simp; try with_reducible rfl) ?_
            (try simp only [Act.put, List.setIfInBounds_toArray, List.set_cons_zero, List.set_cons_succ])
            refine anyH_take (i := 5) (some 72) (v := _) rfl rfl (by kernel_rfl) (by kernel_rfl) (by kernel_rfl) (fun _ _ _ h => h) (by rfl) (HSD.out) (by intro w hSw; obtain ⟨q0, q1, q2, q3, q4⟩ := hSw m A HRA.out; go_simp; try with_reducible rfl) ?_
            (try simp only [Act.put, List.setIfInBounds_toArray, List.set_cons_zero, List.set_cons_succ])
            refine anyH_take (i := 6) (some 73) (v := _) rfl rfl (by kernel_rfl) (by kernel_rfl) (by kernel_rfl) (fun _ _ _ h => h) (by rfl) (HSD.out) (by intro w hSw; obtain ⟨q0, q1, q2, q3, q4⟩ := hSw m A HRA.out; go_simp; try with_reducible rfl) ?_
            (try simp only [Act.put, List.setIfInBounds_toArray, List.set_cons_zero, List.set_cons_succ])
            refine anyH_take (i := 7) (some 74) (v := _) rfl rfl (by kernel_rfl) (by kernel_rfl) (by kernel_rfl) (fun _ _ _ h => h) (by rfl) (HSD.out) (by intro w hSw; obtain ⟨q0, q1, q2, q3, q4⟩ := hSw m A HRA.out; go_simp; try with_reducible rfl) ?_
            (try simp only [Act.put, List.setIfInBounds_toArray, List.set_cons_zero, List.set_cons_succ])
            refine anyH_take (i := 8) (some 75) (v := _) rfl rfl (by kernel_rfl) (by kernel_rfl) (by kernel_rfl) (fun _ _ _ h => h) (by rfl) (HSD.out) (by intro w hSw; obtain ⟨q0, q1, q2, q3, q4⟩ := hSw m A HRA.out; go_simp; try with_reducible rfl) ?_
            (try simp only [Act.put, List.setIfInBounds_toArray, List.set_cons_zero, List.set_cons_succ])
            refine anyH_take (i := 9) (some 76) (v := _) rfl rfl (by kernel_rfl) (by kernel_rfl) (by kernel_rfl) (fun _ _ _ h => h) (by rfl) (HSD.out) (by intro w hSw; obtain ⟨q0, q1, q2, q3, q4⟩ := hSw m A HRA.out; go_simp; try with_reducible rfl) ?_
            (try simp only [Act.put, List.setIfInBounds_toArray, List.set_cons_zero, List.set_cons_succ])
            refine anyH_take (i := 10) (some 77) (v := _) rfl rfl (by kernel_rfl) (by kernel_rfl) (by kernel_rfl) (fun _ _ _ h => h) (by rfl) (HSD.out) (by intro w hSw; obtain ⟨q0, q1, q2, q3, q4⟩ := hSw m A HRA.out; go_simp; try with_reducible rfl) ?_
            (try simp only [Act.put, List.setIfInBounds_toArray, List.set_cons_zero, List.set_cons_succ])
            refine anyH_take (i := 11) (some 78) (v := _) rfl rfl (by kernel_rfl) (by kernel_rfl) (by kernel_rfl) (fun _ _ _ h => h) (by rfl) (HSD.out) (by intro w hSw; obtain ⟨q0, q1, q2, q3, q4⟩ := hSw m A HRA.out; go_simp; try with_reducible rfl) ?_
            (try simp only [Act.put, List.setIfInBounds_toArray, List.set_cons_zero, List.set_cons_succ])
            refine anyH_take (i := 12) (some 79) (v := _) rfl rfl (by kernel_rfl) (by kernel_rfl) (by kernel_rfl) (fun _ _ _ h => h) (by rfl) (HSD.out) (by intro w hSw; obtain ⟨q0, q1, q2, q3, q4⟩ := hSw m A HRA.out; go_simp; try with_reducible rfl) ?_
            (try simp only [Act.put, List.setIfInBounds_toArray, List.set_cons_zero, List.set_cons_succ])
            refine anyH_take (i := 13) (some 80) (v := _) rfl rfl (by kernel_rfl) (by kernel_rfl) (by kernel_rfl) (fun _ _ _ h => h) (by rfl) (HSD.out) (by intro w hSw; obtain ⟨q0, q1, q2, q3, q4⟩ := hSw m A HRA.out; go_simp; try with_reducible rfl) ?_
            (try simp only [Act.put, List.setIfInBounds_toArray, List.set_cons_zero, List.set_cons_succ])
            refine wpAnyH_ready (rs := [14]) (by kernel_rfl) (by simp) (AllReadyH.cons rfl (fun K hK => ?_) AllReadyH.nil)
            go_simp
            refine (HC.out).mono ?_
            rintro e W8 ⟨rfl, hb⟩; replace hb := below_undrew hb
            have HS8 : Hid (AgsAt W8 b5 o5 R) := Lib.hid (HA5.out.beyond (HB56.out.trans (hb.mono HB56.out.size)))
            have HB8 := Lib.hid (HB6.out.trans (hb.mono HB6.out.size))
            have HB58 := Lib.hid (HB56.out.trans (hb.mono HB56.out.size))
            clear hb
            unfold agV
            go_wp2_with fail
            refine hK.out _ _ (HS8.out) (fun _ => ?_)
            clear hK K
            (try simp only [Act.put, List.setIfInBounds_toArray, List.set_cons_zero, List.set_cons_succ])
            refine anyH_take (i := 15) (some 82) (v := _) rfl rfl (by kernel_rfl) (by kernel_rfl) (by kernel_rfl) (fun _ _ _ h => h) (by rfl) (HS8.out) (by intro w hSw; obtain ⟨q0, q1, q2, q3, q4⟩ := hSw m A HRA.out; go_simp; try with_reducible rfl) ?_
            (try simp only [Act.put, List.setIfInBounds_toArray, List.set_cons_zero, List.set_cons_succ])
            refine anyH_take (i := 16) (some 83) (v := _) rfl rfl (by kernel_rfl) (by kernel_rfl) (by kernel_rfl) (fun _ _ _ h => h) (by rfl) (HS8.out) (by intro w hSw; obtain ⟨q0, q1, q2, q3, q4⟩ := hSw m A HRA.out; go_simp; try with_reducible rfl) ?_
            (try simp only [Act.put, List.setIfInBounds_toArray, List.set_cons_zero, List.set_cons_succ])
            refine wpAnyH_done (by kernel_rfl) ?_ _
            go_wp2_with fail
            go_roundw
            case rel => exact ⟨l.length, m + 1, done ++ [A], by omega, by go_num, rfl, HDN.out, HREN.out, HB8.out, HB58.out⟩
            case measure => simp [intOf]; omega
      · obtain rfl : i = l.length := by omega
        have HEND : Hid (m = R.length) := Lib.hid (by rw [HRE.out, HDM.out, List.drop_of_length_le (Nat.le_refl _)]; show _ = (done ++ []).length; rw [List.append_nil])
        have hmR := HEND.out
        subst hmR
        go_wp2
        go_ret
        exact ⟨rfl, HB4.out⟩
end Go.Proofs.Ytdmlolagpbobeaa
