/- JournalArgs, walked. -/
import Derived.Test.YtngeilhdambgfaaDoorJoLives
import Derived.Test.YtngeilhdambgfaaDoorJoNil
import Derived.Test.YtngeilhdambgfaaDoorJoWipe
namespace Go.Proofs.YtngeilhdambgfaaDoor
open Go.RowKit

set_option maxRecDepth 1000000 in
set_option maxHeartbeats 16000000 in
theorem journalArgs_walk {s f n t z : Int} (hs1 : 0 ≤ s) (hs2 : s ≤ 255) (hf1 : -9223372036854775808 ≤ f) (hf2 : f ≤ 9223372036854775807) (hn1 : -9223372036854775808 ≤ n) (hn2 : n ≤ 9223372036854775807) (ht1 : 0 ≤ t) (ht2 : t ≤ 4294967295) (hz1 : 0 ≤ z) (hz2 : z ≤ 65535) (w : World) (hl : StepsLaid w) :
    Calls Tryd.prog 5 #[.int .u8 s, .int .i64 f, .int .i64 n, .int .u32 t, .int .u16 z] w fun e w' => e = .returned (.bool true) ∧ Below w.heap.size w w' := by
  obtain ⟨m, rfl⟩ : ∃ m : Nat, z = m := ⟨z.toNat, by omega⟩
  obtain ⟨k, hk⟩ : ∃ k : Nat, s = (k : Int) - 1 := ⟨(s + 1).toNat, by omega⟩
  have hk1 : 1 ≤ k ∧ k ≤ 256 := by omega
  have e1 : IntKind.i64.wrap s = s := by rw [IntKind.wrap_i64]; omega
  have e2 : IntKind.i64.wrap (1 + s) = (k : Int) := by rw [IntKind.wrap_i64]; omega
  have e3 : IntKind.i64.wrap (m : Int) = (m : Int) := by rw [IntKind.wrap_i64]; omega
  have e4 : IntKind.i64.wrap (-(m : Int)) = -(m : Int) := by rw [IntKind.wrap_i64]; omega
  have HLV := Lib.hid (lives10_any w hl)
  have HK := Lib.hid hk1
  have hfl : (Dev.fresh k).lies.length = k := by simp [Dev.fresh]
  clear hk hl
  go_enter Tryd.func5, Tryd.ntmps5
  go_wp2_with (first | (go_at_call 7; refine (HLV.out).mono ?_; rintro e w1 ⟨rfl, hb1⟩; have HB1 := Lib.hid hb1; clear hb1; dsimp only) | (go_at_call 8; refine (new_ok (n := k) HK.out.1 (by have := HK.out.2; omega) w1).mono ?_; rintro e w2 ⟨P, rfl, hd2, hb2⟩; have HD2 := Lib.hid hd2; have HB2 := Lib.hid (HB1.out.trans (hb2.mono HB1.out.size)); have HWD := Lib.hid hb2.size; have HW1 := Lib.hid HB1.out.size; clear hd2 hb2; dsimp only))
  have HM : Hid (m ≤ 9223372036854775807) := Lib.hid (by omega)
  have HM0 : Hid (-(m : Int) ≤ 0) := Lib.hid (by omega)
  have HM1 : Hid (m ≤ 1000000000) := Lib.hid (by omega)
  have HN1 := Lib.hid (show (m : Int) ≤ 65535 from hz2)
  by_cases hf : 0 ≤ f
  · by_cases hn : 1 ≤ n
    · by_cases hfk : f < (k : Int)
      · have e5 : IntKind.i64.wrap ((k : Int) - f) = (k : Int) - f := by rw [IntKind.wrap_i64]; omega
        by_cases hnk : n ≤ (k : Int) - f
        · obtain ⟨frm, rfl⟩ : ∃ q : Nat, f = q := ⟨f.toNat, by omega⟩
          obtain ⟨nn, rfl⟩ : ∃ q : Nat, n = q := ⟨n.toNat, by omega⟩
          have hr : frm + nn ≤ (Dev.fresh k).lies.length := by rw [hfl]; omega
          have HR := Lib.hid (fun w3 (hb3 : Below w2.heap.size w2 w3) => joread_ok (HD2.out.beyond hb3) (show 1 ≤ nn by omega) hr rfl (SmallD.fresh k))
          have HW := Lib.hid (fun w4 (hb4 : Below w2.heap.size w2 w4) => jowipe_ok (HD2.out.beyond hb4) (Nat.le_trans HWD.out hb4.size) (show 1 ≤ nn by omega) hr rfl rfl (by show 0 ≤ _; omega))
          have tf : decide (0 ≤ (frm : Int)) = true := by simp
          have tn : decide (1 ≤ (nn : Int)) = true := by simp; omega
          have tk : decide ((frm : Int) < (k : Int)) = true := by simp; omega
          have tq : decide ((nn : Int) ≤ (k : Int) - (frm : Int)) = true := by simp; omega
          by_cases ht0 : t = 0
          · subst ht0
            have HJ := Lib.hid (jonew_bad (n := (nn : Int)) (t := 0) HD2.out hf2 (.inr rfl))
            clear hr
            go_wp2_with (first | (go_at_call 9; with_reducible refine (HJ.out).mono ?_; rintro e w8 ⟨rfl, rfl⟩; dsimp only) | (go_at_call 18; with_reducible refine (HR.out _ (Below.refl _ _)).mono ?_; rintro e w3 ⟨v3, us3, rfl, hro, hb3⟩; have HB3 := Lib.hid hb3; clear hro hb3; dsimp only) | (go_at_call 20; with_reducible refine (HW.out _ HB3.out).mono ?_; rintro e w4 ⟨rfl, _, hk4⟩; have HK4 := Lib.hid ((kept_on HD2.out HB3.out).trans hk4); clear hk4; dsimp only) | (go_at_call 11; with_reducible refine (jocommit_none _ _).mono ?_; rintro e w8 ⟨rfl, rfl⟩; dsimp only) | (go_at_call 12; with_reducible refine (jowrite_none _ _).mono ?_; rintro e w8 ⟨rfl, rfl⟩; dsimp only) | (go_at_call 15; with_reducible refine (joroom_none _).mono ?_; rintro e w8 ⟨rfl, rfl⟩; dsimp only) | (go_at_call 14; with_reducible refine (jonext_none _).mono ?_; rintro e w8 ⟨rfl, rfl⟩; dsimp only) | (go_at_call 13; with_reducible refine (joturn_none _).mono ?_; rintro e w8 ⟨rfl, rfl⟩; dsimp only) | (go_at_call 21; with_reducible refine (jcost_any _ (m := m) HM.out).mono ?_; rintro e w8 ⟨rfl, rfl⟩; dsimp only) | (go_at_call 21; with_reducible refine (jcost_neg _ HM0.out).mono ?_; rintro e w8 ⟨rfl, rfl⟩; dsimp only) | (go_at_call 10; with_reducible refine (lcost10_any _ (m := m) HM1.out).mono ?_; rintro e w8 ⟨rfl, rfl⟩; dsimp only))
            go_ret
            exact ⟨rfl, HB2.out.trans ((HD2.out.below HWD.out HK4.out).mono HW1.out)⟩
          · obtain ⟨T, rfl⟩ : ∃ q : Nat, t = q := ⟨t.toNat, by omega⟩
            have HJ := Lib.hid (jonew_ok HD2.out (show 1 ≤ nn by omega) hr (show T ≠ 0 by omega))
            have tt : decide ((0 : Int) < (T : Int)) = true := by simp; omega
            clear hr
            go_wp2_with (first | (go_at_call 9; with_reducible refine (HJ.out).mono ?_; rintro e w5 ⟨J5, rfl, _, _, hb5⟩; have HB5 := Lib.hid hb5; clear hb5; dsimp only) | (go_at_call 18; with_reducible refine (HR.out _ HB5.out).mono ?_; rintro e w3 ⟨v3, us3, rfl, hro, hb3⟩; have HB3 := Lib.hid (HB5.out.trans (hb3.mono HB5.out.size)); clear hro hb3; dsimp only) | (go_at_call 20; with_reducible refine (HW.out _ HB3.out).mono ?_; rintro e w4 ⟨rfl, _, hk4⟩; have HK4 := Lib.hid ((kept_on HD2.out HB3.out).trans hk4); clear hk4; dsimp only) | (go_at_call 11; with_reducible refine (jocommit_none _ _).mono ?_; rintro e w8 ⟨rfl, rfl⟩; dsimp only) | (go_at_call 12; with_reducible refine (jowrite_none _ _).mono ?_; rintro e w8 ⟨rfl, rfl⟩; dsimp only) | (go_at_call 15; with_reducible refine (joroom_none _).mono ?_; rintro e w8 ⟨rfl, rfl⟩; dsimp only) | (go_at_call 14; with_reducible refine (jonext_none _).mono ?_; rintro e w8 ⟨rfl, rfl⟩; dsimp only) | (go_at_call 13; with_reducible refine (joturn_none _).mono ?_; rintro e w8 ⟨rfl, rfl⟩; dsimp only) | (go_at_call 21; with_reducible refine (jcost_any _ (m := m) HM.out).mono ?_; rintro e w8 ⟨rfl, rfl⟩; dsimp only) | (go_at_call 21; with_reducible refine (jcost_neg _ HM0.out).mono ?_; rintro e w8 ⟨rfl, rfl⟩; dsimp only) | (go_at_call 10; with_reducible refine (lcost10_any _ (m := m) HM1.out).mono ?_; rintro e w8 ⟨rfl, rfl⟩; dsimp only))
            go_ret
            exact ⟨rfl, HB2.out.trans ((HD2.out.below HWD.out HK4.out).mono HW1.out)⟩
        · have tf : decide (0 ≤ f) = true := by simpa using hf
          have tn : decide (1 ≤ n) = true := by simpa using hn
          have tk : decide (f < (k : Int)) = true := by simpa using hfk
          have tq : decide (n ≤ (k : Int) - f) = false := by simpa using hnk
          have hb : decide (0 ≤ f ∧ 1 ≤ n ∧ n ≤ ((Dev.fresh k).lies.length : Int) - f) = false := by rw [hfl, decide_eq_false_iff_not]; omega
          have HJ := Lib.hid (jonew_bad (t := t) HD2.out hf2 (.inl hb))
          have HR := Lib.hid (joread_bad HD2.out hf2 hb)
          have HW := Lib.hid (jowipe_bad HD2.out hf2 hb)
          clear hb
          go_wp2_with (first | (go_at_call 9; with_reducible refine (HJ.out).mono ?_; rintro e w8 ⟨rfl, rfl⟩; dsimp only) | (go_at_call 18; with_reducible refine (HR.out).mono ?_; rintro e w8 ⟨rfl, rfl⟩; dsimp only) | (go_at_call 20; with_reducible refine (HW.out).mono ?_; rintro e w8 ⟨rfl, rfl⟩; dsimp only) | (go_at_call 11; with_reducible refine (jocommit_none _ _).mono ?_; rintro e w8 ⟨rfl, rfl⟩; dsimp only) | (go_at_call 12; with_reducible refine (jowrite_none _ _).mono ?_; rintro e w8 ⟨rfl, rfl⟩; dsimp only) | (go_at_call 15; with_reducible refine (joroom_none _).mono ?_; rintro e w8 ⟨rfl, rfl⟩; dsimp only) | (go_at_call 14; with_reducible refine (jonext_none _).mono ?_; rintro e w8 ⟨rfl, rfl⟩; dsimp only) | (go_at_call 13; with_reducible refine (joturn_none _).mono ?_; rintro e w8 ⟨rfl, rfl⟩; dsimp only) | (go_at_call 21; with_reducible refine (jcost_any _ (m := m) HM.out).mono ?_; rintro e w8 ⟨rfl, rfl⟩; dsimp only) | (go_at_call 21; with_reducible refine (jcost_neg _ HM0.out).mono ?_; rintro e w8 ⟨rfl, rfl⟩; dsimp only) | (go_at_call 10; with_reducible refine (lcost10_any _ (m := m) HM1.out).mono ?_; rintro e w8 ⟨rfl, rfl⟩; dsimp only))
          go_ret
          exact ⟨rfl, HB2.out⟩
      · have tf : decide (0 ≤ f) = true := by simpa using hf
        have tn : decide (1 ≤ n) = true := by simpa using hn
        have tk : decide (f < (k : Int)) = false := by simpa using hfk
        have hb : decide (0 ≤ f ∧ 1 ≤ n ∧ n ≤ ((Dev.fresh k).lies.length : Int) - f) = false := by rw [hfl, decide_eq_false_iff_not]; omega
        have HJ := Lib.hid (jonew_bad (t := t) HD2.out hf2 (.inl hb))
        have HR := Lib.hid (joread_bad HD2.out hf2 hb)
        have HW := Lib.hid (jowipe_bad HD2.out hf2 hb)
        clear hb
        go_wp2_with (first | (go_at_call 9; with_reducible refine (HJ.out).mono ?_; rintro e w8 ⟨rfl, rfl⟩; dsimp only) | (go_at_call 18; with_reducible refine (HR.out).mono ?_; rintro e w8 ⟨rfl, rfl⟩; dsimp only) | (go_at_call 20; with_reducible refine (HW.out).mono ?_; rintro e w8 ⟨rfl, rfl⟩; dsimp only) | (go_at_call 11; with_reducible refine (jocommit_none _ _).mono ?_; rintro e w8 ⟨rfl, rfl⟩; dsimp only) | (go_at_call 12; with_reducible refine (jowrite_none _ _).mono ?_; rintro e w8 ⟨rfl, rfl⟩; dsimp only) | (go_at_call 15; with_reducible refine (joroom_none _).mono ?_; rintro e w8 ⟨rfl, rfl⟩; dsimp only) | (go_at_call 14; with_reducible refine (jonext_none _).mono ?_; rintro e w8 ⟨rfl, rfl⟩; dsimp only) | (go_at_call 13; with_reducible refine (joturn_none _).mono ?_; rintro e w8 ⟨rfl, rfl⟩; dsimp only) | (go_at_call 21; with_reducible refine (jcost_any _ (m := m) HM.out).mono ?_; rintro e w8 ⟨rfl, rfl⟩; dsimp only) | (go_at_call 21; with_reducible refine (jcost_neg _ HM0.out).mono ?_; rintro e w8 ⟨rfl, rfl⟩; dsimp only) | (go_at_call 10; with_reducible refine (lcost10_any _ (m := m) HM1.out).mono ?_; rintro e w8 ⟨rfl, rfl⟩; dsimp only))
        go_ret
        exact ⟨rfl, HB2.out⟩
    · have tf : decide (0 ≤ f) = true := by simpa using hf
      have tn : decide (1 ≤ n) = false := by simpa using hn
      have hb : decide (0 ≤ f ∧ 1 ≤ n ∧ n ≤ ((Dev.fresh k).lies.length : Int) - f) = false := by rw [hfl, decide_eq_false_iff_not]; omega
      have HJ := Lib.hid (jonew_bad (t := t) HD2.out hf2 (.inl hb))
      have HR := Lib.hid (joread_bad HD2.out hf2 hb)
      have HW := Lib.hid (jowipe_bad HD2.out hf2 hb)
      clear hb
      go_wp2_with (first | (go_at_call 9; with_reducible refine (HJ.out).mono ?_; rintro e w8 ⟨rfl, rfl⟩; dsimp only) | (go_at_call 18; with_reducible refine (HR.out).mono ?_; rintro e w8 ⟨rfl, rfl⟩; dsimp only) | (go_at_call 20; with_reducible refine (HW.out).mono ?_; rintro e w8 ⟨rfl, rfl⟩; dsimp only) | (go_at_call 11; with_reducible refine (jocommit_none _ _).mono ?_; rintro e w8 ⟨rfl, rfl⟩; dsimp only) | (go_at_call 12; with_reducible refine (jowrite_none _ _).mono ?_; rintro e w8 ⟨rfl, rfl⟩; dsimp only) | (go_at_call 15; with_reducible refine (joroom_none _).mono ?_; rintro e w8 ⟨rfl, rfl⟩; dsimp only) | (go_at_call 14; with_reducible refine (jonext_none _).mono ?_; rintro e w8 ⟨rfl, rfl⟩; dsimp only) | (go_at_call 13; with_reducible refine (joturn_none _).mono ?_; rintro e w8 ⟨rfl, rfl⟩; dsimp only) | (go_at_call 21; with_reducible refine (jcost_any _ (m := m) HM.out).mono ?_; rintro e w8 ⟨rfl, rfl⟩; dsimp only) | (go_at_call 21; with_reducible refine (jcost_neg _ HM0.out).mono ?_; rintro e w8 ⟨rfl, rfl⟩; dsimp only) | (go_at_call 10; with_reducible refine (lcost10_any _ (m := m) HM1.out).mono ?_; rintro e w8 ⟨rfl, rfl⟩; dsimp only))
      go_ret
      exact ⟨rfl, HB2.out⟩
  · have tf : decide (0 ≤ f) = false := by simpa using hf
    have hb : decide (0 ≤ f ∧ 1 ≤ n ∧ n ≤ ((Dev.fresh k).lies.length : Int) - f) = false := by rw [hfl, decide_eq_false_iff_not]; omega
    have HJ := Lib.hid (jonew_bad (t := t) HD2.out hf2 (.inl hb))
    have HR := Lib.hid (joread_bad HD2.out hf2 hb)
    have HW := Lib.hid (jowipe_bad HD2.out hf2 hb)
    clear hb
    go_wp2_with (first | (go_at_call 9; with_reducible refine (HJ.out).mono ?_; rintro e w8 ⟨rfl, rfl⟩; dsimp only) | (go_at_call 18; with_reducible refine (HR.out).mono ?_; rintro e w8 ⟨rfl, rfl⟩; dsimp only) | (go_at_call 20; with_reducible refine (HW.out).mono ?_; rintro e w8 ⟨rfl, rfl⟩; dsimp only) | (go_at_call 11; with_reducible refine (jocommit_none _ _).mono ?_; rintro e w8 ⟨rfl, rfl⟩; dsimp only) | (go_at_call 12; with_reducible refine (jowrite_none _ _).mono ?_; rintro e w8 ⟨rfl, rfl⟩; dsimp only) | (go_at_call 15; with_reducible refine (joroom_none _).mono ?_; rintro e w8 ⟨rfl, rfl⟩; dsimp only) | (go_at_call 14; with_reducible refine (jonext_none _).mono ?_; rintro e w8 ⟨rfl, rfl⟩; dsimp only) | (go_at_call 13; with_reducible refine (joturn_none _).mono ?_; rintro e w8 ⟨rfl, rfl⟩; dsimp only) | (go_at_call 21; with_reducible refine (jcost_any _ (m := m) HM.out).mono ?_; rintro e w8 ⟨rfl, rfl⟩; dsimp only) | (go_at_call 21; with_reducible refine (jcost_neg _ HM0.out).mono ?_; rintro e w8 ⟨rfl, rfl⟩; dsimp only) | (go_at_call 10; with_reducible refine (lcost10_any _ (m := m) HM1.out).mono ?_; rintro e w8 ⟨rfl, rfl⟩; dsimp only))
    go_ret
    exact ⟨rfl, HB2.out⟩
end Go.Proofs.YtngeilhdambgfaaDoor
