/- ExpireGoes, over what packages tier and expire do. Written by py/ex-goes.py. -/
import Derived.Test.YthbdchleppbidaaGreatZExGoS
import Derived.Test.YthbdchleppbidaaGreatZExGoL
import Derived.Test.YthbdchleppbidaaGreatMX
import Derived.Test.YthbdchleppbidaaGreatZPoRight
import Derived.Deep.RegionHeld3
import Derived.Deep.DeepCutAuto
import Derived.Handy
namespace Go.Proofs.YthbdchleppbidaaGreat
open Go.RowKit

theorem fewX_len {K : List Hld} (h : true = fewX K) : K.length ≤ 20 := by
  unfold fewX at h
  have h := h.symm
  rw [Bool.and_eq_true] at h
  exact of_decide_eq_true h.2
set_option maxHeartbeats 64000000 in
set_option maxRecDepth 1000000 in
theorem expireGoes_over {D : TierD} (M : TierM D) (X : ExD D) {w : World} {v0 v1 : Value} {L : List TActL} {HH : List Hld} {a b c now : Int} {sr : ByteArray} (hv : TActsAt w v0 L) (hin : ∀ x ∈ L, x.In) (hm : L.length ≤ maxLen)
    (hv1 : HLies w v1 HH) (hin1 : ∀ x ∈ HH, x.In) (hm1 : HH.length ≤ maxLen)
    (pa : -9223372036854775808 ≤ a ∧ a ≤ 9223372036854775807) (pb : -9223372036854775808 ≤ b ∧ b ≤ 9223372036854775807) (pc : -9223372036854775808 ≤ c ∧ c ≤ 9223372036854775807)
    (n0 : -9223372036854775808 ≤ now) (n1 : now ≤ 9223372036854775807) (hsr : sr.size ≤ maxLen) :
    Calls Tryz.prog 3 #[v0, v1, .agg #[.int .i64 a, .int .i64 b, .int .i64 c], .int .i64 now, .string sr] w fun e w' => e = .returned (.bool true) ∧ Below w.heap.size w w' := by
  have HV0 := Lib.hid hv
  have HV1 := Lib.hid hv1
  have HIN := Lib.hid hin
  have HIN1 := Lib.hid hin1
  have HPI : Hid (PolIn a b c now) := Lib.hid ⟨pa, pb, pc, ⟨n0, n1⟩⟩
  have HLN : Hid (L.length ≤ 9223372036854775807 ∧ HH.length ≤ 9223372036854775807) := Lib.hid (by unfold maxLen at hm hm1; omega)
  have HSR := Lib.hid hsr
  have hsz : sr.size ≤ 9223372036854775807 := by unfold maxLen at hsr; omega
  clear hv hv1 hin hin1 hm hm1 pa pb pc n0 n1 hsr
  have HLI : Hid (∀ W, Calls Tryz.prog 6 #[] W fun e w' => e = .returned (.bool true) ∧ Below W.heap.size W w') := Lib.hid fun W => exlives_any M X W
  have HF0 : Hid (∀ W, Below w.heap.size w W → Calls Tryz.prog 7 #[v0, .int .i64 30] W fun e w' => e = .returned (.bool (fewT L 30)) ∧ Below W.heap.size W w') := Lib.hid fun W hb => few_any (HV0.out.keep hb) HLN.out.1 30
  have HF1 : Hid (∀ W, Below w.heap.size w W → Calls Tryz.prog 8 #[v1] W fun e w' => e = .returned (.bool (fewX HH)) ∧ Below W.heap.size W w') := Lib.hid fun W hb => exfew_any (HV1.out.beyond hb) HLN.out.2 HIN1.out
  have HRT : Hid (∀ W, Calls Tryz.prog 14 #[.agg #[.int .i64 a, .int .i64 b, .int .i64 c]] W fun e w' => e = .returned (.bool (rightP a b c)) ∧ Below W.heap.size W w') := Lib.hid fun W => lpright_any W a b c
  obtain ⟨f0, hf0⟩ : ∃ f0, f0 = fewT L 30 := ⟨_, rfl⟩
  obtain ⟨f1, hf1⟩ : ∃ f1, f1 = fewX HH := ⟨_, rfl⟩
  obtain ⟨RT, hRT⟩ : ∃ x, x = rightP a b c := ⟨_, rfl⟩
  rw [← hf0] at HF0
  rw [← hf1] at HF1
  rw [← hRT] at HRT
  have HFE := Lib.hid hf0
  have HFX := Lib.hid hf1
  have HRE := Lib.hid hRT
  clear hf0 hf1 hRT
  go_enter Tryz.func3, Tryz.ntmps3
  go_upto_region 1 with fail
  refine wp_name fun W1 hW1 => ?_
  obtain ⟨P, hP⟩ : ∃ P, P = w.heap.size := ⟨_, rfl⟩
  have HP1 : Hid (PolAt W1 P a b c) := Lib.hid (by rw [hW1.out, hP]; exact PolAt.new w a b c)
  have HB1 : Hid (Below w.heap.size w W1) := Lib.hid (by rw [hW1.out]; exact (Below.refl _ _).alloc (Nat.le_refl _) _)
  rw [← hP]
  clear hW1 hP
  go_wp2_with fail
  refine (HLI.out W1).mono ?_
  rintro e W2 ⟨rfl, hb⟩
  have HP2 := Lib.hid (HP1.out.keep hb)
  have HB2 := Lib.hid (HB1.out.trans (hb.mono HB1.out.size))
  clear hb HP1 HB1
  dsimp only
  go_wp2_with fail
  refine (HF0.out W2 HB2.out).mono ?_
  rintro e W3 ⟨rfl, hb⟩
  have HP3 := Lib.hid (HP2.out.keep hb)
  have HB3 := Lib.hid (HB2.out.trans (hb.mono HB2.out.size))
  clear hb HP2 HB2 HF0
  dsimp only
  cases f0 with
  | false =>
    go_wp2_with fail
    refine (HLI.out W3).mono ?_
    rintro e WL ⟨rfl, hb⟩
    have HBL := Lib.hid (HB3.out.trans (hb.mono HB3.out.size))
    clear hb
    dsimp only
    go_wp2
    go_ret
    exact ⟨rfl, HBL.out⟩
  | true =>
  go_wp2_with fail
  refine (HF1.out W3 HB3.out).mono ?_
  rintro e W4 ⟨rfl, hb⟩
  have HP4 := Lib.hid (HP3.out.keep hb)
  have HB4 := Lib.hid (HB3.out.trans (hb.mono HB3.out.size))
  clear hb HP3 HB3 HF1
  dsimp only
  cases f1 with
  | false =>
    go_wp2_with fail
    refine (HLI.out W4).mono ?_
    rintro e WL ⟨rfl, hb⟩
    have HBL := Lib.hid (HB4.out.trans (hb.mono HB4.out.size))
    clear hb
    dsimp only
    go_wp2
    go_ret
    exact ⟨rfl, HBL.out⟩
  | true =>
  by_cases h60 : 60 < sr.size
  · have t1 : decide (60 < (sr.size : Int)) = true := decide_eq_true (by omega)
    clear h60
    go_wp2_with fail
    refine (HLI.out W4).mono ?_
    rintro e WL ⟨rfl, hb⟩
    have HBL := Lib.hid (HB4.out.trans (hb.mono HB4.out.size))
    clear hb
    dsimp only
    go_wp2
    go_ret
    exact ⟨rfl, HBL.out⟩
  have t1 : decide (60 < (sr.size : Int)) = false := decide_eq_false (by omega)
  clear h60
  have HPL : Hid (∀ W, Below w.heap.size w W → Calls Tryz.prog 9 #[v0] W fun e w' => ∃ p, e = .returned (.pointer (some ⟨p, 0, none⟩)) ∧ OneS D W.heap.size w' p (playT L) ∧ Below W.heap.size W w') := Lib.hid fun W hb => explay_any D (HV0.out.keep hb) HIN.out (fewT_of HFE.out).1 (by have := (fewT_of HFE.out).2; omega)
  have HTA : Hid (∀ W, Below w.heap.size w W → Calls Tryz.prog 10 #[v1] W fun e w' => ∃ q g, e = .returned (.pointer (some ⟨q, 0, none⟩)) ∧ TabAt w' q g (tabX HH) ∧ (∀ k, TFoot q g k → W.heap.size ≤ k) ∧ Below W.heap.size W w') := Lib.hid fun W hb => extable_any (HV1.out.beyond hb) HIN1.out (by have := fewX_len HFX.out; omega)
  have HTR : Hid (∀ h ∈ tabX HH, h.a < h.b) := Lib.hid (tabX_right HH)
  have HTK : Hid (TabM (tabX HH)) := Lib.hid (tabX_ok HH)
  obtain ⟨m, hmm⟩ : ∃ m, m = tabX HH := ⟨_, rfl⟩
  rw [← hmm] at HTA HTR HTK
  clear hmm
  go_wp2_with fail
  refine (HPL.out W4 HB4.out).mono ?_
  rintro e W5 ⟨p, rfl, h1, hb⟩
  obtain ⟨s, hs⟩ : ∃ s, s = playT L := ⟨_, rfl⟩
  rw [← hs] at h1
  have HS5 : Hid (OneS D w.heap.size W5 p s) := Lib.hid ⟨h1.sit, fun k hk => Nat.le_trans HB4.out.size (h1.base k hk)⟩
  have HP5 := Lib.hid (HP4.out.keep hb)
  have HB5 := Lib.hid (HB4.out.trans (hb.mono HB4.out.size))
  have HGD := Lib.hid (D.good h1.sit)
  have HPO : Hid (¬ D.own W5 p P) := Lib.hid fun hk => by
    have := h1.base P hk
    have := lt_of_block HP4.out
    omega
  clear h1 hb hs HPL HP4 HB4 t1
  dsimp only
  go_wp2_with fail
  refine (HTA.out W5 HB5.out).mono ?_
  rintro e W6 ⟨q, g, rfl, ht, hg, hb⟩
  have hk6 := D.keep HS5.out.sit (only_beyond (S := fun _ => False) hb) (fun _ _ h => h)
  have HG6 : Hid (∀ V u, Below W6.heap.size W6 V → D.sit V u s → (∀ k, D.own V u k → W6.heap.size ≤ k) → GoP D w V p s u s P a b c q g m) := Lib.hid (by
    intro V u hV hu ho
    obtain ⟨y1, y2⟩ := D.keep hk6.1 (only_beyond (S := fun _ => False) hV) (fun _ _ h => h)
    have hown : ∀ k, D.own V p k → D.own W5 p k := fun k hk => hk6.2 k (y2 k hk)
    have hlt : ∀ k, D.own V p k → k < W5.heap.size := fun k hk => D.lt HS5.out.sit (hown k hk)
    refine ⟨y1, hu, fun k hk hk' => ?_, (HP5.out.keep hb).keep hV, ht.below hV, HTK.out, fun k hk hk' => ?_, fun hk => HPO.out (hown _ hk), fun k hk => HS5.out.base k (hown k hk), HB5.out.trans ((hb.trans (hV.mono hb.size)).mono HB5.out.size)⟩
    · have := hlt k hk; have := ho k hk'; have := hb.size; omega
    · have := hlt k hk'; have := hg k hk; omega)
  have HS6 := Lib.hid hk6.1
  clear ht hg hb hk6 HTA HS5 HP5 HB5 HPO
  dsimp only
  have HCP := Lib.hid (M.copy HS6.out)
  go_wp2_with fail
  refine HCP.out.mono ?_
  rintro e W7 ⟨u, rfl, h1, h2, hb⟩
  have H7 := Lib.hid (HG6.out W7 u hb h1 h2)
  clear h1 h2 hb HG6 HS6 HCP
  dsimp only
  have HDU := Lib.hid (X.due (sr := sr) (now := now) H7.out.now H7.out.tabx HPI.out HSR.out)
  obtain ⟨s', hs'⟩ : ∃ t, t = serX s m sr a b c now := ⟨_, rfl⟩
  obtain ⟨x, y, z, hx⟩ : ∃ x y z : Int, wentX s s' = .agg #[.int .i64 x, .int .i64 y, .int .i64 z] := ⟨_, _, _, rfl⟩
  rw [← hs', hx] at HDU
  have HSX := Lib.hid hs'
  have HWX := Lib.hid hx
  obtain ⟨p0, p1, p2, -, -, -⟩ := H7.out.pol.cells
  go_wp2_with fail
  refine HDU.out.mono ?_
  rintro e W8 ⟨rfl, hb⟩
  have H8 := Lib.hid (H7.out.keep hb)
  clear hb H7 HDU p0 p1 p2
  dsimp only
  go_upto_region 6 with fail
  refine wp_name fun W9 hW => ?_
  obtain ⟨A1, hA⟩ : ∃ A, A = W8.heap.size := ⟨_, rfl⟩
  have hb : Below W8.heap.size W8 W9 := by rw [hW.out]; exact (Below.refl _ _).alloc (Nat.le_refl _) _
  have HA1 : Hid (CntAt W9 A1 x y z ∧ ¬ D.own W9 p A1) := Lib.hid ⟨by unfold CntAt; rw [hW.out, hA]; exact heap_alloc_new W8 _, fun hk => by
    have h2 := (D.keep H8.out.now (only_beyond (S := fun _ => False) hb) (fun _ _ h => h)).2 _ hk
    have := D.lt H8.out.now h2
    omega⟩
  have H9 := Lib.hid (H8.out.keep hb)
  rw [← hA]
  clear hW hA hb H8
  have HSE := Lib.hid (X.series (sr := sr) (now := now) H9.out.now H9.out.tabx HPI.out HSR.out)
  obtain ⟨E, hE⟩ : ∃ E, E = errX a b c now := ⟨_, rfl⟩
  rw [← hs', hx, ← hE] at HSE
  have HER := Lib.hid hE
  clear hs' hx hE
  obtain ⟨p0, p1, p2, -, -, -⟩ := H9.out.pol.cells
  go_wp2_with fail
  refine HSE.out.mono ?_
  rintro e W10 ⟨rfl, h1, h2, h3⟩
  have H10 := Lib.hid (H9.out.step h1 h2 h3)
  have HA10 : Hid (CntAt W10 A1 x y z) := Lib.hid ((h3.block A1 (lt_of_block HA1.out.1) HA1.out.2).trans HA1.out.1)
  clear h1 h2 h3 H9 HA1 HSE p0 p1 p2
  dsimp only
  go_upto_region 7 with fail
  refine wp_name fun W11 hW => ?_
  obtain ⟨A2, hA⟩ : ∃ A, A = W10.heap.size := ⟨_, rfl⟩
  have hb : Below W10.heap.size W10 W11 := by rw [hW.out]; exact (Below.refl _ _).alloc (Nat.le_refl _) _
  have HB11 : Hid (CntAt W11 A2 x y z) := Lib.hid (by unfold CntAt; rw [hW.out, hA]; exact heap_alloc_new W10 _)
  have H11 := Lib.hid (H10.out.keep hb)
  have HA11 := Lib.hid (HA10.out.keep hb)
  rw [← hA]
  clear hW hA hb H10 HA10
  go_upto_region 8 with fail
  refine wp_name fun W12 hW => ?_
  obtain ⟨R, hR⟩ : ∃ A, A = W11.heap.size := ⟨_, rfl⟩
  have hb : Below W11.heap.size W11 W12 := by rw [hW.out]; exact (Below.refl _ _).alloc (Nat.le_refl _) _
  have HR12 : Hid (RgAt W12 R 0 1099511627777) := Lib.hid (by rw [hW.out, hR]; exact RgAt.new W11 0 1099511627777)
  have H12 := Lib.hid (H11.out.keep hb)
  have HA12 := Lib.hid (HA11.out.keep hb)
  have HB12 := Lib.hid (HB11.out.keep hb)
  rw [← hR]
  clear hW hR hb H11 HA11 HB11
  obtain ⟨p0, p1, p2, -, -, -⟩ := H12.out.pol.cells
  go_wp2_with fail
  refine (HRT.out W12).mono ?_
  rintro e W13 ⟨rfl, hb⟩
  have H13 := Lib.hid (H12.out.keep hb)
  have HA13 := Lib.hid (HA12.out.keep hb)
  have HB13 := Lib.hid (HB12.out.keep hb)
  have HR13 := Lib.hid (HR12.out.keep hb)
  clear hb H12 HA12 HB12 HR12 p0 p1 p2 HRT
  dsimp only
  have HBE : Hid (badX a b c now = (!RT || !(decide (0 ≤ now) && decide (now ≤ 1099511627776)))) := Lib.hid (by rw [HRE.out]; rfl)
  have HBAD : Hid (badX a b c now = true → (x = 0 ∧ y = 0 ∧ z = 0) ∧ E = 1 ∧ s' = s) := Lib.hid (by
    intro h
    have e1 : s' = s := by rw [HSX.out]; unfold serX; rw [if_pos h]
    have e2 := HWX.out
    rw [e1, went_same] at e2
    simp only [Value.agg.injEq, Array.mk.injEq, List.cons.injEq, Value.int.injEq, true_and, and_true] at e2
    exact ⟨⟨e2.1.symm, e2.2.1.symm, e2.2.2.symm⟩, by rw [HER.out]; unfold errX; rw [if_pos h], e1⟩)
  cases RT with
  | false =>
    have HBT : Hid (badX a b c now = true) := Lib.hid (by rw [HBE.out]; rfl)
    obtain ⟨⟨rfl, rfl, rfl⟩, rfl, rfl⟩ := HBAD.out HBT.out
    obtain ⟨a0, a1, a2, -, -, -⟩ := cells3 HA13.out
    obtain ⟨b0, b1, b2, -, -, -⟩ := cells3 HB13.out
    have hq0 : ∀ V, (Op.equalIn 10000 35 (.agg #[.int .i64 0, .int .i64 0, .int .i64 0]) (.agg #[.int .i64 0, .int .i64 0, .int .i64 0])).run Tryz.prog V = .ok true V := fun V => cnt_eq 0 0 0 0 0 0 V
    have HBY1 := Lib.hid (M.bytes H13.out.now)
    have HBY2 := Lib.hid (M.bytes H13.out.was)
    obtain ⟨BB, hBB⟩ : ∃ B, B = bytesT s' := ⟨_, rfl⟩
    rw [← hBB] at HBY1 HBY2
    clear hBB
    go_wp2_with fail
    refine HBY1.out.mono ?_
    rintro e w2 ⟨rfl, hw⟩; replace hw := hw.symm; subst hw
    dsimp only
    go_wp2_with fail
    refine HBY2.out.mono ?_
    rintro e w2 ⟨rfl, hw⟩; replace hw := hw.symm; subst hw
    dsimp only
    go_wp2_with fail
    go_ret
    exact ⟨rfl, H13.out.bel⟩
  | true =>
  by_cases h1 : now < 0
  · have d1 : decide (now < 0) = true := decide_eq_true h1
    have HBT : Hid (badX a b c now = true) := Lib.hid (by rw [HBE.out, decide_eq_false (show ¬ 0 ≤ now by omega)]; rfl)
    clear h1
    obtain ⟨⟨rfl, rfl, rfl⟩, rfl, rfl⟩ := HBAD.out HBT.out
    obtain ⟨a0, a1, a2, -, -, -⟩ := cells3 HA13.out
    obtain ⟨b0, b1, b2, -, -, -⟩ := cells3 HB13.out
    have hq0 : ∀ V, (Op.equalIn 10000 35 (.agg #[.int .i64 0, .int .i64 0, .int .i64 0]) (.agg #[.int .i64 0, .int .i64 0, .int .i64 0])).run Tryz.prog V = .ok true V := fun V => cnt_eq 0 0 0 0 0 0 V
    have HBY1 := Lib.hid (M.bytes H13.out.now)
    have HBY2 := Lib.hid (M.bytes H13.out.was)
    obtain ⟨BB, hBB⟩ : ∃ B, B = bytesT s' := ⟨_, rfl⟩
    rw [← hBB] at HBY1 HBY2
    clear hBB
    go_wp2_with fail
    refine HBY1.out.mono ?_
    rintro e w2 ⟨rfl, hw⟩; replace hw := hw.symm; subst hw
    dsimp only
    go_wp2_with fail
    refine HBY2.out.mono ?_
    rintro e w2 ⟨rfl, hw⟩; replace hw := hw.symm; subst hw
    dsimp only
    go_wp2_with fail
    go_ret
    exact ⟨rfl, H13.out.bel⟩
  have d1 : decide (now < 0) = false := decide_eq_false h1
  by_cases h2 : 1099511627776 < now
  · have d2 : decide (1099511627776 < now) = true := decide_eq_true h2
    have HBT : Hid (badX a b c now = true) := Lib.hid (by rw [HBE.out, decide_eq_false (show ¬ now ≤ 1099511627776 by omega), Bool.and_false]; rfl)
    clear h1 h2
    obtain ⟨⟨rfl, rfl, rfl⟩, rfl, rfl⟩ := HBAD.out HBT.out
    obtain ⟨a0, a1, a2, -, -, -⟩ := cells3 HA13.out
    obtain ⟨b0, b1, b2, -, -, -⟩ := cells3 HB13.out
    have hq0 : ∀ V, (Op.equalIn 10000 35 (.agg #[.int .i64 0, .int .i64 0, .int .i64 0]) (.agg #[.int .i64 0, .int .i64 0, .int .i64 0])).run Tryz.prog V = .ok true V := fun V => cnt_eq 0 0 0 0 0 0 V
    have HBY1 := Lib.hid (M.bytes H13.out.now)
    have HBY2 := Lib.hid (M.bytes H13.out.was)
    obtain ⟨BB, hBB⟩ : ∃ B, B = bytesT s' := ⟨_, rfl⟩
    rw [← hBB] at HBY1 HBY2
    clear hBB
    go_wp2_with fail
    refine HBY1.out.mono ?_
    rintro e w2 ⟨rfl, hw⟩; replace hw := hw.symm; subst hw
    dsimp only
    go_wp2_with fail
    refine HBY2.out.mono ?_
    rintro e w2 ⟨rfl, hw⟩; replace hw := hw.symm; subst hw
    dsimp only
    go_wp2_with fail
    go_ret
    exact ⟨rfl, H13.out.bel⟩
  have d2 : decide (1099511627776 < now) = false := decide_eq_false h2
  have HNW : Hid (0 ≤ now ∧ now ≤ 1099511627776) := Lib.hid (by omega)
  have HBF : Hid (badX a b c now = false) := Lib.hid (by rw [HBE.out, decide_eq_true HNW.out.1, decide_eq_true HNW.out.2]; rfl)
  have HE0 : Hid (E = 0) := Lib.hid (by rw [HER.out]; unfold errX; rw [HBF.out]; rfl)
  rw [HE0.out]
  clear h1 h2 HBE HBAD HE0 HER
  go_upto_region 11 with fail
  refine wp_name fun W14 hW => ?_
  obtain ⟨C, hC⟩ : ∃ A, A = W13.heap.size := ⟨_, rfl⟩
  have hb : Below W13.heap.size W13 W14 := by rw [hW.out]; exact (Below.refl _ _).alloc (Nat.le_refl _) _
  have HG : Hid (GoS D w W14 p s' u s P a b c q g m A1 A2 R C x y z 0 0 0) := Lib.hid (by
    have h13 := H13.out
    obtain ⟨-, k1⟩ := D.keep h13.now (only_beyond (S := fun _ => False) hb) (fun _ _ h => h)
    obtain ⟨-, k2⟩ := D.keep h13.was (only_beyond (S := fun _ => False) hb) (fun _ _ h => h)
    have e1 := lt_of_block HA13.out
    have e2 := lt_of_block HB13.out
    exact ⟨h13.keep hb, HA13.out.keep hb, HB13.out.keep hb, HR13.out.keep hb, by unfold CntAt; rw [hW.out, hC]; exact heap_alloc_new W13 _, fun hk => by have := D.lt h13.now (k1 _ hk); omega, fun hk => by have := D.lt h13.was (k2 _ hk); omega, by omega, by omega, by rw [hC]; exact h13.bel.size⟩)
  rw [← hC]
  clear hW hC hb H13 HA13 HB13 HR13 d1 d2
  have HPR : Hid (RightP a b c) := Lib.hid (polRight_of HRE.out.symm)
  have HPT : Hid (∀ V r, D.sit V r s' → Calls Tryz.prog 16 #[.pointer (some ⟨r, 0, none⟩), .agg #[.int .i64 0, .int .i64 1099511627777]] V fun e w' => ∃ v', e = .returned v' ∧ PtRowB V.heap.size w' v' (getL s'.raw 0 1099511627777) ∧ Below V.heap.size V w') := Lib.hid fun V r hV => D.points hV (by omega) (by omega) (by omega) (by omega)
  have HPW : Hid (∀ V r, D.sit V r s → Calls Tryz.prog 16 #[.pointer (some ⟨r, 0, none⟩), .agg #[.int .i64 0, .int .i64 1099511627777]] V fun e w' => ∃ v', e = .returned v' ∧ PtRowB V.heap.size w' v' (getL s.raw 0 1099511627777) ∧ Below V.heap.size V w') := Lib.hid fun V r hV => D.points hV (by omega) (by omega) (by omega) (by omega)
  have HSS : Hid (s' = stayX s m sr a b c now) := Lib.hid (by rw [HSX.out]; unfold serX; rw [HBF.out, if_neg (by simp)])
  have HWC := Lib.hid (went_count HGD.out m sr HBF.out HNW.out.2)
  rw [← HSX.out, HWX.out] at HWC
  have HL0 : Hid (∀ r ∈ getL s.raw 0 1099511627777, goX s m sr a b c now 0 r.a = lawX m sr (ofP a b c 0) s.mm now r.a 1) := Lib.hid fun r hr => raw_law HGD.out HTR.out sr a b c now hr
  have HL1 : Hid (∀ r ∈ aggsT s 1 0 1099511627777, goX s m sr a b c now 1 r.at_ = lawX m sr (ofP a b c 1) s.ml now r.at_ 300) := Lib.hid fun r hr => mid_law HGD.out HTR.out sr a b c now hr
  have HL2 : Hid (∀ r ∈ aggsT s 2 0 1099511627777, goX s m sr a b c now 2 r.at_ = lawX m sr (ofP a b c 2) 1125899906842624 now r.at_ 3600) := Lib.hid fun r hr => long_law HGD.out HTR.out sr a b c now hr
  have HE0 : Hid (getL s'.raw 0 1099511627777 = (getL s.raw 0 1099511627777).filter fun r => !goX s m sr a b c now 0 r.a) := Lib.hid (by rw [HSS.out]; exact raw_left s m sr a b c now 0 1099511627777)
  have HE1 : Hid (aggsT s' 1 0 1099511627777 = (aggsT s 1 0 1099511627777).filter fun r => !goX s m sr a b c now 1 r.at_) := Lib.hid (by rw [HSS.out]; exact mid_left s m sr a b c now 0 1099511627777)
  have HE2 : Hid (aggsT s' 2 0 1099511627777 = (aggsT s 2 0 1099511627777).filter fun r => !goX s m sr a b c now 2 r.at_) := Lib.hid (by rw [HSS.out]; exact long_left s m sr a b c now 0 1099511627777)
  have HTI : Hid (∀ r ∈ getL s.raw 0 1099511627777, 0 ≤ r.a ∧ r.a ≤ 1099511627776) := Lib.hid fun r hr => HGD.out.tick r (List.mem_filter.1 hr).1
  have HTM : Hid (∀ r ∈ aggsT s 1 0 1099511627777, 0 ≤ r.at_ ∧ r.at_ ≤ 1099511631376) := Lib.hid fun r hr => by
    have h1 := HGD.out.mid.beg r (List.mem_filter.1 hr).1
    have h2 := HGD.out.mm
    omega
  have HTL : Hid (∀ r ∈ aggsT s 2 0 1099511627777, 0 ≤ r.at_ ∧ r.at_ ≤ 1099511631376) := Lib.hid fun r hr => by
    have h1 := HGD.out.long.beg r (List.mem_filter.1 hr).1
    have h2 := HGD.out.mm
    have h3 := HGD.out.ml
    omega
  have HLE : Hid ((getL s.raw 0 1099511627777).length ≤ 256 ∧ (aggsT s 1 0 1099511627777).length ≤ 256 ∧ (aggsT s 2 0 1099511627777).length ≤ 256) := Lib.hid (rows_len HGD.out _ _)
  obtain ⟨G0, hG0⟩ : ∃ f : Pt → Bool, f = fun r => goX s m sr a b c now 0 r.a := ⟨_, rfl⟩
  obtain ⟨G1, hG1⟩ : ∃ f : Ag → Bool, f = fun r => goX s m sr a b c now 1 r.at_ := ⟨_, rfl⟩
  obtain ⟨G2, hG2⟩ : ∃ f : Ag → Bool, f = fun r => goX s m sr a b c now 2 r.at_ := ⟨_, rfl⟩
  have q0 : ∀ r, goX s m sr a b c now 0 r.a = G0 r := fun r => by rw [hG0]
  have q1 : ∀ r, goX s m sr a b c now 1 r.at_ = G1 r := fun r => by rw [hG1]
  have q2 : ∀ r, goX s m sr a b c now 2 r.at_ = G2 r := fun r => by rw [hG2]
  simp only [q0, q1, q2] at HWC HL0 HL1 HL2 HE0 HE1 HE2
  clear hG0 hG1 hG2 q0 q1 q2
  obtain ⟨LP, hLP⟩ : ∃ l, l = getL s.raw 0 1099511627777 := ⟨_, rfl⟩
  rw [← hLP] at HPW HL0 HE0 HWC HTI HLE
  rw [HE0.out] at HPT
  obtain ⟨LL, hLL⟩ : ∃ l, l = LP.filter fun r => !G0 r := ⟨_, rfl⟩
  rw [← hLL] at HPT
  have HLL := Lib.hid hLL
  obtain ⟨LM, hLM⟩ : ∃ l, l = aggsT s 1 0 1099511627777 := ⟨_, rfl⟩
  obtain ⟨LG, hLG⟩ : ∃ l, l = aggsT s 2 0 1099511627777 := ⟨_, rfl⟩
  have HAP1 : Hid (∀ V r, D.sit V r s' → Calls Tryz.prog 20 #[.pointer (some ⟨r, 0, none⟩), .int .i64 1, .agg #[.int .i64 0, .int .i64 1099511627777]] V fun e w' => ∃ v', e = .returned v' ∧ AgRow V.heap.size w' v' (aggsT s' 1 0 1099511627777) ∧ Below V.heap.size V w') := Lib.hid fun V r hV => D.aggs hV (by omega) (by omega) (by omega) (by omega) (by omega) (by omega)
  have HAW1 : Hid (∀ V r, D.sit V r s → Calls Tryz.prog 20 #[.pointer (some ⟨r, 0, none⟩), .int .i64 1, .agg #[.int .i64 0, .int .i64 1099511627777]] V fun e w' => ∃ v', e = .returned v' ∧ AgRow V.heap.size w' v' (aggsT s 1 0 1099511627777) ∧ Below V.heap.size V w') := Lib.hid fun V r hV => D.aggs hV (by omega) (by omega) (by omega) (by omega) (by omega) (by omega)
  have HAP2 : Hid (∀ V r, D.sit V r s' → Calls Tryz.prog 20 #[.pointer (some ⟨r, 0, none⟩), .int .i64 2, .agg #[.int .i64 0, .int .i64 1099511627777]] V fun e w' => ∃ v', e = .returned v' ∧ AgRow V.heap.size w' v' (aggsT s' 2 0 1099511627777) ∧ Below V.heap.size V w') := Lib.hid fun V r hV => D.aggs hV (by omega) (by omega) (by omega) (by omega) (by omega) (by omega)
  have HAW2 : Hid (∀ V r, D.sit V r s → Calls Tryz.prog 20 #[.pointer (some ⟨r, 0, none⟩), .int .i64 2, .agg #[.int .i64 0, .int .i64 1099511627777]] V fun e w' => ∃ v', e = .returned v' ∧ AgRow V.heap.size w' v' (aggsT s 2 0 1099511627777) ∧ Below V.heap.size V w') := Lib.hid fun V r hV => D.aggs hV (by omega) (by omega) (by omega) (by omega) (by omega) (by omega)
  rw [HE1.out] at HAP1
  rw [HE2.out] at HAP2
  rw [← hLM] at HAP1 HAW1 HL1 HWC HTM HLE
  rw [← hLG] at HAP2 HAW2 HL2 HWC HTL HLE
  obtain ⟨LMM, hLMM⟩ : ∃ l, l = LM.filter fun r => !G1 r := ⟨_, rfl⟩
  obtain ⟨LGG, hLGG⟩ : ∃ l, l = LG.filter fun r => !G2 r := ⟨_, rfl⟩
  rw [← hLMM] at HAP1
  rw [← hLGG] at HAP2
  have HLMM := Lib.hid hLMM
  have HLGG := Lib.hid hLGG
  have HMM : Hid (s'.mm = s.mm ∧ s'.ml = s.ml) := Lib.hid (by rw [HSS.out]; exact ⟨rfl, rfl⟩)
  have HTW : Hid (wentX s' (serX s' m sr a b c now) = .agg #[.int .i64 0, .int .i64 0, .int .i64 0]) := Lib.hid (by have h := ser_twice s m sr a b c now; rwa [← HSX.out] at h)
  clear hLP hLL hLM hLG hLMM hLGG HSS HWX HE0 HE1 HE2
  obtain ⟨r0, r1, -, -⟩ := HG.out.all.cells
  go_wp2_with fail
  refine (HPT.out _ _ HG.out.st.now).mono ?_
  rintro e W15 ⟨vl, rfl, hr, hb⟩
  have HG15 := Lib.hid (HG.out.keep hb)
  have HRL15 : Hid (PtRowB 0 W15 vl LL) := Lib.hid (hr.base (Nat.zero_le _))
  obtain ⟨aL, cL, rfl⟩ := own_slice hr
  clear hr hb HG r0 r1 HPT
  dsimp only
  obtain ⟨r0, r1, -, -⟩ := HG15.out.all.cells
  go_wp2_with fail
  refine (HPW.out _ _ HG15.out.st.was).mono ?_
  rintro e W16 ⟨vw, rfl, hr, hb⟩
  have HG16 := Lib.hid (HG15.out.keep hb)
  have HRL16 : Hid (PtRowB 0 W16 (.slice aL LL.length cL) LL) := Lib.hid (HRL15.out.keep hb)
  have HRW16 : Hid (PtRowB 0 W16 vw LP) := Lib.hid (hr.base (Nat.zero_le _))
  obtain ⟨aW, cW, rfl⟩ := own_slice hr
  have hlp : LP.length ≤ 9223372036854775807 := by have := HLE.out.1; omega
  have hll : LL.length ≤ 9223372036854775807 := by have := HLE.out.1; rw [HLL.out]; have := List.length_filter_le (fun r => !G0 r) LP; omega
  clear hr hb HG15 HRL15 r0 r1 HPW
  dsimp only
  go_wp2_with fail
  go_loopw [20, 108] (fun at_ x_ wr => ∃ k : Nat, k ≤ LP.length ∧ x_ = .int .i64 k ∧ at_ = .int .i64 ((((LP.take k).filter fun r => !G0 r).length : Nat) : Int) ∧ GoS D w wr p s' u s P a b c q g m A1 A2 R C x y z ((((LP.take k).filter G0).length : Nat) : Int) 0 0 ∧ PtRowB 0 wr (.slice aL LL.length cL) LL ∧ PtRowB 0 wr (.slice aW LP.length cW) LP) (fun _ x_ _ => LP.length - (intOf x_).toNat)
  case atStart => exact ⟨0, Nat.zero_le _, rfl, rfl, HG16.out, HRL16.out, HRW16.out⟩
  case round =>
    obtain ⟨k, hk, rfl, rfl, hg, hl, hw⟩ := hrel
    obtain ⟨V, hV⟩ : ∃ V, V = wr := ⟨_, rfl⟩
    subst hV
    clear HG16 HRL16 HRW16
    obtain ⟨F, hF⟩ : ∃ F, F = ((LP.take k).filter fun r => !G0 r).length := ⟨_, rfl⟩
    obtain ⟨K, hK⟩ : ∃ K, K = ((LP.take k).filter G0).length := ⟨_, rfl⟩
    rw [← hF]
    rw [← hK] at hg
    by_cases hlt : k < LP.length
    · have HFB : Hid (F ≤ 256 ∧ K ≤ 256) := Lib.hid (by
        have h1 := List.length_filter_le (fun r => !G0 r) (LP.take k)
        have h2 := List.length_filter_le G0 (LP.take k)
        have h3 := HLE.out.1
        rw [List.length_take] at h1 h2
        omega)
      obtain ⟨t, ht⟩ : ∃ t, LP[k]? = some t := ⟨LP[k], List.getElem?_eq_getElem hlt⟩
      have HGX := Lib.hid (HL0.out t (List.mem_of_getElem? ht))
      have HTB := Lib.hid (HTI.out t (List.mem_of_getElem? ht))
      have HTF := Lib.hid (take_filter ht fun r => !G0 r)
      have HTG := Lib.hid (take_filter ht G0)
      have HLA : Hid (G0 t = false → LL[F]? = some t ∧ F < LL.length) := Lib.hid fun h => by
        rw [HLL.out, hF]
        exact left_at ht (by rw [h]; rfl)
      have HFE0 := Lib.hid hF
      have HKE0 := Lib.hid hK
      obtain ⟨ad, bb, off, cap, e1, hadr, hpts⟩ := hw.plies
      injection e1 with e1 e2 e3
      have ea := hadr (by intro h0; simp [h0] at hlt)
      rw [← e1] at ea
      subst ea
      obtain ⟨x0, x1⟩ := hpts k t ht
      have hmax : k < 9223372036854775807 := by omega
      clear hadr hpts e1 e2 e3 hF hK ht
      go_upto_region 16 with fail
      refine wp_name fun U hU => ?_
      obtain ⟨Q, hQ⟩ : ∃ Q, Q = V.heap.size := ⟨_, rfl⟩
      have hb : Below V.heap.size V U := by rw [hU.out]; exact (Below.refl _ _).alloc (Nat.le_refl _) _
      have hbx : PtAt U Q t := by unfold PtAt; rw [hU.out, hQ]; exact heap_alloc_new V _
      obtain ⟨S, hS⟩ : ∃ S : World → Prop, S = fun W => GoS D w W p s' u s P a b c q g m A1 A2 R C x y z K 0 0 ∧ PtAt W Q t ∧ PtRowB 0 W (.slice aL LL.length cL) LL ∧ PtRowB 0 W (.slice (some ⟨bb, off, none⟩) LP.length cW) LP := ⟨_, rfl⟩
      have HSU : Hid (∀ W, S W → GoS D w W p s' u s P a b c q g m A1 A2 R C x y z K 0 0 ∧ PtAt W Q t ∧ PtRowB 0 W (.slice aL LL.length cL) LL ∧ PtRowB 0 W (.slice (some ⟨bb, off, none⟩) LP.length cW) LP) := Lib.hid fun W h => by rw [hS] at h; exact h
      have HKP : Hid (∀ W W', S W → Below W.heap.size W W' → GoS D w W' p s' u s P a b c q g m A1 A2 R C x y z K 0 0 ∧ PtAt W' Q t ∧ PtRowB 0 W' (.slice aL LL.length cL) LL ∧ PtRowB 0 W' (.slice (some ⟨bb, off, none⟩) LP.length cW) LP) := Lib.hid fun W W' h hb => by
        rw [hS] at h
        exact ⟨h.1.keep hb, (hb.block _ (lt_of_block h.2.1)).trans h.2.1, h.2.2.1.keep hb, h.2.2.2.keep hb⟩
      have HKS : Hid (∀ W W', S W → Below W.heap.size W W' → S W') := Lib.hid fun W W' h hb => by
        have h2 := HKP.out W W' h hb
        rw [hS]; exact h2
      have HZ : Hid (S U) := Lib.hid (by rw [hS]; exact ⟨hg.keep hb, hbx, hl.keep hb, hw.keep hb⟩)
      have HSC : Hid (∀ W, S W → W.cell? ⟨P, 0, none⟩ = some (.int .i64 a) ∧ W.cell? ⟨P, 1, none⟩ = some (.int .i64 b) ∧ W.cell? ⟨P, 2, none⟩ = some (.int .i64 c) ∧ W.cell? ⟨Q, 0, none⟩ = some (.int .i64 t.a)) := Lib.hid fun W h => by
        obtain ⟨h1, h2, -⟩ := HSU.out W h
        exact ⟨h1.st.pol.cells.1, h1.st.pol.cells.2.1, h1.st.pol.cells.2.2.1, (cells2 h2).1⟩
      rw [← hQ]
      clear hU hQ hb hbx hS hg hl hw x0 x1
      obtain ⟨GG, hGG⟩ : ∃ v, v = goesX (ofP a b c 0) (t.a + 1) s.mm now := ⟨_, rfl⟩
      obtain ⟨HB, hHB⟩ : ∃ v, v = m.any (hitX sr t.a (t.a + 1)) := ⟨_, rfl⟩
      have HMK : Hid (∀ W, S W → Calls Tryz.prog 18 #[.pointer (some ⟨u, 0, none⟩), .int .i64 1] W fun e w' => e = .returned (.int .i64 s.mm) ∧ Below W.heap.size W w') := Lib.hid fun W h => D.mark (t := 1) (HSU.out W h).1.st.was (by omega) (by omega)
      have HGS : Hid (∀ W, Calls Tryz.prog 17 #[.agg #[.int .i64 a, .int .i64 b, .int .i64 c], .int .i64 0, .int .i64 (t.a + 1), .int .i64 s.mm, .int .i64 now] W fun e w' => e = .returned (.bool GG) ∧ Below W.heap.size W w') := Lib.hid fun W => by rw [hGG]; exact exgoes_any W a b c 0 (t.a + 1) s.mm now (.inl rfl) ⟨HPR.out.1.1, HPR.out.1.2⟩ HNW.out
      have HHX : Hid (∀ W, S W → Calls Tryz.prog 19 #[.pointer (some ⟨q, 0, none⟩), .string sr, .int .i64 t.a, .int .i64 (t.a + 1)] W fun e w' => e = .returned (.bool HB) ∧ Below W.heap.size W w') := Lib.hid fun W h => by rw [hHB]; exact exheld_any (HSU.out W h).1.st.tab (HSU.out W h).1.st.tok sr t.a (t.a + 1)
      have hlx : lawX m sr (ofP a b c 0) s.mm now t.a 1 = (GG && !HB) := by unfold lawX; rw [← hGG, ← hHB]
      rw [hlx] at HGX
      have hw1 : IntKind.i64.wrap (t.a + 1) = t.a + 1 := by have := HTB.out; rw [IntKind.wrap_i64]; omega
      clear hGG hHB hlx
      have HZ0 := Lib.hid (HKS.out _ _ HZ.out ((Below.refl _ U).drew))
      have HC0 := Lib.hid (HSC.out _ HZ0.out)
      cases GG with
      | true =>
        go_region_held3 (fun w' => w'.cell? ⟨P, 0, none⟩ = some (.int .i64 a) ∧ w'.cell? ⟨P, 1, none⟩ = some (.int .i64 b) ∧ w'.cell? ⟨P, 2, none⟩ = some (.int .i64 c) ∧ w'.cell? ⟨Q, 0, none⟩ = some (.int .i64 t.a)) (first | with_reducible exact HC0.out | with_reducible exact HC1.out | with_reducible exact HC2.out | with_reducible exact HC3.out) (((first | (go_at_call 18; refine (HMK.out _ HZ0.out).mono ?_; clear HMK; rintro e U1 ⟨rfl, hb⟩; have HZ1 := Lib.hid (HKS.out _ _ HZ0.out hb); have HC1 := Lib.hid (HSC.out _ HZ1.out); clear hb) | (go_at_call 17; refine (HGS.out _).mono ?_; clear HGS; rintro e U2 ⟨rfl, hb⟩; have HZ2 := Lib.hid (HKS.out _ _ HZ1.out hb); have HC2 := Lib.hid (HSC.out _ HZ2.out); clear hb) | (go_at_call 19; refine (HHX.out _ HZ2.out).mono ?_; clear HHX; rintro e U3 ⟨rfl, hb⟩; have HZ3 := Lib.hid (HKS.out _ _ HZ2.out hb); have HC3 := Lib.hid (HSC.out _ HZ3.out); clear hb)); dsimp only))
        clear HC0 HC1 HC2 HC3 HZ HZ0 HZ1 HZ2 hw1
        cases HB with
        | false =>
          have HGT : Hid (G0 t = true) := Lib.hid (by rw [HGX.out]; rfl)
          obtain ⟨hgs, -, hrl, hrw⟩ := HSU.out _ HZ3.out
          have HGN := Lib.hid hgs
          have HRL := Lib.hid hrl
          have HRW := Lib.hid hrw
          obtain ⟨z0, z1, z2, f0, f1, f2⟩ := cells3 hgs.want
          have hfw : IntKind.i64.wrap ((K : Int) + 1) = K + 1 := by have := HFB.out; rw [IntKind.wrap_i64]; omega
          clear hgs hrl hrw
          go_wp2_with fail
          generalize hW9 : World.setCell _ _ _ = V9
          have HG9 : Hid (GoS D w V9 p s' u s P a b c q g m A1 A2 R C x y z ((K : Int) + 1) 0 0) := Lib.hid (HGN.out.set (i := 0) hW9.symm rfl)
          have HRL9 : Hid (PtRowB 0 V9 (.slice aL LL.length cL) LL) := Lib.hid (by rw [← hW9]; exact HGN.out.rows HRL.out 0 _)
          have HRW9 : Hid (PtRowB 0 V9 (.slice (some ⟨bb, off, none⟩) LP.length cW) LP) := Lib.hid (by rw [← hW9]; exact HGN.out.rows HRW.out 0 _)
          clear hW9 z0 z1 z2 f0 f1 f2 HGN HRL HRW
          go_roundw
          case rel =>
            exact ⟨k + 1, by omega, by go_num, by rw [HTF.out, HGT.out]; simp [← HFE0.out], by rw [HTG.out, HGT.out]; simpa [← HKE0.out] using HG9.out, HRL9.out, HRW9.out⟩
          case measure => simp [intOf]; omega
        | true =>
          have HGF : Hid (G0 t = false) := Lib.hid (by rw [HGX.out]; rfl)
          obtain ⟨hla, hfl⟩ := HLA.out HGF.out
          obtain ⟨hgs, hbx, hrl, hrw⟩ := HSU.out _ HZ3.out
          obtain ⟨ad', bb', off', cap', e1', hadr', hpts'⟩ := hrl.plies
          injection e1' with e1' e2' e3'
          have ea' := hadr' (by intro h0; simp [h0] at hfl)
          rw [← e1'] at ea'
          subst ea'
          obtain ⟨y0, y1⟩ := hpts' F t hla
          obtain ⟨z0, z1, -, -⟩ := cells2 hbx
          have hge : decide ((LL.length : Int) ≤ F) = false := decide_eq_false (by omega)
          have hfw : IntKind.i64.wrap ((F : Int) + 1) = F + 1 := by have := HFB.out; rw [IntKind.wrap_i64]; omega
          clear hla hgs hrl hrw hpts' e1' e2' e3' hadr'
          go_upto_region 18 with fail
          go_quiet (fail)
          go_wp2_with fail
          go_roundw
          case rel =>
            obtain ⟨hgs, -, hrl, hrw⟩ := HKP.out _ _ HZ3.out (below_drewN (Below.refl _ _) nq)
            exact ⟨k + 1, by omega, by go_num, by rw [HTF.out, HGF.out]; simp [← HFE0.out], by rw [HTG.out, HGF.out]; simpa [← HKE0.out] using hgs, hrl, hrw⟩
          case measure => simp [intOf]; omega
      | false =>
        refine wp_region_held_drew (S := S) (by kernel_rfl) HZ0.out (fun _ => ?_)
        refine anyH_take (i := 0) (some 112) (v := _) rfl rfl (by kernel_rfl) (by kernel_rfl) (by kernel_rfl) (fun _ _ _ h => h) (by rfl) (HZ0.out) (by intro w hSw; obtain ⟨q0, q1, q2, q3⟩ := HSC.out _ hSw; go_simp; try with_reducible rfl) ?_
        (try simp only [Act.put, List.setIfInBounds_toArray, List.set_cons_zero, List.set_cons_succ])
        refine anyH_take (i := 1) (some 113) (v := _) rfl rfl (by kernel_rfl) (by kernel_rfl) (by kernel_rfl) (fun _ _ _ h => h) (by rfl) (HZ0.out) (by intro w hSw; obtain ⟨q0, q1, q2, q3⟩ := HSC.out _ hSw; go_simp; try with_reducible rfl) ?_
        (try simp only [Act.put, List.setIfInBounds_toArray, List.set_cons_zero, List.set_cons_succ])
        refine anyH_take (i := 2) (some 114) (v := _) rfl rfl (by kernel_rfl) (by kernel_rfl) (by kernel_rfl) (fun _ _ _ h => h) (by rfl) (HZ0.out) (by intro w hSw; obtain ⟨q0, q1, q2, q3⟩ := HSC.out _ hSw; go_simp; try with_reducible rfl) ?_
        (try simp only [Act.put, List.setIfInBounds_toArray, List.set_cons_zero, List.set_cons_succ])
        refine anyH_take (i := 3) (some 115) (v := _) rfl rfl (by kernel_rfl) (by kernel_rfl) (by kernel_rfl) (fun _ _ _ h => h) (by rfl) (HZ0.out) (by intro w hSw; obtain ⟨q0, q1, q2, q3⟩ := HSC.out _ hSw; go_simp; try with_reducible rfl) ?_
        (try simp only [Act.put, List.setIfInBounds_toArray, List.set_cons_zero, List.set_cons_succ])
        refine anyH_take (i := 4) (some 116) (v := _) rfl rfl (by kernel_rfl) (by kernel_rfl) (by kernel_rfl) (fun _ _ _ h => h) (by rfl) (HZ0.out) (by intro w hSw; obtain ⟨q0, q1, q2, q3⟩ := HSC.out _ hSw; go_simp; try with_reducible rfl) ?_
        (try simp only [Act.put, List.setIfInBounds_toArray, List.set_cons_zero, List.set_cons_succ])
        refine anyH_take (i := 6) (some 118) (v := _) rfl rfl (by kernel_rfl) (by kernel_rfl) (by kernel_rfl) (fun _ _ _ h => h) (by rfl) (HZ0.out) (by intro w hSw; obtain ⟨q0, q1, q2, q3⟩ := HSC.out _ hSw; go_simp; try with_reducible rfl) ?_
        (try simp only [Act.put, List.setIfInBounds_toArray, List.set_cons_zero, List.set_cons_succ])
        refine wpAnyH_ready (rs := [5]) (by kernel_rfl) (by simp) (AllReadyH.cons rfl (fun K hK => ?_) AllReadyH.nil)
        go_simp
        refine (HMK.out _ HZ0.out).mono ?_
        rintro e U1 ⟨rfl, hb⟩
        have HZ1 := Lib.hid (HKS.out _ _ HZ0.out hb)
        clear hb
        go_wp2_with fail
        refine hK.out _ _ (HZ1.out) (fun _ => ?_)
        clear hK K
        (try simp only [Act.put, List.setIfInBounds_toArray, List.set_cons_zero, List.set_cons_succ])
        refine wpAnyH_ready (rs := [7]) (by kernel_rfl) (by simp) (AllReadyH.cons rfl (fun K hK => ?_) AllReadyH.nil)
        go_simp
        refine (HGS.out _).mono ?_
        rintro e U2 ⟨rfl, hb⟩
        have HZ2 := Lib.hid (HKS.out _ _ HZ1.out hb)
        clear hb
        go_wp2_with fail
        refine hK.out _ _ (HZ2.out) (fun _ => ?_)
        clear hK K
        (try simp only [Act.put, List.setIfInBounds_toArray, List.set_cons_zero, List.set_cons_succ])
        refine anyH_take (i := 8) (some 120) (v := _) rfl rfl (by kernel_rfl) (by kernel_rfl) (by kernel_rfl) (fun _ _ _ h => h) (by rfl) (HZ2.out) (by intro w hSw; obtain ⟨q0, q1, q2, q3⟩ := HSC.out _ hSw; go_simp; try with_reducible rfl) ?_
        (try simp only [Act.put, List.setIfInBounds_toArray, List.set_cons_zero, List.set_cons_succ])
        refine anyH_skip (i := 9) (some 121) rfl rfl (by kernel_rfl) (by kernel_rfl) (by kernel_rfl) (fun _ _ _ h => h) (by rfl) (HZ2.out) ?_
        (try simp only [Act.put, List.setIfInBounds_toArray, List.set_cons_zero, List.set_cons_succ])
        refine anyH_skip (i := 10) (some 122) rfl rfl (by kernel_rfl) (by kernel_rfl) (by kernel_rfl) (fun _ _ _ h => h) (by rfl) (HZ2.out) ?_
        (try simp only [Act.put, List.setIfInBounds_toArray, List.set_cons_zero, List.set_cons_succ])
        refine anyH_skip (i := 11) (some 123) rfl rfl (by kernel_rfl) (by kernel_rfl) (by kernel_rfl) (fun _ _ _ h => h) (by rfl) (HZ2.out) ?_
        (try simp only [Act.put, List.setIfInBounds_toArray, List.set_cons_zero, List.set_cons_succ])
        refine anyH_skip (i := 12) (some 124) rfl rfl (by kernel_rfl) (by kernel_rfl) (by kernel_rfl) (fun _ _ _ h => h) (by rfl) (HZ2.out) ?_
        (try simp only [Act.put, List.setIfInBounds_toArray, List.set_cons_zero, List.set_cons_succ])
        refine anyH_skip (i := 13) (some 125) rfl rfl (by kernel_rfl) (by kernel_rfl) (by kernel_rfl) (fun _ _ _ h => h) (by rfl) (HZ2.out) ?_
        (try simp only [Act.put, List.setIfInBounds_toArray, List.set_cons_zero, List.set_cons_succ])
        refine anyH_skip (i := 14) (some 126) rfl rfl (by kernel_rfl) (by kernel_rfl) (by kernel_rfl) (fun _ _ _ h => h) (by rfl) (HZ2.out) ?_
        (try simp only [Act.put, List.setIfInBounds_toArray, List.set_cons_zero, List.set_cons_succ])
        refine anyH_skip (i := 15) (some 127) rfl rfl (by kernel_rfl) (by kernel_rfl) (by kernel_rfl) (fun _ _ _ h => h) (by rfl) (HZ2.out) ?_
        (try simp only [Act.put, List.setIfInBounds_toArray, List.set_cons_zero, List.set_cons_succ])
        refine anyH_skip (i := 16) (some 128) rfl rfl (by kernel_rfl) (by kernel_rfl) (by kernel_rfl) (fun _ _ _ h => h) (by rfl) (HZ2.out) ?_
        (try simp only [Act.put, List.setIfInBounds_toArray, List.set_cons_zero, List.set_cons_succ])
        refine anyH_skip (i := 17) (some 129) rfl rfl (by kernel_rfl) (by kernel_rfl) (by kernel_rfl) (fun _ _ _ h => h) (by rfl) (HZ2.out) ?_
        (try simp only [Act.put, List.setIfInBounds_toArray, List.set_cons_zero, List.set_cons_succ])
        refine anyH_take (i := 18) (some 130) (v := _) rfl rfl (by kernel_rfl) (by kernel_rfl) (by kernel_rfl) (fun _ _ _ h => h) (by rfl) (HZ2.out) (by intro w hSw; obtain ⟨q0, q1, q2, q3⟩ := HSC.out _ hSw; go_simp; try with_reducible rfl) ?_
        (try simp only [Act.put, List.setIfInBounds_toArray, List.set_cons_zero, List.set_cons_succ])
        refine wpAnyH_done (by kernel_rfl) ?_ _
        clear HC0 HZ HZ0 HZ1 hw1
        have HGF : Hid (G0 t = false) := Lib.hid (by rw [HGX.out]; rfl)
        obtain ⟨hla, hfl⟩ := HLA.out HGF.out
        obtain ⟨hgs, hbx, hrl, hrw⟩ := HSU.out _ HZ2.out
        obtain ⟨ad', bb', off', cap', e1', hadr', hpts'⟩ := hrl.plies
        injection e1' with e1' e2' e3'
        have ea' := hadr' (by intro h0; simp [h0] at hfl)
        rw [← e1'] at ea'
        subst ea'
        obtain ⟨y0, y1⟩ := hpts' F t hla
        obtain ⟨z0, z1, -, -⟩ := cells2 hbx
        have hge : decide ((LL.length : Int) ≤ F) = false := decide_eq_false (by omega)
        have hfw : IntKind.i64.wrap ((F : Int) + 1) = F + 1 := by have := HFB.out; rw [IntKind.wrap_i64]; omega
        clear hla hgs hrl hrw hpts' e1' e2' e3' hadr'
        go_upto_region 18 with fail
        go_quiet (fail)
        go_wp2_with fail
        go_roundw
        case rel =>
          obtain ⟨hgs, -, hrl, hrw⟩ := HKP.out _ _ HZ2.out (below_drewN (Below.refl _ _) nq)
          exact ⟨k + 1, by omega, by go_num, by rw [HTF.out, HGF.out]; simp [← HFE0.out], by rw [HTG.out, HGF.out]; simpa [← HKE0.out] using hgs, hrl, hrw⟩
        case measure => simp [intOf]; omega
    · have hFL : F = LL.length := by rw [hF, HLL.out, List.take_of_length_le (by omega)]
      have HKL : Hid (K = (LP.filter G0).length) := Lib.hid (by rw [hK, List.take_of_length_le (by omega)])
      clear hF hK
      subst hFL
      have HG17 := Lib.hid hg
      clear hg hl hw
      go_wp2_with fail
      clear hlt hk
      obtain ⟨N, hN⟩ : ∃ N, N = V.heap.size := ⟨_, rfl⟩
      generalize hW17 : World.alloc _ _ = W17
      have hb : Below V.heap.size V W17 := by rw [← hW17]; exact (Below.refl _ _).alloc (Nat.le_refl _) _
      have HN18 : Hid (W17.heap[N]? = some (.cells #[.int .i64 0, .int .i64 300, .int .i64 3600] 2 (0, 0))) := Lib.hid (by rw [← hW17, hN]; exact heap_alloc_new V _)
      have HG18 := Lib.hid (HG17.out.keep hb)
      rw [← hN]
      clear hW17 hb hN HG17
      refine wp_loop_rounds 4 ?_
      rw [rounds_succ]
      obtain ⟨m0, m1, m2, -, -, -⟩ := cells3 HN18.out
      go_wp2_with fail
      clear m0 m1 m2
      rw [rounds_succ]
      obtain ⟨m0, m1, m2, -, -, -⟩ := cells3 HN18.out
      have HMK1 := Lib.hid (D.mark (t := 2) HG18.out.st.was (by omega) (by omega))
      go_wp2_with fail
      refine HMK1.out.mono ?_
      rintro e Y11 ⟨rfl, hb⟩
      have HGa := Lib.hid (HG18.out.keep hb)
      have HNa : Hid (Y11.heap[N]? = some (.cells #[.int .i64 0, .int .i64 300, .int .i64 3600] 2 (0, 0))) := Lib.hid ((hb.block _ (lt_of_block HN18.out)).trans HN18.out)
      clear hb HG18 HN18 HMK1 m0 m1 m2
      rw [show markT s 2 = s.ml from rfl]
      dsimp only
      obtain ⟨r0, r1, -, -⟩ := HGa.out.all.cells
      go_wp2_with fail
      refine (HAP1.out _ _ HGa.out.st.now).mono ?_
      rintro e Y12 ⟨vl, rfl, hr, hb⟩
      have HGb := Lib.hid (HGa.out.keep hb)
      have HNb : Hid (Y12.heap[N]? = some (.cells #[.int .i64 0, .int .i64 300, .int .i64 3600] 2 (0, 0))) := Lib.hid ((hb.block _ (lt_of_block HNa.out)).trans HNa.out)
      have HRLb : Hid (AgRow 0 Y12 vl LMM) := Lib.hid (hr.base (Nat.zero_le _))
      obtain ⟨aL1, cL1, rfl⟩ := own_slice hr
      clear hr hb HGa HNa r0 r1 HAP1
      dsimp only
      obtain ⟨r0, r1, -, -⟩ := HGb.out.all.cells
      go_wp2_with fail
      refine (HAW1.out _ _ HGb.out.st.was).mono ?_
      rintro e Y13 ⟨vw, rfl, hr, hb⟩
      have HGc := Lib.hid (HGb.out.keep hb)
      have HNc : Hid (Y13.heap[N]? = some (.cells #[.int .i64 0, .int .i64 300, .int .i64 3600] 2 (0, 0))) := Lib.hid ((hb.block _ (lt_of_block HNb.out)).trans HNb.out)
      have HRLc : Hid (AgRow 0 Y13 (.slice aL1 LMM.length cL1) LMM) := Lib.hid (AgRow.keep HRLb.out hb)
      have HRWc : Hid (AgRow 0 Y13 vw LM) := Lib.hid (hr.base (Nat.zero_le _))
      obtain ⟨aW1, cW1, rfl⟩ := own_slice hr
      have hlp1 : LM.length ≤ 9223372036854775807 := by have := HLE.out.2.1; omega
      have hll1 : LMM.length ≤ 9223372036854775807 := by have := HLE.out.2.1; rw [HLMM.out]; have := List.length_filter_le (fun r => !G1 r) LM; omega
      clear hr hb HGb HNb HRLb r0 r1 HAW1
      dsimp only
      go_wp2_with fail
      go_loopw [27, 176] (fun at_ x_ wr => ∃ k : Nat, k ≤ LM.length ∧ x_ = .int .i64 k ∧ at_ = .int .i64 ((((LM.take k).filter fun r => !G1 r).length : Nat) : Int) ∧ GoS D w wr p s' u s P a b c q g m A1 A2 R C x y z K ((((LM.take k).filter G1).length : Nat) : Int) 0 ∧ AgRow 0 wr (.slice aL1 LMM.length cL1) LMM ∧ AgRow 0 wr (.slice aW1 LM.length cW1) LM ∧ wr.heap[N]? = some (.cells #[.int .i64 0, .int .i64 300, .int .i64 3600] 2 (0, 0))) (fun _ x_ _ => LM.length - (intOf x_).toNat)
      case atStart => exact ⟨0, Nat.zero_le _, rfl, rfl, HGc.out, HRLc.out, HRWc.out, HNc.out⟩
      case round =>
        obtain ⟨k, hk, rfl, rfl, hg, hl, hw, hn⟩ := hrel
        obtain ⟨V1, hV⟩ : ∃ V, V = wr := ⟨_, rfl⟩
        subst hV
        clear HGc HRLc HRWc HNc
        obtain ⟨F, hF⟩ : ∃ F, F = ((LM.take k).filter fun r => !G1 r).length := ⟨_, rfl⟩
        obtain ⟨K1, hK⟩ : ∃ K, K = ((LM.take k).filter G1).length := ⟨_, rfl⟩
        rw [← hF]
        rw [← hK] at hg
        by_cases hlt : k < LM.length
        · have HFB : Hid (F ≤ 256 ∧ K1 ≤ 256) := Lib.hid (by
            have h1 := List.length_filter_le (fun r => !G1 r) (LM.take k)
            have h2 := List.length_filter_le G1 (LM.take k)
            have h3 := HLE.out.2.1
            rw [List.length_take] at h1 h2
            omega)
          obtain ⟨t, ht⟩ : ∃ t, LM[k]? = some t := ⟨LM[k], List.getElem?_eq_getElem hlt⟩
          have HGX := Lib.hid (HL1.out t (List.mem_of_getElem? ht))
          have HTB := Lib.hid (HTM.out t (List.mem_of_getElem? ht))
          have HTF := Lib.hid (take_filter ht fun r => !G1 r)
          have HTG := Lib.hid (take_filter ht G1)
          have HLA : Hid (G1 t = false → LMM[F]? = some t ∧ F < LMM.length) := Lib.hid fun h => by
            rw [HLMM.out, hF]
            exact left_at ht (by rw [h]; rfl)
          have HFE0 := Lib.hid hF
          have HKE0 := Lib.hid hK
          obtain ⟨ad, bb, off, cap, e1, hadr, hpts⟩ := AgRow.lies hw
          injection e1 with e1 e2 e3
          have ea := hadr (by intro h0; simp [h0] at hlt)
          rw [← e1] at ea
          subst ea
          obtain ⟨x0, x1, x2, x3, x4⟩ := hpts k t ht
          have hmax : k < 9223372036854775807 := by omega
          clear hadr hpts e1 e2 e3 hF hK ht
          go_upto_region 36 with fail
          refine wp_name fun U hU => ?_
          obtain ⟨Q, hQ⟩ : ∃ Q, Q = V1.heap.size := ⟨_, rfl⟩
          have hb : Below V1.heap.size V1 U := by rw [hU.out]; exact (Below.refl _ _).alloc (Nat.le_refl _) _
          have hbx : AgAt U Q t := by unfold AgAt; rw [hU.out, hQ]; exact heap_alloc_new V1 _
          obtain ⟨S, hS⟩ : ∃ S : World → Prop, S = fun W => GoS D w W p s' u s P a b c q g m A1 A2 R C x y z K K1 0 ∧ AgAt W Q t ∧ AgRow 0 W (.slice aL1 LMM.length cL1) LMM ∧ AgRow 0 W (.slice (some ⟨bb, off, none⟩) LM.length cW1) LM ∧ W.heap[N]? = some (.cells #[.int .i64 0, .int .i64 300, .int .i64 3600] 2 (0, 0)) := ⟨_, rfl⟩
          have HSU : Hid (∀ W, S W → GoS D w W p s' u s P a b c q g m A1 A2 R C x y z K K1 0 ∧ AgAt W Q t ∧ AgRow 0 W (.slice aL1 LMM.length cL1) LMM ∧ AgRow 0 W (.slice (some ⟨bb, off, none⟩) LM.length cW1) LM ∧ W.heap[N]? = some (.cells #[.int .i64 0, .int .i64 300, .int .i64 3600] 2 (0, 0))) := Lib.hid fun W h => by rw [hS] at h; exact h
          have HKP : Hid (∀ W W', S W → Below W.heap.size W W' → GoS D w W' p s' u s P a b c q g m A1 A2 R C x y z K K1 0 ∧ AgAt W' Q t ∧ AgRow 0 W' (.slice aL1 LMM.length cL1) LMM ∧ AgRow 0 W' (.slice (some ⟨bb, off, none⟩) LM.length cW1) LM ∧ W'.heap[N]? = some (.cells #[.int .i64 0, .int .i64 300, .int .i64 3600] 2 (0, 0))) := Lib.hid fun W W' h hb => by
            rw [hS] at h
            exact ⟨h.1.keep hb, (hb.block _ (lt_of_block h.2.1)).trans h.2.1, AgRow.keep h.2.2.1 hb, AgRow.keep h.2.2.2.1 hb, (hb.block _ (lt_of_block h.2.2.2.2)).trans h.2.2.2.2⟩
          have HKS : Hid (∀ W W', S W → Below W.heap.size W W' → S W') := Lib.hid fun W W' h hb => by
            have h2 := HKP.out W W' h hb
            rw [hS]; exact h2
          have HZ : Hid (S U) := Lib.hid (by rw [hS]; exact ⟨hg.keep hb, hbx, AgRow.keep hl hb, AgRow.keep hw hb, (hb.block _ (lt_of_block hn)).trans hn⟩)
          have HSC : Hid (∀ W, S W → W.cell? ⟨P, 0, none⟩ = some (.int .i64 a) ∧ W.cell? ⟨P, 1, none⟩ = some (.int .i64 b) ∧ W.cell? ⟨P, 2, none⟩ = some (.int .i64 c) ∧ W.cell? ⟨Q, 0, none⟩ = some (.int .i64 t.at_)) := Lib.hid fun W h => by
            obtain ⟨h1, h2, -⟩ := HSU.out W h
            exact ⟨h1.st.pol.cells.1, h1.st.pol.cells.2.1, h1.st.pol.cells.2.2.1, (AgAt.cells h2).1⟩
          rw [← hQ]
          clear hU hQ hb hbx hS hg hl hw hn x0 x1 x2 x3 x4
          obtain ⟨GG, hGG⟩ : ∃ v, v = goesX (ofP a b c 1) (t.at_ + 300) s.ml now := ⟨_, rfl⟩
          obtain ⟨HB, hHB⟩ : ∃ v, v = m.any (hitX sr t.at_ (t.at_ + 300)) := ⟨_, rfl⟩
          have HGS : Hid (∀ W, Calls Tryz.prog 17 #[.agg #[.int .i64 a, .int .i64 b, .int .i64 c], .int .i64 1, .int .i64 (t.at_ + 300), .int .i64 s.ml, .int .i64 now] W fun e w' => e = .returned (.bool GG) ∧ Below W.heap.size W w') := Lib.hid fun W => by rw [hGG]; exact exgoes_any W a b c 1 (t.at_ + 300) s.ml now (by omega) HPR.out.2.1 HNW.out
          have HHX : Hid (∀ W, S W → Calls Tryz.prog 19 #[.pointer (some ⟨q, 0, none⟩), .string sr, .int .i64 t.at_, .int .i64 (t.at_ + 300)] W fun e w' => e = .returned (.bool HB) ∧ Below W.heap.size W w') := Lib.hid fun W h => by rw [hHB]; exact exheld_any (HSU.out W h).1.st.tab (HSU.out W h).1.st.tok sr t.at_ (t.at_ + 300)
          have hlx : lawX m sr (ofP a b c 1) s.ml now t.at_ 300 = (GG && !HB) := by unfold lawX; rw [← hGG, ← hHB]
          rw [hlx] at HGX
          have hw1 : IntKind.i64.wrap (t.at_ + 300) = t.at_ + 300 := by have := HTB.out; rw [IntKind.wrap_i64]; omega
          clear hGG hHB hlx
          obtain ⟨p0, p1, p2, q0⟩ := HSC.out _ HZ.out
          go_wp2_with fail
          refine (HGS.out U).mono ?_
          rintro e U1 ⟨rfl, hb⟩
          have HZ1 := Lib.hid (HKS.out _ _ HZ.out hb)
          clear hb p0 p1 p2 q0 HGS HZ
          dsimp only
          cases GG with
          | true =>
            obtain ⟨-, -, -, q0⟩ := HSC.out _ HZ1.out
            go_wp2_with fail
            refine (HHX.out U1 HZ1.out).mono ?_
            rintro e U2 ⟨rfl, hb⟩
            have HZ2 := Lib.hid (HKS.out _ _ HZ1.out hb)
            clear hb q0 HHX HZ1 hw1
            dsimp only
            cases HB with
            | false =>
              have HGT : Hid (G1 t = true) := Lib.hid (by rw [HGX.out]; rfl)
              obtain ⟨hgs, -, hrl, hrw, hnn⟩ := HSU.out _ HZ2.out
              have HGN := Lib.hid hgs
              have HRL := Lib.hid hrl
              have HRW := Lib.hid hrw
              have HNN := Lib.hid hnn
              obtain ⟨z0, z1, z2, f0, f1, f2⟩ := cells3 hgs.want
              have hfw : IntKind.i64.wrap ((K1 : Int) + 1) = K1 + 1 := by have := HFB.out; rw [IntKind.wrap_i64]; omega
              clear hgs hrl hrw hnn
              go_wp2_with fail
              generalize hW9 : World.setCell _ _ _ = V9
              have HG9 : Hid (GoS D w V9 p s' u s P a b c q g m A1 A2 R C x y z K ((K1 : Int) + 1) 0) := Lib.hid (HGN.out.set (i := 1) hW9.symm rfl)
              have HRL9 : Hid (AgRow 0 V9 (.slice aL1 LMM.length cL1) LMM) := Lib.hid (by rw [← hW9]; exact HGN.out.arows HRL.out 1 _)
              have HRW9 : Hid (AgRow 0 V9 (.slice (some ⟨bb, off, none⟩) LM.length cW1) LM) := Lib.hid (by rw [← hW9]; exact HGN.out.arows HRW.out 1 _)
              have HN9 : Hid (V9.heap[N]? = some (.cells #[.int .i64 0, .int .i64 300, .int .i64 3600] 2 (0, 0))) := Lib.hid (by rw [← hW9]; exact HGN.out.other HNN.out (by decide) 1 _)
              clear hW9 z0 z1 z2 f0 f1 f2 HGN HRL HRW HNN
              go_roundw
              case rel =>
                exact ⟨k + 1, by omega, by go_num, by rw [HTF.out, HGT.out]; simp [← HFE0.out], by rw [HTG.out, HGT.out]; simpa [← HKE0.out] using HG9.out, HRL9.out, HRW9.out, HN9.out⟩
              case measure => simp [intOf]; omega
            | true =>
              have HGF : Hid (G1 t = false) := Lib.hid (by rw [HGX.out]; rfl)
              obtain ⟨hla, hfl⟩ := HLA.out HGF.out
              obtain ⟨hgs, hbx, hrl, hrw, hnn⟩ := HSU.out _ HZ2.out
              obtain ⟨ad', bb', off', cap', e1', hadr', hpts'⟩ := AgRow.lies hrl
              injection e1' with e1' e2' e3'
              have ea' := hadr' (by intro h0; simp [h0] at hfl)
              rw [← e1'] at ea'
              subst ea'
              obtain ⟨y0, y1, y2, y3, y4⟩ := hpts' F t hla
              obtain ⟨z0, z1, z2, z3, z4, -, -, -, -, -⟩ := AgAt.cells hbx
              have hge : decide ((LMM.length : Int) ≤ F) = false := decide_eq_false (by omega)
              have hfw : IntKind.i64.wrap ((F : Int) + 1) = F + 1 := by have := HFB.out; rw [IntKind.wrap_i64]; omega
              clear hla hgs hrl hrw hpts' e1' e2' e3' hadr' hnn
              go_upto_region 38 with fail
              go_quiet (fail)
              go_wp2_with fail
              go_roundw
              case rel =>
                obtain ⟨hgs, -, hrl, hrw, hnn⟩ := HKP.out _ _ HZ2.out (below_drewN (Below.refl _ _) nq)
                exact ⟨k + 1, by omega, by go_num, by rw [HTF.out, HGF.out]; simp [← HFE0.out], by rw [HTG.out, HGF.out]; simpa [← HKE0.out] using hgs, hrl, hrw, hnn⟩
              case measure => simp [intOf]; omega
          | false =>
            clear hw1
            have HGF : Hid (G1 t = false) := Lib.hid (by rw [HGX.out]; rfl)
            obtain ⟨hla, hfl⟩ := HLA.out HGF.out
            obtain ⟨hgs, hbx, hrl, hrw, hnn⟩ := HSU.out _ HZ1.out
            obtain ⟨ad', bb', off', cap', e1', hadr', hpts'⟩ := AgRow.lies hrl
            injection e1' with e1' e2' e3'
            have ea' := hadr' (by intro h0; simp [h0] at hfl)
            rw [← e1'] at ea'
            subst ea'
            obtain ⟨y0, y1, y2, y3, y4⟩ := hpts' F t hla
            obtain ⟨z0, z1, z2, z3, z4, -, -, -, -, -⟩ := AgAt.cells hbx
            have hge : decide ((LMM.length : Int) ≤ F) = false := decide_eq_false (by omega)
            have hfw : IntKind.i64.wrap ((F : Int) + 1) = F + 1 := by have := HFB.out; rw [IntKind.wrap_i64]; omega
            clear hla hgs hrl hrw hpts' e1' e2' e3' hadr' hnn
            go_upto_region 38 with fail
            go_quiet (fail)
            go_wp2_with fail
            go_roundw
            case rel =>
              obtain ⟨hgs, -, hrl, hrw, hnn⟩ := HKP.out _ _ HZ1.out (below_drewN (Below.refl _ _) nq)
              exact ⟨k + 1, by omega, by go_num, by rw [HTF.out, HGF.out]; simp [← HFE0.out], by rw [HTG.out, HGF.out]; simpa [← HKE0.out] using hgs, hrl, hrw, hnn⟩
            case measure => simp [intOf]; omega
        · have hFL : F = LMM.length := by rw [hF, HLMM.out, List.take_of_length_le (by omega)]
          have HKL1 : Hid (K1 = (LM.filter G1).length) := Lib.hid (by rw [hK, List.take_of_length_le (by omega)])
          have HG20 := Lib.hid hg
          have HN20 := Lib.hid hn
          subst hFL
          clear hF hK hg hl hw hn
          go_wp2_with fail
          clear hlt hk
          rw [rounds_succ]
          obtain ⟨m0, m1, m2, -, -, -⟩ := cells3 HN20.out
          have HMK2 := Lib.hid (D.mark (t := 2) HG20.out.st.was (by omega) (by omega))
          go_wp2_with fail
          refine HMK2.out.mono ?_
          rintro e Y21 ⟨rfl, hb⟩
          have HGa := Lib.hid (HG20.out.keep hb)
          have HNa : Hid (Y21.heap[N]? = some (.cells #[.int .i64 0, .int .i64 300, .int .i64 3600] 2 (0, 0))) := Lib.hid ((hb.block _ (lt_of_block HN20.out)).trans HN20.out)
          clear hb HG20 HN20 HMK2 m0 m1 m2
          rw [show markT s 2 = s.ml from rfl]
          dsimp only
          obtain ⟨r0, r1, -, -⟩ := HGa.out.all.cells
          go_wp2_with fail
          refine (HAP2.out _ _ HGa.out.st.now).mono ?_
          rintro e Y22 ⟨vl, rfl, hr, hb⟩
          have HGb := Lib.hid (HGa.out.keep hb)
          have HNb : Hid (Y22.heap[N]? = some (.cells #[.int .i64 0, .int .i64 300, .int .i64 3600] 2 (0, 0))) := Lib.hid ((hb.block _ (lt_of_block HNa.out)).trans HNa.out)
          have HRLb : Hid (AgRow 0 Y22 vl LGG) := Lib.hid (hr.base (Nat.zero_le _))
          obtain ⟨aL2, cL2, rfl⟩ := own_slice hr
          clear hr hb HGa HNa r0 r1 HAP2
          dsimp only
          obtain ⟨r0, r1, -, -⟩ := HGb.out.all.cells
          go_wp2_with fail
          refine (HAW2.out _ _ HGb.out.st.was).mono ?_
          rintro e Y23 ⟨vw, rfl, hr, hb⟩
          have HGc := Lib.hid (HGb.out.keep hb)
          have HNc : Hid (Y23.heap[N]? = some (.cells #[.int .i64 0, .int .i64 300, .int .i64 3600] 2 (0, 0))) := Lib.hid ((hb.block _ (lt_of_block HNb.out)).trans HNb.out)
          have HRLc : Hid (AgRow 0 Y23 (.slice aL2 LGG.length cL2) LGG) := Lib.hid (AgRow.keep HRLb.out hb)
          have HRWc : Hid (AgRow 0 Y23 vw LG) := Lib.hid (hr.base (Nat.zero_le _))
          obtain ⟨aW2, cW2, rfl⟩ := own_slice hr
          have hlp2 : LG.length ≤ 9223372036854775807 := by have := HLE.out.2.2; omega
          have hll2 : LGG.length ≤ 9223372036854775807 := by have := HLE.out.2.2; rw [HLGG.out]; have := List.length_filter_le (fun r => !G2 r) LG; omega
          clear hr hb HGb HNb HRLb r0 r1 HAW2
          dsimp only
          go_wp2_with fail
          go_loopw [27, 176] (fun at_ x_ wr => ∃ k : Nat, k ≤ LG.length ∧ x_ = .int .i64 k ∧ at_ = .int .i64 ((((LG.take k).filter fun r => !G2 r).length : Nat) : Int) ∧ GoS D w wr p s' u s P a b c q g m A1 A2 R C x y z K K1 ((((LG.take k).filter G2).length : Nat) : Int) ∧ AgRow 0 wr (.slice aL2 LGG.length cL2) LGG ∧ AgRow 0 wr (.slice aW2 LG.length cW2) LG ∧ wr.heap[N]? = some (.cells #[.int .i64 0, .int .i64 300, .int .i64 3600] 2 (0, 0))) (fun _ x_ _ => LG.length - (intOf x_).toNat)
          case atStart => exact ⟨0, Nat.zero_le _, rfl, rfl, HGc.out, HRLc.out, HRWc.out, HNc.out⟩
          case round =>
            obtain ⟨k, hk, rfl, rfl, hg, hl, hw, hn⟩ := hrel
            obtain ⟨V2, hV⟩ : ∃ V, V = wr := ⟨_, rfl⟩
            subst hV
            clear HGc HRLc HRWc HNc
            obtain ⟨F, hF⟩ : ∃ F, F = ((LG.take k).filter fun r => !G2 r).length := ⟨_, rfl⟩
            obtain ⟨K2, hK⟩ : ∃ K, K = ((LG.take k).filter G2).length := ⟨_, rfl⟩
            rw [← hF]
            rw [← hK] at hg
            by_cases hlt : k < LG.length
            · have HFB : Hid (F ≤ 256 ∧ K2 ≤ 256) := Lib.hid (by
                have h1 := List.length_filter_le (fun r => !G2 r) (LG.take k)
                have h2 := List.length_filter_le G2 (LG.take k)
                have h3 := HLE.out.2.2
                rw [List.length_take] at h1 h2
                omega)
              obtain ⟨t, ht⟩ : ∃ t, LG[k]? = some t := ⟨LG[k], List.getElem?_eq_getElem hlt⟩
              have HGX := Lib.hid (HL2.out t (List.mem_of_getElem? ht))
              have HTB := Lib.hid (HTL.out t (List.mem_of_getElem? ht))
              have HTF := Lib.hid (take_filter ht fun r => !G2 r)
              have HTG := Lib.hid (take_filter ht G2)
              have HLA : Hid (G2 t = false → LGG[F]? = some t ∧ F < LGG.length) := Lib.hid fun h => by
                rw [HLGG.out, hF]
                exact left_at ht (by rw [h]; rfl)
              have HFE0 := Lib.hid hF
              have HKE0 := Lib.hid hK
              obtain ⟨ad, bb, off, cap, e1, hadr, hpts⟩ := AgRow.lies hw
              injection e1 with e1 e2 e3
              have ea := hadr (by intro h0; simp [h0] at hlt)
              rw [← e1] at ea
              subst ea
              obtain ⟨x0, x1, x2, x3, x4⟩ := hpts k t ht
              have hmax : k < 9223372036854775807 := by omega
              clear hadr hpts e1 e2 e3 hF hK ht
              go_upto_region 36 with fail
              refine wp_name fun U hU => ?_
              obtain ⟨Q, hQ⟩ : ∃ Q, Q = V2.heap.size := ⟨_, rfl⟩
              have hb : Below V2.heap.size V2 U := by rw [hU.out]; exact (Below.refl _ _).alloc (Nat.le_refl _) _
              have hbx : AgAt U Q t := by unfold AgAt; rw [hU.out, hQ]; exact heap_alloc_new V2 _
              obtain ⟨S, hS⟩ : ∃ S : World → Prop, S = fun W => GoS D w W p s' u s P a b c q g m A1 A2 R C x y z K K1 K2 ∧ AgAt W Q t ∧ AgRow 0 W (.slice aL2 LGG.length cL2) LGG ∧ AgRow 0 W (.slice (some ⟨bb, off, none⟩) LG.length cW2) LG ∧ W.heap[N]? = some (.cells #[.int .i64 0, .int .i64 300, .int .i64 3600] 2 (0, 0)) := ⟨_, rfl⟩
              have HSU : Hid (∀ W, S W → GoS D w W p s' u s P a b c q g m A1 A2 R C x y z K K1 K2 ∧ AgAt W Q t ∧ AgRow 0 W (.slice aL2 LGG.length cL2) LGG ∧ AgRow 0 W (.slice (some ⟨bb, off, none⟩) LG.length cW2) LG ∧ W.heap[N]? = some (.cells #[.int .i64 0, .int .i64 300, .int .i64 3600] 2 (0, 0))) := Lib.hid fun W h => by rw [hS] at h; exact h
              have HKP : Hid (∀ W W', S W → Below W.heap.size W W' → GoS D w W' p s' u s P a b c q g m A1 A2 R C x y z K K1 K2 ∧ AgAt W' Q t ∧ AgRow 0 W' (.slice aL2 LGG.length cL2) LGG ∧ AgRow 0 W' (.slice (some ⟨bb, off, none⟩) LG.length cW2) LG ∧ W'.heap[N]? = some (.cells #[.int .i64 0, .int .i64 300, .int .i64 3600] 2 (0, 0))) := Lib.hid fun W W' h hb => by
                rw [hS] at h
                exact ⟨h.1.keep hb, (hb.block _ (lt_of_block h.2.1)).trans h.2.1, AgRow.keep h.2.2.1 hb, AgRow.keep h.2.2.2.1 hb, (hb.block _ (lt_of_block h.2.2.2.2)).trans h.2.2.2.2⟩
              have HKS : Hid (∀ W W', S W → Below W.heap.size W W' → S W') := Lib.hid fun W W' h hb => by
                have h2 := HKP.out W W' h hb
                rw [hS]; exact h2
              have HZ : Hid (S U) := Lib.hid (by rw [hS]; exact ⟨hg.keep hb, hbx, AgRow.keep hl hb, AgRow.keep hw hb, (hb.block _ (lt_of_block hn)).trans hn⟩)
              have HSC : Hid (∀ W, S W → W.cell? ⟨P, 0, none⟩ = some (.int .i64 a) ∧ W.cell? ⟨P, 1, none⟩ = some (.int .i64 b) ∧ W.cell? ⟨P, 2, none⟩ = some (.int .i64 c) ∧ W.cell? ⟨Q, 0, none⟩ = some (.int .i64 t.at_)) := Lib.hid fun W h => by
                obtain ⟨h1, h2, -⟩ := HSU.out W h
                exact ⟨h1.st.pol.cells.1, h1.st.pol.cells.2.1, h1.st.pol.cells.2.2.1, (AgAt.cells h2).1⟩
              rw [← hQ]
              clear hU hQ hb hbx hS hg hl hw hn x0 x1 x2 x3 x4
              obtain ⟨GG, hGG⟩ : ∃ v, v = goesX (ofP a b c 2) (t.at_ + 3600) 1125899906842624 now := ⟨_, rfl⟩
              obtain ⟨HB, hHB⟩ : ∃ v, v = m.any (hitX sr t.at_ (t.at_ + 3600)) := ⟨_, rfl⟩
              have HGS : Hid (∀ W, Calls Tryz.prog 17 #[.agg #[.int .i64 a, .int .i64 b, .int .i64 c], .int .i64 2, .int .i64 (t.at_ + 3600), .int .i64 1125899906842624, .int .i64 now] W fun e w' => e = .returned (.bool GG) ∧ Below W.heap.size W w') := Lib.hid fun W => by rw [hGG]; exact exgoes_any W a b c 2 (t.at_ + 3600) 1125899906842624 now (by omega) HPR.out.2.2.1 HNW.out
              have HHX : Hid (∀ W, S W → Calls Tryz.prog 19 #[.pointer (some ⟨q, 0, none⟩), .string sr, .int .i64 t.at_, .int .i64 (t.at_ + 3600)] W fun e w' => e = .returned (.bool HB) ∧ Below W.heap.size W w') := Lib.hid fun W h => by rw [hHB]; exact exheld_any (HSU.out W h).1.st.tab (HSU.out W h).1.st.tok sr t.at_ (t.at_ + 3600)
              have hlx : lawX m sr (ofP a b c 2) 1125899906842624 now t.at_ 3600 = (GG && !HB) := by unfold lawX; rw [← hGG, ← hHB]
              rw [hlx] at HGX
              have hw1 : IntKind.i64.wrap (t.at_ + 3600) = t.at_ + 3600 := by have := HTB.out; rw [IntKind.wrap_i64]; omega
              clear hGG hHB hlx
              obtain ⟨p0, p1, p2, q0⟩ := HSC.out _ HZ.out
              go_wp2_with fail
              refine (HGS.out U).mono ?_
              rintro e U1 ⟨rfl, hb⟩
              have HZ1 := Lib.hid (HKS.out _ _ HZ.out hb)
              clear hb p0 p1 p2 q0 HGS HZ
              dsimp only
              cases GG with
              | true =>
                obtain ⟨-, -, -, q0⟩ := HSC.out _ HZ1.out
                go_wp2_with fail
                refine (HHX.out U1 HZ1.out).mono ?_
                rintro e U2 ⟨rfl, hb⟩
                have HZ2 := Lib.hid (HKS.out _ _ HZ1.out hb)
                clear hb q0 HHX HZ1 hw1
                dsimp only
                cases HB with
                | false =>
                  have HGT : Hid (G2 t = true) := Lib.hid (by rw [HGX.out]; rfl)
                  obtain ⟨hgs, -, hrl, hrw, hnn⟩ := HSU.out _ HZ2.out
                  have HGN := Lib.hid hgs
                  have HRL := Lib.hid hrl
                  have HRW := Lib.hid hrw
                  have HNN := Lib.hid hnn
                  obtain ⟨z0, z1, z2, f0, f1, f2⟩ := cells3 hgs.want
                  have hfw : IntKind.i64.wrap ((K2 : Int) + 1) = K2 + 1 := by have := HFB.out; rw [IntKind.wrap_i64]; omega
                  clear hgs hrl hrw hnn
                  go_wp2_with fail
                  generalize hW9 : World.setCell _ _ _ = V9
                  have HG9 : Hid (GoS D w V9 p s' u s P a b c q g m A1 A2 R C x y z K K1 ((K2 : Int) + 1)) := Lib.hid (HGN.out.set (i := 2) hW9.symm rfl)
                  have HRL9 : Hid (AgRow 0 V9 (.slice aL2 LGG.length cL2) LGG) := Lib.hid (by rw [← hW9]; exact HGN.out.arows HRL.out 2 _)
                  have HRW9 : Hid (AgRow 0 V9 (.slice (some ⟨bb, off, none⟩) LG.length cW2) LG) := Lib.hid (by rw [← hW9]; exact HGN.out.arows HRW.out 2 _)
                  have HN9 : Hid (V9.heap[N]? = some (.cells #[.int .i64 0, .int .i64 300, .int .i64 3600] 2 (0, 0))) := Lib.hid (by rw [← hW9]; exact HGN.out.other HNN.out (by decide) 2 _)
                  clear hW9 z0 z1 z2 f0 f1 f2 HGN HRL HRW HNN
                  go_roundw
                  case rel =>
                    exact ⟨k + 1, by omega, by go_num, by rw [HTF.out, HGT.out]; simp [← HFE0.out], by rw [HTG.out, HGT.out]; simpa [← HKE0.out] using HG9.out, HRL9.out, HRW9.out, HN9.out⟩
                  case measure => simp [intOf]; omega
                | true =>
                  have HGF : Hid (G2 t = false) := Lib.hid (by rw [HGX.out]; rfl)
                  obtain ⟨hla, hfl⟩ := HLA.out HGF.out
                  obtain ⟨hgs, hbx, hrl, hrw, hnn⟩ := HSU.out _ HZ2.out
                  obtain ⟨ad', bb', off', cap', e1', hadr', hpts'⟩ := AgRow.lies hrl
                  injection e1' with e1' e2' e3'
                  have ea' := hadr' (by intro h0; simp [h0] at hfl)
                  rw [← e1'] at ea'
                  subst ea'
                  obtain ⟨y0, y1, y2, y3, y4⟩ := hpts' F t hla
                  obtain ⟨z0, z1, z2, z3, z4, -, -, -, -, -⟩ := AgAt.cells hbx
                  have hge : decide ((LGG.length : Int) ≤ F) = false := decide_eq_false (by omega)
                  have hfw : IntKind.i64.wrap ((F : Int) + 1) = F + 1 := by have := HFB.out; rw [IntKind.wrap_i64]; omega
                  clear hla hgs hrl hrw hpts' e1' e2' e3' hadr' hnn
                  go_upto_region 38 with fail
                  go_quiet (fail)
                  go_wp2_with fail
                  go_roundw
                  case rel =>
                    obtain ⟨hgs, -, hrl, hrw, hnn⟩ := HKP.out _ _ HZ2.out (below_drewN (Below.refl _ _) nq)
                    exact ⟨k + 1, by omega, by go_num, by rw [HTF.out, HGF.out]; simp [← HFE0.out], by rw [HTG.out, HGF.out]; simpa [← HKE0.out] using hgs, hrl, hrw, hnn⟩
                  case measure => simp [intOf]; omega
              | false =>
                clear hw1
                have HGF : Hid (G2 t = false) := Lib.hid (by rw [HGX.out]; rfl)
                obtain ⟨hla, hfl⟩ := HLA.out HGF.out
                obtain ⟨hgs, hbx, hrl, hrw, hnn⟩ := HSU.out _ HZ1.out
                obtain ⟨ad', bb', off', cap', e1', hadr', hpts'⟩ := AgRow.lies hrl
                injection e1' with e1' e2' e3'
                have ea' := hadr' (by intro h0; simp [h0] at hfl)
                rw [← e1'] at ea'
                subst ea'
                obtain ⟨y0, y1, y2, y3, y4⟩ := hpts' F t hla
                obtain ⟨z0, z1, z2, z3, z4, -, -, -, -, -⟩ := AgAt.cells hbx
                have hge : decide ((LGG.length : Int) ≤ F) = false := decide_eq_false (by omega)
                have hfw : IntKind.i64.wrap ((F : Int) + 1) = F + 1 := by have := HFB.out; rw [IntKind.wrap_i64]; omega
                clear hla hgs hrl hrw hpts' e1' e2' e3' hadr' hnn
                go_upto_region 38 with fail
                go_quiet (fail)
                go_wp2_with fail
                go_roundw
                case rel =>
                  obtain ⟨hgs, -, hrl, hrw, hnn⟩ := HKP.out _ _ HZ1.out (below_drewN (Below.refl _ _) nq)
                  exact ⟨k + 1, by omega, by go_num, by rw [HTF.out, HGF.out]; simp [← HFE0.out], by rw [HTG.out, HGF.out]; simpa [← HKE0.out] using hgs, hrl, hrw, hnn⟩
                case measure => simp [intOf]; omega
            · have hFL : F = LGG.length := by rw [hF, HLGG.out, List.take_of_length_le (by omega)]
              have HKL2 : Hid (K2 = (LG.filter G2).length) := Lib.hid (by rw [hK, List.take_of_length_le (by omega)])
              have HG22 := Lib.hid hg
              have HN22 := Lib.hid hn
              subst hFL
              clear hF hK hg hl hw hn
              go_wp2_with fail
              clear hlt hk
              rw [rounds_succ]
              have hxyz : x = K ∧ y = K1 ∧ z = K2 := by
                have h := HWC.out
                simp only [Value.agg.injEq, Array.mk.injEq, List.cons.injEq, Value.int.injEq, true_and, and_true] at h
                rw [HKL.out, HKL1.out, HKL2.out]
                exact h
              obtain ⟨hx, hy, hz⟩ := hxyz
              have hq : ∀ V, (Op.equalIn 10000 35 (.agg #[.int .i64 x, .int .i64 y, .int .i64 z]) (.agg #[.int .i64 K, .int .i64 K1, .int .i64 K2])).run Tryz.prog V = .ok true V := fun V => by
                rw [cnt_eq, hx, hy, hz]; simp
              have hq0 : ∀ V, (Op.equalIn 10000 35 (.agg #[.int .i64 0, .int .i64 0, .int .i64 0]) (.agg #[.int .i64 0, .int .i64 0, .int .i64 0])).run Tryz.prog V = .ok true V := fun V => cnt_eq 0 0 0 0 0 0 V
              have HDU := Lib.hid (X.due (sr := sr) (now := now) HG22.out.st.now HG22.out.st.tabx HPI.out HSR.out)
              rw [HTW.out] at HDU
              clear hx hy hz HN22
              obtain ⟨a0, a1, a2, -, -, -⟩ := cells3 HG22.out.due
              obtain ⟨b0, b1, b2, -, -, -⟩ := cells3 HG22.out.got
              obtain ⟨d0, d1, d2, -, -, -⟩ := cells3 HG22.out.want
              obtain ⟨p0, p1, p2, -, -, -⟩ := HG22.out.st.pol.cells
              go_wp2_with fail
              refine HDU.out.mono ?_
              rintro e X1 ⟨rfl, hb⟩
              have HGx := Lib.hid (HG22.out.keep hb)
              clear hb HG22 HDU a0 a1 a2 b0 b1 b2 d0 d1 d2 p0 p1 p2
              dsimp only
              have HM1 := Lib.hid (D.mark (t := 1) HGx.out.st.now (by omega) (by omega))
              rw [show markT s' 1 = s.mm from HMM.out.1] at HM1
              go_wp2_with fail
              refine HM1.out.mono ?_
              rintro e X2 ⟨rfl, hb⟩
              have HGy := Lib.hid (HGx.out.keep hb)
              clear hb HGx HM1
              dsimp only
              have HM2 := Lib.hid (D.mark (t := 1) HGy.out.st.was (by omega) (by omega))
              rw [show markT s 1 = s.mm from rfl] at HM2
              go_wp2_with fail
              refine HM2.out.mono ?_
              rintro e X3 ⟨rfl, hb⟩
              have HGz := Lib.hid (HGy.out.keep hb)
              clear hb HGy HM2
              dsimp only
              have HM3 := Lib.hid (D.mark (t := 2) HGz.out.st.now (by omega) (by omega))
              rw [show markT s' 2 = s.ml from HMM.out.2] at HM3
              go_wp2_with fail
              refine HM3.out.mono ?_
              rintro e X4 ⟨rfl, hb⟩
              have HGw := Lib.hid (HGz.out.keep hb)
              clear hb HGz HM3
              dsimp only
              have HM4 := Lib.hid (D.mark (t := 2) HGw.out.st.was (by omega) (by omega))
              rw [show markT s 2 = s.ml from rfl] at HM4
              go_wp2_with fail
              refine HM4.out.mono ?_
              rintro e X5 ⟨rfl, hb⟩
              have HGv := Lib.hid (HGw.out.keep hb)
              clear hb HGw HM4
              dsimp only
              go_wp2_with fail
              go_ret
              exact ⟨rfl, HGv.out.st.bel⟩
end Go.Proofs.YthbdchleppbidaaGreat
