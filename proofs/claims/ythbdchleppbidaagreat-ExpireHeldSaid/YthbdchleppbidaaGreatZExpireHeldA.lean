/- ExpireHeld, over what packages tier and expire do. Written by py/ex-held.py. -/
import Derived.Test.YthbdchleppbidaaGreatMX
import Derived.Test.YthbdchleppbidaaGreatMQ
import Derived.Deep.RegionHeld3
import Derived.Deep.DeepCutAuto
namespace Go.Proofs.YthbdchleppbidaaGreat
open Go.RowKit

set_option maxHeartbeats 32000000 in
set_option maxRecDepth 1000000 in
theorem expireHeld_over {D : TierD} (M : TierM D) (X : ExD D) {w : World} {v0 v3 : Value} {L : List TActL} {T : List Int} {ra rb a b c : Int} (hv : TActsAt w v0 L) (hin : ∀ x ∈ L, x.In) (hm : L.length ≤ maxLen)
    (ha : -9223372036854775808 ≤ ra ∧ ra ≤ 9223372036854775807) (hb : -9223372036854775808 ≤ rb ∧ rb ≤ 9223372036854775807)
    (pa : -9223372036854775808 ≤ a ∧ a ≤ 9223372036854775807) (pb : -9223372036854775808 ≤ b ∧ b ≤ 9223372036854775807) (pc : -9223372036854775808 ≤ c ∧ c ≤ 9223372036854775807)
    (hv3 : TkLies w v3 T) (hin3 : ∀ x ∈ T, -9223372036854775808 ≤ x ∧ x ≤ 9223372036854775807) (hm3 : T.length ≤ maxLen) :
    Calls Tryz.prog 4 #[v0, .agg #[.int .i64 ra, .int .i64 rb], .agg #[.int .i64 a, .int .i64 b, .int .i64 c], v3] w fun e w' => e = .returned (.bool true) ∧ Below w.heap.size w w' := by
  have HV0 := Lib.hid hv
  have HIN := Lib.hid hin
  have HRB : Hid (-9223372036854775808 ≤ ra ∧ ra ≤ 9223372036854775807 ∧ -9223372036854775808 ≤ rb ∧ rb ≤ 9223372036854775807) := Lib.hid ⟨ha.1, ha.2, hb.1, hb.2⟩
  have HPB : Hid (I64 a ∧ I64 b ∧ I64 c) := Lib.hid ⟨pa, pb, pc⟩
  have HLN : Hid (L.length ≤ 9223372036854775807 ∧ T.length ≤ 9223372036854775807) := Lib.hid (by unfold maxLen at hm hm3; omega)
  have HTI := Lib.hid hin3
  obtain ⟨ad3, b3, off3, cap3, rfl, hadr3, hc3⟩ := hv3
  have HADR := Lib.hid hadr3
  have HTC := Lib.hid hc3
  have hmx : T.length ≤ 9223372036854775807 := HLN.out.2
  clear hv hin hm ha hb pa pb pc hin3 hm3 hadr3 hc3
  have HLI : Hid (∀ W, Calls Tryz.prog 6 #[] W fun e w' => e = .returned (.bool true) ∧ Below W.heap.size W w') := Lib.hid fun W => exlives_any M X W
  have HF0 : Hid (∀ W, Below w.heap.size w W → Calls Tryz.prog 7 #[v0, .int .i64 30] W fun e w' => e = .returned (.bool (fewT L 30)) ∧ Below W.heap.size W w') := Lib.hid fun W hb => few_any (HV0.out.keep hb) HLN.out.1 30
  obtain ⟨f0, hf0⟩ : ∃ f0, f0 = fewT L 30 := ⟨_, rfl⟩
  rw [← hf0] at HF0
  have HFE := Lib.hid hf0
  clear hf0
  go_enter Tryz.func4, Tryz.ntmps4
  go_upto_region 1 with fail
  refine wp_name fun W1 hW1 => ?_
  obtain ⟨R, hR⟩ : ∃ R, R = w.heap.size := ⟨_, rfl⟩
  have HRR := Lib.hid hR
  have e2 : (w.alloc (.cells #[.int .i64 ra, .int .i64 rb] 41)).heap.size = R + 1 := by rw [hR]; simp
  have HR1 : Hid (RgAt W1 R ra rb) := Lib.hid (by rw [hW1.out, hR]; exact (RgAt.new w ra rb).old _)
  have HP1 : Hid (PolAt W1 (R + 1) a b c) := Lib.hid (by rw [hW1.out, ← e2]; exact PolAt.new _ a b c)
  have HB1 : Hid (Below w.heap.size w W1) := Lib.hid (by rw [hW1.out]; exact ((Below.refl _ _).alloc (Nat.le_refl _) _).alloc (by simp) _)
  rw [← hR]
  clear hW1 e2 hR
  go_wp2_with fail
  refine (HLI.out W1).mono ?_
  rintro e W2 ⟨rfl, hb⟩
  have HR2 := Lib.hid (HR1.out.keep hb)
  have HP2 := Lib.hid (HP1.out.keep hb)
  have HB2 := Lib.hid (HB1.out.trans (hb.mono HB1.out.size))
  clear hb HR1 HP1 HB1
  dsimp only
  go_wp2_with fail
  refine (HF0.out W2 HB2.out).mono ?_
  rintro e W3 ⟨rfl, hb⟩
  have HR3 := Lib.hid (HR2.out.keep hb)
  have HP3 := Lib.hid (HP2.out.keep hb)
  have HB3 := Lib.hid (HB2.out.trans (hb.mono HB2.out.size))
  clear hb HR2 HP2 HB2
  dsimp only
  cases f0 with
  | false =>
    go_wp2_with fail
    refine (HLI.out W3).mono ?_
    rintro e W4 ⟨rfl, hb⟩
    have HB4 := Lib.hid (HB3.out.trans (hb.mono HB3.out.size))
    clear hb
    dsimp only
    go_wp2
    go_ret
    exact ⟨rfl, HB4.out⟩
  | true =>
  by_cases ht : 20 < T.length
  · have t1 : decide (20 < (T.length : Int)) = true := decide_eq_true (by omega)
    go_wp2_with fail
    refine (HLI.out W3).mono ?_
    rintro e W4 ⟨rfl, hb⟩
    have HB4 := Lib.hid (HB3.out.trans (hb.mono HB3.out.size))
    clear hb
    dsimp only
    go_wp2
    go_ret
    exact ⟨rfl, HB4.out⟩
  have t1 : decide (20 < (T.length : Int)) = false := decide_eq_false (by omega)
  clear ht
  have HHN := Lib.hid (honew_any W3)
  go_wp2_with fail
  refine HHN.out.mono ?_
  rintro e W4 ⟨q, rfl, h1, h2, hb⟩
  have HR4 := Lib.hid (HR3.out.keep hb)
  have HP4 := Lib.hid (HP3.out.keep hb)
  have HQ4 := Lib.hid h1
  have HQN := Lib.hid (Nat.le_trans HB3.out.size h2)
  have HB4 := Lib.hid (HB3.out.trans (hb.mono HB3.out.size))
  have HAD := Lib.hid (hoadd_any h1 ⟨⟨#[104]⟩, ⟨#[]⟩, ra, rb⟩ (show (⟨#[104]⟩ : ByteArray).size ≤ maxLen by decide) (show (⟨#[]⟩ : ByteArray).size ≤ maxLen by decide))
  clear h1 h2 hb HR3 HP3 HB3 HHN t1
  dsimp only
  unfold Hld.val at HAD
  obtain ⟨er, her⟩ : ∃ er, er = addE [] ⟨⟨#[104]⟩, ⟨#[]⟩, ra, rb⟩ := ⟨_, rfl⟩
  rw [← her] at HAD
  have HER := Lib.hid her
  clear her
  obtain ⟨c0, c1, -, -⟩ := HR4.out.cells
  go_wp2_with fail
  refine HAD.out.mono ?_
  rintro e W5 ⟨rfl, g, h1, h2, h3⟩
  have HFT : Hid (∀ k, TFoot q none k → w.heap.size ≤ k) := Lib.hid (fun k hk => by
    rcases hk with rfl | hk
    · exact HQN.out
    · cases hk)
  have HT5 : Hid (TabAt W5 q g (addM [] ⟨⟨#[104]⟩, ⟨#[]⟩, ra, rb⟩) ∧ (∀ k, TFoot q g k → w.heap.size ≤ k)) := Lib.hid ⟨h1, fun k hk => by
    rcases hk with rfl | hk
    · exact HQN.out
    · rcases h3 with e | ⟨_, h4⟩
      · rw [e] at hk; cases hk
      · exact Nat.le_trans HB4.out.size (h4 k hk)⟩
  have HR5 : Hid (RgAt W5 R ra rb) := Lib.hid (HR4.out.only h2 (HQ4.out.off HR4.out (by decide)))
  have HP5 : Hid (PolAt W5 (R + 1) a b c) := Lib.hid (HP4.out.only h2 (HQ4.out.off HP4.out (by decide)))
  have HB5 : Hid (Below w.heap.size w W5) := Lib.hid (HB4.out.trans (h2.below HB4.out.size HFT.out))
  clear h1 h2 h3 c0 c1 HR4 HP4 HQ4 HB4 HAD HFT
  dsimp only
  cases hz : er != 0 with
  | true =>
    go_wp2_with fail
    go_ret
    exact ⟨rfl, HB5.out⟩
  | false =>
  have HM1 : Hid (addM [] ⟨⟨#[104]⟩, ⟨#[]⟩, ra, rb⟩ = [⟨⟨#[104]⟩, ⟨#[]⟩, ra, rb⟩]) := Lib.hid (add_new _ _ _ (by rw [← HER.out]; simpa using hz))
  have HTM : Hid (TabM [⟨⟨#[104]⟩, ⟨#[]⟩, ra, rb⟩]) := Lib.hid (by have h := TabM.nil.add ⟨⟨#[104]⟩, ⟨#[]⟩, ra, rb⟩; rwa [HM1.out] at h)
  rw [HM1.out] at HT5
  have HPL : Hid (∀ W, Below w.heap.size w W → Calls Tryz.prog 9 #[v0] W fun e w' => ∃ p, e = .returned (.pointer (some ⟨p, 0, none⟩)) ∧ OneS D W.heap.size w' p (playT L) ∧ Below W.heap.size W w') := Lib.hid fun W hb => explay_any D (HV0.out.keep hb) HIN.out (fewT_of HFE.out).1 (by have := (fewT_of HFE.out).2; omega)
  go_wp2_with fail
  refine (HPL.out W5 HB5.out).mono ?_
  rintro e W6 ⟨p, rfl, h1, hb⟩
  obtain ⟨s, hs⟩ : ∃ s, s = playT L := ⟨_, rfl⟩
  rw [← hs] at h1
  have H6 : Hid (HeldS D w W6 p s R ra rb a b c q g [⟨⟨#[104]⟩, ⟨#[]⟩, ra, rb⟩]) := Lib.hid (by
    obtain ⟨h2, h3⟩ := h1
    refine ⟨⟨h2, fun k hk => Nat.le_trans HB5.out.size (h3 k hk)⟩, HR5.out.keep hb, HP5.out.keep hb, HT5.out.1.below hb, HTM.out, fun k hk hk' => ?_, fun hk => ?_, fun hk => ?_, HB5.out.trans (hb.mono HB5.out.size)⟩
    · have := HT5.out.1.lt k hk; have := h3 k hk'; omega
    · have := lt_of_block HR5.out; have := h3 _ hk; omega
    · have := lt_of_block HP5.out; have := h3 _ hk; omega)
  clear h1 hb hs hz HR5 HP5 HT5 HB5 HPL HQN HM1 HER
  dsimp only
  obtain ⟨LP, hLP⟩ : ∃ l, l = getL s.raw ra rb := ⟨_, rfl⟩
  obtain ⟨LM, hLM⟩ : ∃ l, l = aggsT s 1 ra rb := ⟨_, rfl⟩
  obtain ⟨LL, hLL⟩ : ∃ l, l = aggsT s 2 ra rb := ⟨_, rfl⟩
  have EP0 := Lib.hid hLP
  have EM0 := Lib.hid hLM
  have EL0 := Lib.hid hLL
  clear hLP hLM hLL
  have HPT0 : Hid (∀ V, D.sit V p s → Calls Tryz.prog 16 #[.pointer (some ⟨p, 0, none⟩), .agg #[.int .i64 ra, .int .i64 rb]] V fun e w' => ∃ v', e = .returned v' ∧ PtRowB V.heap.size w' v' LP ∧ Below V.heap.size V w') := Lib.hid fun V hV => by rw [EP0.out]; exact D.points hV HRB.out.1 HRB.out.2.1 HRB.out.2.2.1 HRB.out.2.2.2
  have HAM0 : Hid (∀ V, D.sit V p s → Calls Tryz.prog 20 #[.pointer (some ⟨p, 0, none⟩), .int .i64 1, .agg #[.int .i64 ra, .int .i64 rb]] V fun e w' => ∃ v', e = .returned v' ∧ AgRow V.heap.size w' v' LM ∧ Below V.heap.size V w') := Lib.hid fun V hV => by rw [EM0.out]; exact D.aggs hV (by omega) (by omega) HRB.out.1 HRB.out.2.1 HRB.out.2.2.1 HRB.out.2.2.2
  have HAL0 : Hid (∀ V, D.sit V p s → Calls Tryz.prog 20 #[.pointer (some ⟨p, 0, none⟩), .int .i64 2, .agg #[.int .i64 ra, .int .i64 rb]] V fun e w' => ∃ v', e = .returned v' ∧ AgRow V.heap.size w' v' LL ∧ Below V.heap.size V w') := Lib.hid fun V hV => by rw [EL0.out]; exact D.aggs hV (by omega) (by omega) HRB.out.1 HRB.out.2.1 HRB.out.2.2.1 HRB.out.2.2.2
  go_upto_region 7 with fail
  have Z0 := Lib.hid H6.out.drew
  clear H6
  have HC00 := Lib.hid Z0.out.rcells
  go_region_held3 (fun w' => w'.cell? ⟨R, 0, none⟩ = some (.int .i64 ra) ∧ w'.cell? ⟨R, 1, none⟩ = some (.int .i64 rb)) (first | with_reducible exact HC00.out | with_reducible exact HC01.out | with_reducible exact HC02.out | with_reducible exact HC03.out) (((first | (go_at_call 16; refine (HPT0.out _ Z0.out.one.sit).mono ?_; clear HPT0; rintro e V1 ⟨vp0, rfl, hr, hb⟩; have Z1 := Lib.hid (Z0.out.keep hb); have HC01 := Lib.hid Z1.out.rcells; have HRP01 := Lib.hid hr; have HBB01 := Lib.hid hb; clear hr hb) | (go_at_call 20; refine (HAM0.out _ Z1.out.one.sit).mono ?_; clear HAM0; rintro e V2 ⟨vm0, rfl, hr, hb⟩; have Z2 := Lib.hid (Z1.out.keep hb); have HC02 := Lib.hid Z2.out.rcells; have HRP02 := Lib.hid (HRP01.out.keep hb); have HRM02 := Lib.hid (hr.base HBB01.out.size); have HBB02 := Lib.hid (HBB01.out.trans (hb.mono HBB01.out.size)); clear hr hb) | (go_at_call 20; refine (HAL0.out _ Z2.out.one.sit).mono ?_; clear HAL0; rintro e V3 ⟨vl0, rfl, hr, hb⟩; have Z3 := Lib.hid (Z2.out.keep hb); have HC03 := Lib.hid Z3.out.rcells; have HRP03 := Lib.hid (HRP02.out.keep hb); have HRM03 := Lib.hid (ownsRow_beyond HRM02.out hb); have HRL03 := Lib.hid (hr.base HBB02.out.size); have HBB03 := Lib.hid (HBB02.out.trans (hb.mono HBB02.out.size)); clear hr hb)); dsimp only))
  have HGD : Hid (GoodT s) := Lib.hid (D.good Z0.out.one.sit)
  have HLE : Hid (LP.length ≤ 256 ∧ LM.length ≤ 256 ∧ LL.length ≤ 256) := Lib.hid (by rw [EP0.out, EM0.out, EL0.out]; exact rows_len HGD.out ra rb)
  have HRW : Hid (Rows3 D V3 p vp0 vm0 vl0 LP LM LL) := Lib.hid (Rows3.new Z0.out.one.sit HBB03.out HRP03.out HRM03.out HRL03.out)
  have HK := Lib.hid Z3.out
  clear Z0 Z1 Z2 Z3 HC00 HC01 HC02 HC03 HRP01 HRP02 HRP03 HRM02 HRM03 HRL03 HBB01 HBB02 HBB03
  go_wp2_with fail
  go_loopw [54] (fun u wr => ∃ j : Nat, j ≤ T.length ∧ u = .int .i64 j ∧ HeldS D w wr p (manyX s [⟨⟨#[104]⟩, ⟨#[]⟩, ra, rb⟩] ⟨#[97]⟩ a b c (T.take j)) R ra rb a b c q g [⟨⟨#[104]⟩, ⟨#[]⟩, ra, rb⟩] ∧ Rows3 D wr p vp0 vm0 vl0 LP LM LL) (fun u _ => T.length - (intOf u).toNat)
  case atStart => exact ⟨0, Nat.zero_le _, rfl, HK.out, HRW.out⟩
  case round =>
    obtain ⟨j, hj, rfl, hk, hr⟩ := hrel
    obtain ⟨V4, hV4⟩ : ∃ V4, V4 = wr := ⟨_, rfl⟩
    subst hV4
    obtain ⟨sj, hsj⟩ : ∃ sj, sj = manyX s [⟨⟨#[104]⟩, ⟨#[]⟩, ra, rb⟩] ⟨#[97]⟩ a b c (T.take j) := ⟨_, rfl⟩
    rw [← hsj] at hk
    have HSJ := Lib.hid hsj
    have HK4 := Lib.hid hk
    have HR4 := Lib.hid hr
    clear hk hr hsj HK HRW
    by_cases hlt : j < T.length
    · have ea := HADR.out (by intro h; simp [h] at hlt)
      subst ea
      obtain ⟨x, hx⟩ : ∃ x, T[j]? = some x := ⟨T[j], List.getElem?_eq_getElem hlt⟩
      have x0 : V4.cell? ⟨b3, off3 + j, none⟩ = some (.int .i64 x) := (HK4.out.bel.cell (p := ⟨b3, off3 + j, none⟩) (cell_lt (HTC.out j x hx))).trans (HTC.out j x hx)
      have HXB := Lib.hid (HTI.out x (List.mem_of_getElem? hx))
      have HNX : Hid (manyX s [⟨⟨#[104]⟩, ⟨#[]⟩, ra, rb⟩] ⟨#[97]⟩ a b c (T.take (j + 1)) = serX sj [⟨⟨#[104]⟩, ⟨#[]⟩, ra, rb⟩] ⟨#[97]⟩ a b c x) := Lib.hid (by rw [take_snoc hx, manyX_snoc, HSJ.out])
      obtain ⟨p0, p1, p2, -, -, -⟩ := HK4.out.pol.cells
      have HSE := Lib.hid (X.series (sr := ⟨#[97]⟩) HK4.out.one.sit HK4.out.tabx ⟨HPB.out.1, HPB.out.2.1, HPB.out.2.2, HXB.out⟩ (by decide))
      obtain ⟨WT, hWT⟩ : ∃ v, v = wentX sj (serX sj [⟨⟨#[104]⟩, ⟨#[]⟩, ra, rb⟩] ⟨#[97]⟩ a b c x) := ⟨_, rfl⟩
      obtain ⟨ET, hET⟩ : ∃ v, v = errX a b c x := ⟨_, rfl⟩
      obtain ⟨sn, hsn⟩ : ∃ v, v = serX sj [⟨⟨#[104]⟩, ⟨#[]⟩, ra, rb⟩] ⟨#[97]⟩ a b c x := ⟨_, rfl⟩
      rw [← hWT, ← hET, ← hsn] at HSE
      rw [← hsn] at HNX
      clear hx hWT hET hsn
      go_wp2_with fail
      refine HSE.out.mono ?_
      rintro e V5 ⟨rfl, h1, h2, h3⟩
      have HK5 := Lib.hid (HK4.out.step h1 h2 h3)
      have HR5 := Lib.hid (HR4.out.step h2 h3)
      clear h1 h2 h3 HK4 HR4 p0 p1 p2 x0 HSE
      dsimp only
      go_wp2
      go_roundw
      case rel => exact ⟨j + 1, by omega, by go_num, by rw [HNX.out]; exact HK5.out, HR5.out⟩
      case measure => simp [intOf]; omega
    · have HE : Hid (T.take j = T) := Lib.hid (List.take_of_length_le (by omega))
      rw [HE.out] at HSJ
      have hmh := many_held (n := ⟨#[104]⟩) (sr := ⟨#[97]⟩) (ra := ra) (rb := rb) (a := a) (b := b) (c := c) HGD.out T
      rw [← HSJ.out, ← EP0.out, ← EM0.out, ← EL0.out] at hmh
      have EP1 := Lib.hid hmh.1.symm
      have EM1 := Lib.hid hmh.2.1.symm
      have EL1 := Lib.hid hmh.2.2.symm
      clear hmh
      have HPT1 : Hid (∀ V, D.sit V p sj → Calls Tryz.prog 16 #[.pointer (some ⟨p, 0, none⟩), .agg #[.int .i64 ra, .int .i64 rb]] V fun e w' => ∃ v', e = .returned v' ∧ PtRowB V.heap.size w' v' LP ∧ Below V.heap.size V w') := Lib.hid fun V hV => by rw [EP1.out]; exact D.points hV HRB.out.1 HRB.out.2.1 HRB.out.2.2.1 HRB.out.2.2.2
      have HAM1 : Hid (∀ V, D.sit V p sj → Calls Tryz.prog 20 #[.pointer (some ⟨p, 0, none⟩), .int .i64 1, .agg #[.int .i64 ra, .int .i64 rb]] V fun e w' => ∃ v', e = .returned v' ∧ AgRow V.heap.size w' v' LM ∧ Below V.heap.size V w') := Lib.hid fun V hV => by rw [EM1.out]; exact D.aggs hV (by omega) (by omega) HRB.out.1 HRB.out.2.1 HRB.out.2.2.1 HRB.out.2.2.2
      have HAL1 : Hid (∀ V, D.sit V p sj → Calls Tryz.prog 20 #[.pointer (some ⟨p, 0, none⟩), .int .i64 2, .agg #[.int .i64 ra, .int .i64 rb]] V fun e w' => ∃ v', e = .returned v' ∧ AgRow V.heap.size w' v' LL ∧ Below V.heap.size V w') := Lib.hid fun V hV => by rw [EL1.out]; exact D.aggs hV (by omega) (by omega) HRB.out.1 HRB.out.2.1 HRB.out.2.2.1 HRB.out.2.2.2
      go_upto_region 13 with fail
      have Y0 := Lib.hid HK4.out.drew
      have HRY := Lib.hid (HR4.out.keep HK4.out.one.sit ((Below.refl _ V4).drew))
      clear HK4 HR4 hlt hj
      have HC10 := Lib.hid Y0.out.rcells
      go_region_held3 (fun w' => w'.cell? ⟨R, 0, none⟩ = some (.int .i64 ra) ∧ w'.cell? ⟨R, 1, none⟩ = some (.int .i64 rb)) (first | with_reducible exact HC10.out | with_reducible exact HC11.out | with_reducible exact HC12.out | with_reducible exact HC13.out) (((first | (go_at_call 16; refine (HPT1.out _ Y0.out.one.sit).mono ?_; clear HPT1; rintro e U1 ⟨vp1, rfl, hr, hb⟩; have Y1 := Lib.hid (Y0.out.keep hb); have HC11 := Lib.hid Y1.out.rcells; have HRP11 := Lib.hid hr; have HBB11 := Lib.hid hb; clear hr hb) | (go_at_call 20; refine (HAM1.out _ Y1.out.one.sit).mono ?_; clear HAM1; rintro e U2 ⟨vm1, rfl, hr, hb⟩; have Y2 := Lib.hid (Y1.out.keep hb); have HC12 := Lib.hid Y2.out.rcells; have HRP12 := Lib.hid (HRP11.out.keep hb); have HRM12 := Lib.hid (hr.base HBB11.out.size); have HBB12 := Lib.hid (HBB11.out.trans (hb.mono HBB11.out.size)); clear hr hb) | (go_at_call 20; refine (HAL1.out _ Y2.out.one.sit).mono ?_; clear HAL1; rintro e U3 ⟨vl1, rfl, hr, hb⟩; have Y3 := Lib.hid (Y2.out.keep hb); have HC13 := Lib.hid Y3.out.rcells; have HRP13 := Lib.hid (HRP12.out.keep hb); have HRM13 := Lib.hid (ownsRow_beyond HRM12.out hb); have HRL13 := Lib.hid (hr.base HBB12.out.size); have HBB13 := Lib.hid (HBB12.out.trans (hb.mono HBB12.out.size)); clear hr hb)); dsimp only))
      have HW : Hid (Rows3 D U3 p vp0 vm0 vl0 LP LM LL) := Lib.hid (HRY.out.keep Y0.out.one.sit HBB13.out)
      obtain ⟨aP, bP, oP, cP, rfl, haP, hP⟩ := HW.out.pts.plies
      obtain ⟨aM, bM, oM, cM, rfl, haM, hM⟩ := HW.out.mid.lies
      obtain ⟨aL, bL, oL, cL, rfl, haL, hL⟩ := HW.out.long.lies
      obtain ⟨aP', bP', oP', cP', rfl, haP', hP'⟩ := PtRowB.plies HRP13.out
      obtain ⟨aM', bM', oM', cM', rfl, haM', hM'⟩ := AgRow.lies HRM13.out
      obtain ⟨aL', bL', oL', cL', rfl, haL', hL'⟩ := AgRow.lies HRL13.out
      have KP := Lib.hid (And.intro haP hP)
      have KM := Lib.hid (And.intro haM hM)
      have KL := Lib.hid (And.intro haL hL)
      have KP' := Lib.hid (And.intro haP' hP')
      have KM' := Lib.hid (And.intro haM' hM')
      have KL' := Lib.hid (And.intro haL' hL')
      have HBE := Lib.hid Y3.out.bel
      have hlp : LP.length ≤ 9223372036854775807 := by have := (HLE.out).1; omega
      have hlm : LM.length ≤ 9223372036854775807 := by have := (HLE.out).2.1; omega
      have hll : LL.length ≤ 9223372036854775807 := by have := (HLE.out).2.2; omega
      clear haP hP haM hM haL hL haP' hP' haM' hM' haL' hL' HW Y0 Y1 Y2 Y3 HRY HC10 HC11 HC12 HC13 HRP11 HRP12 HRP13 HRM12 HRM13 HRL13 HBB11 HBB12 HBB13
      obtain ⟨W9, hW9⟩ : ∃ W9, W9 = U3 := ⟨_, rfl⟩
      subst hW9
      go_wp2_with fail
      go_loopw [94] (fun u wr => ∃ k : Nat, k ≤ LP.length ∧ u = .int .i64 k ∧ ∃ m, wr = W9.drewN m) (fun u _ => LP.length - (intOf u).toNat)
      case atStart => exact ⟨0, by omega, rfl, 0, rfl⟩
      case round =>
        obtain ⟨k, hk, rfl, mm, rfl⟩ := hrel
        by_cases hlt : k < LP.length
        · have ea := KP'.out.1 (by intro h; simp [h] at hlt)
          have eb := KP.out.1 (by intro h; simp [h] at hlt)
          subst ea; subst eb
          obtain ⟨t, ht⟩ : ∃ t, LP[k]? = some t := ⟨LP[k], List.getElem?_eq_getElem hlt⟩
          obtain ⟨x0, x1⟩ := KP'.out.2 k t ht
          obtain ⟨y0, y1⟩ := KP.out.2 k t ht
          clear ht
          go_wp2
          go_quiet (fail)
          go_wp2
          go_roundw
          case rel => exact ⟨k + 1, by omega, by go_num, _, rfl⟩
          case measure => simp [intOf]; omega
        · obtain rfl : k = LP.length := by omega
          go_wp2_with fail
          go_loopw [109] (fun u wr => ∃ k : Nat, k ≤ LM.length ∧ u = .int .i64 k ∧ ∃ m, wr = W9.drewN m) (fun u _ => LM.length - (intOf u).toNat)
          case atStart => exact ⟨0, by omega, rfl, _, rfl⟩
          case round =>
            obtain ⟨k, hk, rfl, mm, rfl⟩ := hrel
            by_cases hlt : k < LM.length
            · have ea := KM'.out.1 (by intro h; simp [h] at hlt)
              have eb := KM.out.1 (by intro h; simp [h] at hlt)
              subst ea; subst eb
              obtain ⟨t, ht⟩ : ∃ t, LM[k]? = some t := ⟨LM[k], List.getElem?_eq_getElem hlt⟩
              obtain ⟨x0, x1, x2, x3, x4⟩ := KM'.out.2 k t ht
              obtain ⟨y0, y1, y2, y3, y4⟩ := KM.out.2 k t ht
              clear ht
              go_wp2
              go_quiet (fail)
              go_wp2
              go_roundw
              case rel => exact ⟨k + 1, by omega, by go_num, _, rfl⟩
              case measure => simp [intOf]; omega
            · obtain rfl : k = LM.length := by omega
              go_wp2_with fail
              go_loopw [124] (fun u wr => ∃ k : Nat, k ≤ LL.length ∧ u = .int .i64 k ∧ ∃ m, wr = W9.drewN m) (fun u _ => LL.length - (intOf u).toNat)
              case atStart => exact ⟨0, by omega, rfl, _, rfl⟩
              case round =>
                obtain ⟨k, hk, rfl, mm, rfl⟩ := hrel
                by_cases hlt : k < LL.length
                · have ea := KL'.out.1 (by intro h; simp [h] at hlt)
                  have eb := KL.out.1 (by intro h; simp [h] at hlt)
                  subst ea; subst eb
                  obtain ⟨t, ht⟩ : ∃ t, LL[k]? = some t := ⟨LL[k], List.getElem?_eq_getElem hlt⟩
                  obtain ⟨x0, x1, x2, x3, x4⟩ := KL'.out.2 k t ht
                  obtain ⟨y0, y1, y2, y3, y4⟩ := KL.out.2 k t ht
                  clear ht
                  go_wp2
                  go_quiet (fail)
                  go_wp2
                  go_roundw
                  case rel => exact ⟨k + 1, by omega, by go_num, _, rfl⟩
                  case measure => simp [intOf]; omega
                · obtain rfl : k = LL.length := by omega
                  go_wp2_with fail
                  go_ret
                  exact ⟨rfl, below_drewN HBE.out _⟩
end Go.Proofs.YthbdchleppbidaaGreat
