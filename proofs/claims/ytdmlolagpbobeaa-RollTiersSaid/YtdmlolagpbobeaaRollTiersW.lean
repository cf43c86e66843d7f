/- RollTiers, walked. -/
import Derived.Test.YtdmlolagpbobeaaRoLives
import Derived.Test.YtdmlolagpbobeaaRoLawR
import Derived.Test.YtdmlolagpbobeaaRoTier
import Derived.Deep.QuietTactic
namespace Go.Proofs.Ytdmlolagpbobeaa
open Go.RowKit

set_option maxHeartbeats 16000000 in
set_option maxRecDepth 1000000 in
theorem rollTiers_walk {w : World} {v : Value} {l : List Pt} (hv : PLies w v l) (hfi : Fits v) (hf : ∀ p ∈ l, p.fits) (hm : l.length ≤ maxLen) :
    Calls Try.prog 6 #[v] w fun e w' => e = .returned (.bool true) ∧ Below w.heap.size w w' := by
  have HV := Lib.hid hv
  have HF := Lib.hid hf
  have HFI := Lib.hid hfi
  obtain ⟨a, b, off, cap, rfl, hadr, hpts⟩ := hv
  have HADR := Lib.hid hadr
  have HP := Lib.hid hpts
  have hmx : l.length ≤ 9223372036854775807 := by unfold maxLen at hm; omega
  clear hadr hpts hf hm hfi
  by_cases h60 : 60 < l.length
  · have t60 : decide (60 < (l.length : Int)) = true := decide_eq_true (by omega)
    have t61 : decide (60 < l.length) = true := decide_eq_true h60
    clear h60
    go_enter Try.func6, Try.ntmps6
    go_wp2_with fail
    refine (rolives_any w).mono ?_
    rintro e W1 ⟨rfl, hb⟩
    have HB1 := Lib.hid hb
    clear hb
    dsimp only
    go_wp2_with fail
    refine (rolives_any W1).mono ?_
    rintro e W2 ⟨rfl, hb⟩
    have HB2 := Lib.hid (HB1.out.trans (hb.mono HB1.out.size))
    clear hb
    dsimp only
    go_wp2
    go_ret
    exact ⟨rfl, HB2.out⟩
  have t60 : decide (60 < (l.length : Int)) = false := decide_eq_false (by omega)
  have t61 : decide (60 < l.length) = false := decide_eq_false h60
  have hl60 : l.length ≤ 60 := by omega
  have HRS : Hid (∀ W, Below w.heap.size w W → Calls Try.prog 17 #[.slice a l.length cap] W fun e w' => e = .returned (.bool (upFrom (-1) (l.map Pt.a))) ∧ Below W.heap.size W w') := Lib.hid fun W hb => lrises_any (HV.out.beyond hb) (by omega)
  clear h60
  cases hup : upFrom (-1) (l.map Pt.a) with
  | false =>
    rw [hup] at HRS
    clear hup
    go_enter Try.func6, Try.ntmps6
    go_wp2_with fail
    refine (rolives_any w).mono ?_
    rintro e W1 ⟨rfl, hb⟩
    have HB1 := Lib.hid hb
    clear hb
    dsimp only
    go_wp2_with fail
    refine (HRS.out W1 HB1.out).mono ?_
    rintro e W2 ⟨rfl, hb⟩
    have HB2 := Lib.hid (HB1.out.trans (hb.mono HB1.out.size))
    clear hb
    dsimp only
    go_wp2_with fail
    refine (rolives_any W2).mono ?_
    rintro e W3 ⟨rfl, hb⟩
    have HB3 := Lib.hid (HB2.out.trans (hb.mono HB2.out.size))
    clear hb
    dsimp only
    go_wp2
    go_ret
    exact ⟨rfl, HB3.out⟩
  | true =>
    rw [hup] at HRS
    have HUP := Lib.hid hup
    clear hup
    go_enter Try.func6, Try.ntmps6
    go_wp2_with fail
    refine (rolives_any w).mono ?_
    rintro e W1 ⟨rfl, hb⟩
    have HB1 := Lib.hid hb
    clear hb
    dsimp only
    go_wp2_with fail
    refine (HRS.out W1 HB1.out).mono ?_
    rintro e W2 ⟨rfl, hb⟩
    have HB2 := Lib.hid (HB1.out.trans (hb.mono HB1.out.size))
    clear hb HRS HB1
    dsimp only
    go_wp2_with fail
    go_loopw [23] (fun c wr => ∃ j : Nat, j ≤ l.length ∧ c = .int .i64 j ∧ SmallV 1125899906842624 (l.take j) ∧ Below w.heap.size w wr) (fun c _ => l.length - (intOf c).toNat)
    case atStart => exact ⟨0, Nat.zero_le _, rfl, fun p hp => by simp at hp, HB2.out⟩
    case round =>
      obtain ⟨j, hj, rfl, hs, hb⟩ := hrel
      obtain ⟨W4, hW4⟩ : ∃ W4, W4 = wr := ⟨_, rfl⟩
      subst hW4
      have HSM := Lib.hid hs
      have HB4 := Lib.hid hb
      have HP4 := Lib.hid (HP.out.beyond hb)
      clear hs hb HB2
      by_cases hlt : j < l.length
      · have ea := HADR.out (by intro h; simp [h] at hlt)
        subst ea
        obtain ⟨p, hp⟩ : ∃ p, l[j]? = some p := ⟨l[j], List.getElem?_eq_getElem hlt⟩
        obtain ⟨c0, c1⟩ := HP4.out j p hp
        have HPK := Lib.hid hp
        clear hp
        go_upto_region 6 with fail
        refine wp_name fun W5 hW5 => ?_
        obtain ⟨M, hM⟩ : ∃ M, M = W4.heap.size := ⟨_, rfl⟩
        have hb5 : Below W4.heap.size W4 W5 := by rw [hW5.out]; exact (Below.refl _ _).alloc (Nat.le_refl _) _
        have HB5 := Lib.hid (HB4.out.trans (hb5.mono HB4.out.size))
        have p1 : W5.cell? ⟨M, 1, none⟩ = some (.int .i64 p.v) := by rw [hW5.out, hM]; exact (cells2 (heap_alloc_new W4 _)).2.1
        rw [← hM]
        clear hb5 hW5 hM c0 c1 HP4 HB4
        by_cases hbig : 1125899906842624 < p.v
        · have tb : decide (1125899906842624 < p.v) = true := decide_eq_true hbig
          clear hbig
          go_wp2
          go_ret
          exact ⟨rfl, HB5.out⟩
        · have tb : decide (1125899906842624 < p.v) = false := decide_eq_false hbig
          by_cases hlow : p.v < -1125899906842624
          · have tl : decide (p.v < -1125899906842624) = true := decide_eq_true hlow
            clear hbig hlow
            go_wp2
            go_ret
            exact ⟨rfl, HB5.out⟩
          · have tl : decide (p.v < -1125899906842624) = false := decide_eq_false hlow
            have HSN : Hid (SmallV 1125899906842624 (l.take (j + 1))) := Lib.hid fun q hq => by
              rw [take_snoc HPK.out] at hq
              rcases List.mem_append.1 hq with h | h
              · exact HSM.out q h
              · rw [List.mem_singleton.1 h]; omega
            clear hbig hlow
            go_wp2
            go_roundw
            case rel => exact ⟨j + 1, by omega, by go_num, HSN.out, HB5.out⟩
            case measure => simp [intOf]; omega
      · obtain rfl : j = l.length := by omega
        have HSA : Hid (SmallV 1125899906842624 l) := Lib.hid (by have h := HSM.out; rwa [List.take_of_length_le (Nat.le_refl _)] at h)
        have HSAME : Hid (aggsR 2 (pointsR 1 l) = pointsR 2 l) := Lib.hid (tiers_same HUP.out HSA.out hl60)
        have HPO : Hid (∀ (t : Int) (W : World), -9223372036854775808 ≤ t → t ≤ 9223372036854775807 → Below w.heap.size w W → Calls Try.prog 15 #[.int .i64 t, .slice a l.length cap] W fun e w' => ∃ v', e = .returned v' ∧ AgRow W.heap.size w' v' (pointsR t l) ∧ Below W.heap.size W w') := Lib.hid fun t W h0 h1 hb => ropoints_any h0 h1 (HV.out.beyond hb) HFI.out HF.out (by omega)
        clear HSM HP4
        go_wp2_with fail
        refine (HPO.out 2 W4 (by omega) (by omega) HB4.out).mono ?_
        rintro e W5 ⟨v5, rfl, hr5, hb⟩
        have HR5 := Lib.hid hr5
        have HB5 := Lib.hid (HB4.out.trans (hb.mono HB4.out.size))
        clear hb hr5 HB4
        dsimp only
        go_wp2_with fail
        refine (HPO.out 1 W5 (by omega) (by omega) HB5.out).mono ?_
        rintro e W6 ⟨v6, rfl, hr6, hb⟩
        have HR6 := Lib.hid hr6
        have HR56 := Lib.hid (HR5.out.keep hb)
        have HB6 := Lib.hid (HB5.out.trans (hb.mono HB5.out.size))
        clear hb hr6 HB5 HR5
        dsimp only
        have hcall := roaggs_any (t := 2) (by omega) (by omega) HR6.out.lies (row_fits HR6.out) (points_fits 1 HF.out (by omega)) (Nat.le_trans (points_len 1 l) (by omega))
        rw [HSAME.out] at hcall
        have hLL := points_len 2 l
        obtain ⟨L, hL⟩ : ∃ L, L = pointsR 2 l := ⟨_, rfl⟩
        rw [← hL] at hcall HR56 hLL
        have HC := Lib.hid hcall
        clear hcall hL HPO HSAME
        go_wp2_with fail
        refine (HC.out).mono ?_
        rintro e W7 ⟨v7, rfl, hr7, hb⟩
        have HR7 := Lib.hid hr7
        have HR57 := Lib.hid (HR56.out.keep hb)
        have HB7 := Lib.hid (HB6.out.trans (hb.mono HB6.out.size))
        clear hb hr7 HB6 HR6 HR56 HC
        dsimp only
        obtain ⟨a5, b5, o5, k5, rfl, hadr5, hags5⟩ := HR57.out.lies
        obtain ⟨a7, b7, o7, k7, rfl, hadr7, hags7⟩ := HR7.out.lies
        have HADR5 := Lib.hid hadr5
        have HADR7 := Lib.hid hadr7
        have HA5 := Lib.hid hags5
        have HA7 := Lib.hid hags7
        clear hadr5 hadr7 hags5 hags7 HR57 HR7
        go_wp2_with fail
        go_loopw [48] (fun c wr => ∃ m : Nat, m ≤ L.length ∧ c = .int .i64 m ∧ ∃ n, wr = W7.drewN n) (fun c _ => L.length - (intOf c).toNat)
        case atStart => exact ⟨0, Nat.zero_le _, rfl, 0, rfl⟩
        case round =>
          obtain ⟨m, hm, rfl, nn, rfl⟩ := hrel
          by_cases hml : m < L.length
          · have ea := HADR5.out (by intro h; simp [h] at hml)
            subst ea
            have ea := HADR7.out (by intro h; simp [h] at hml)
            subst ea
            obtain ⟨A, hA⟩ : ∃ A, L[m]? = some A := ⟨L[m], List.getElem?_eq_getElem hml⟩
            obtain ⟨c0, c1, c2, c3, c4⟩ := HA5.out m A hA
            obtain ⟨d0, d1, d2, d3, d4⟩ := HA7.out m A hA
            clear hA
            go_wp2
            go_quiet (fail)
            go_wp2
            go_roundw
            case rel => exact ⟨m + 1, by omega, by go_num, _, rfl⟩
            case measure => simp [intOf]; omega
          · obtain rfl : m = L.length := by omega
            go_wp2
            go_ret
            exact ⟨rfl, below_drewN HB7.out _⟩
end Go.Proofs.Ytdmlolagpbobeaa
