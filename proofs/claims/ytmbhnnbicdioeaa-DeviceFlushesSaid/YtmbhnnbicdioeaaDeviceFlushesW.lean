/- DeviceFlushes, walked. -/
import Derived.Test.YtmbhnnbicdioeaaDvText
import Derived.Test.YtmbhnnbicdioeaaDvRows
import Derived.Test.YtmbhnnbicdioeaaOpenRows
namespace Go.Proofs.Ytmbhnnbicdioeaa
open Go.RowKit

theorem Dev.writes_same (d : Dev) (off : Nat) (A : List (List Nat)) : (d.writes off A).lies = d.lies ∧ (d.writes off A).down = d.down ∧ (d.writes off A).after = d.after := ⟨rfl, rfl, rfl⟩
/-- a row that came in, later -/
theorem row_get {w W : World} {b off k : Nat} {bs : List Nat} (h : ∃ u, w.cell? ⟨b, off + k, none⟩ = some u ∧ Lies w u bs) (hb : Below w.heap.size w W) : ∃ a c, W.cell? ⟨b, off + k, none⟩ = some (.slice a bs.length c) ∧ Lies W (.slice a bs.length c) bs := by
  obtain ⟨u, h1, h2⟩ := h
  obtain ⟨a, c, rfl⟩ := lies_len h2
  exact ⟨a, c, (hb.cell (p := ⟨b, off + k, none⟩) (cell_lt h1)).trans h1, lies_keep h2 hb⟩

theorem keep_bit1 (keep j : Nat) (h : keep < 18446744073709551616) (hj : j < 64) : (bits .and .u64 ((keep : Int) / 2 ^ j) 1 == 1) = kept keep j := by
  have e : (keep : Int) / 2 ^ j = ((keep / 2 ^ j : Nat) : Int) := by simp
  have h1 : keep / 2 ^ j ≤ keep := Nat.div_le_self _ _
  rw [e]
  unfold kept
  rw [Nat.mod_eq_of_lt hj]
  obtain ⟨q, hq⟩ : ∃ q, q = keep / 2 ^ j := ⟨_, rfl⟩
  rw [← hq] at h1 ⊢
  rw [low_bit (by omega) (by omega)]
  rcases Nat.mod_two_eq_zero_or_one q with h2 | h2
  · rw [h2, show ((q : Nat) : Int) % 2 = 0 by omega]; rfl
  · rw [h2, show ((q : Nat) : Int) % 2 = 1 by omega]; rfl

set_option maxHeartbeats 16000000 in
set_option maxRecDepth 1000000 in
theorem deviceFlushes_walk {w : World} {v0 v1 : Value} {A Bs : List (List Nat)} {keepI : Int} (hv0 : RowsAt w v0 A) (_hb0 : ∀ bs ∈ A, ∀ x ∈ bs, x < 256) (_hm0 : A.length ≤ maxLen) (hv1 : RowsAt w v1 Bs) (_hb1 : ∀ bs ∈ Bs, ∀ x ∈ bs, x < 256) (_hm1 : Bs.length ≤ maxLen)
    (hk1 : 0 ≤ keepI) (hk2 : keepI ≤ 18446744073709551615) :
    Calls Try.prog 5 #[v0, v1, .int .u64 keepI] w fun e w' => e = .returned (.bool true) ∧ Below w.heap.size w w' := by
  obtain ⟨a0, c0, rfl, hr0⟩ := hv0
  obtain ⟨a1, c1, rfl, hr1⟩ := hv1
  obtain ⟨keep, rfl⟩ : ∃ k : Nat, keepI = k := ⟨keepI.toNat, by omega⟩
  obtain ⟨la, hla⟩ : ∃ n, n = A.length := ⟨_, rfl⟩
  obtain ⟨lb, hlb⟩ : ∃ m, m = Bs.length := ⟨_, rfl⟩
  have HR0 := Lib.hid hr0
  have HR1 := Lib.hid hr1
  have HLA := Lib.hid hla
  have HLB := Lib.hid hlb
  have HKP : Hid (keep < 18446744073709551616) := Lib.hid (by omega)
  rw [← hla, ← hlb]
  clear hr0 hr1 hla hlb
  have HLV : Hid (∀ W, Calls Try.prog 6 #[] W fun e w' => e = .returned (.bool true) ∧ Below W.heap.size W w') := Lib.hid lives_any
  have HBw : Hid (Below w.heap.size w w) := Lib.hid (Below.refl _ _)
  by_cases h1 : la ≤ 20
  · have t1 : decide ((20 : Int) < (la : Int)) = false := by simp only [decide_eq_false_iff_not]; omega
    by_cases h2 : lb ≤ 20
    · have t2 : decide ((20 : Int) < (lb : Int)) = false := by simp only [decide_eq_false_iff_not]; omega
      go_enter Try.func5, Try.ntmps5
      repeat (first | (go_at_call 6; refine (HLV.out _).mono ?_; rintro e w1 ⟨rfl, hb1⟩; have HB1 := Lib.hid hb1; clear hb1; dsimp only) | (go_at_call 7; refine (new_ok (n := 50) (by omega) (by omega) w1).mono ?_; rintro e w2 ⟨P, rfl, hd2, hb2⟩; have HD2 := Lib.hid hd2; have HB2 := Lib.hid (HB1.out.trans (hb2.mono HB1.out.size)); have HBB2 : Hid (w1.heap.size ≤ w2.heap.size) := Lib.hid hb2.size; clear hd2 hb2; dsimp only) | go_values | go_skip | go_guarded | go_step)
      obtain ⟨B, hB⟩ : ∃ B, B = w1.heap.size := ⟨_, rfl⟩
      rw [← hB] at HD2 HBB2
      have hwB : w.heap.size ≤ B := by rw [hB]; exact HB1.out.size
      clear hB
      go_loopw [35] (fun i wr => ∃ k : Nat, k ≤ la ∧ i = .int .i64 k ∧ DevAt wr B P ((Dev.fresh 50).writes 0 (A.take k)) ∧ Below w.heap.size w wr ∧ B ≤ wr.heap.size ∧ ∀ b ∈ A.take k, b.length ≤ 64) (fun i _ => la - (intOf i).toNat)
      case atStart => exact ⟨0, by omega, rfl, by rw [List.take_zero, Dev.writes_nil]; exact HD2.out, HB2.out, HBB2.out, by simp⟩
      case round =>
        obtain ⟨k, hk, rfl, hd, hbw, hsz, hall⟩ := hrel
        have HD := Lib.hid hd
        have HBW := Lib.hid hbw
        have HSZ := Lib.hid hsz
        have HALL := Lib.hid hall
        clear hd hbw hsz hall
        by_cases hlt : k < la
        · have t3 : decide ((k : Int) < (la : Int)) = true := by simp only [decide_eq_true_eq]; omega
          have e1 : IntKind.i64.wrap ((k : Int) + 1) = ((k + 1 : Nat) : Int) := by rw [IntKind.wrap_i64]; omega
          have hkl : k < A.length := by rw [← HLA.out]; exact hlt
          obtain ⟨b, off, rfl, hrow⟩ := HR0.out (fun e => by rw [e] at hkl; simp at hkl)
          obtain ⟨bs, hbs⟩ : ∃ bs, A[k]? = some bs := ⟨A[k], List.getElem?_eq_getElem hkl⟩
          obtain ⟨ar, cr, d1, hli⟩ := row_get (hrow k bs hbs) HBW.out
          obtain ⟨l, hl⟩ : ∃ l, l = bs.length := ⟨_, rfl⟩
          rw [← hl] at d1
          have HLI := Lib.hid hli
          have HBS := Lib.hid hbs
          have HL := Lib.hid hl
          clear hrow hbs hli hl hkl
          by_cases h64 : l ≤ 64
          · have t4 : decide ((64 : Int) < (l : Int)) = false := by simp only [decide_eq_false_iff_not]; omega
            repeat (first | go_values | go_skip | go_guarded | go_step)
            have HW := write_ok (at_ := k) (bs := bs) HD.out HSZ.out (by have h := HLI.out; rw [← HL.out] at h; exact h) rfl rfl (show k < 50 by omega) (by rw [← HL.out]; exact h64) (by show (posW 0 (A.take k)).length ≤ _; rw [posW_length, List.length_take]; omega)
            refine HW.mono ?_
            rintro e w3 ⟨rfl, hd3, hk3⟩
            have hnx := Dev.writes_next (Dev.fresh 50) 0 HBS.out
            rw [Nat.zero_add] at hnx
            rw [hnx] at hd3
            have HD3 := Lib.hid hd3
            have HB3 := Lib.hid (HBW.out.trans ((HD.out.below HSZ.out hk3).mono hwB))
            have HZ3 := Lib.hid (Nat.le_trans HSZ.out hk3.only.size)
            have HA3 : Hid (∀ c ∈ A.take (k + 1), c.length ≤ 64) := Lib.hid (fun c hc => by
              rw [take_more HBS.out] at hc
              rcases List.mem_append.1 hc with h | h
              · exact HALL.out c h
              · rw [List.mem_singleton.1 h, ← HL.out]; exact h64)
            clear hd3 hk3 hnx HW d1
            dsimp only
            repeat (first | go_values | go_skip | go_guarded | go_step)
            go_roundw
            case rel => exact ⟨k + 1, by omega, by go_num, HD3.out, HB3.out, HZ3.out, HA3.out⟩
            case measure => simp [intOf]; omega
          · have t4 : decide ((64 : Int) < (l : Int)) = true := by simp only [decide_eq_true_eq]; omega
            repeat (first | go_values | go_skip | go_guarded | go_step)
            go_ret
            exact ⟨rfl, HBW.out⟩
        · have t3 : decide ((k : Int) < (la : Int)) = false := by simp only [decide_eq_false_iff_not]; omega
          obtain rfl : k = la := by omega
          have hfull : A.take k = A := List.take_of_length_le (by rw [← HLA.out]; exact Nat.le_refl _)
          rw [hfull] at HD HALL
          clear hfull
          repeat (first | go_values | go_skip | go_guarded | go_step)
          refine (flush_ok HD.out rfl).mono ?_
          rintro e w4 ⟨rfl, hd4, hk4⟩
          have HD4 := Lib.hid hd4
          have HB4 := Lib.hid (HBW.out.trans ((HD.out.below HSZ.out hk4).mono hwB))
          have HZ4 := Lib.hid (Nat.le_trans HSZ.out hk4.only.size)
          clear hd4 hk4
          dsimp only
          repeat (first | go_values | go_skip | go_guarded | go_step)
          obtain ⟨D1, hD1⟩ : ∃ D1, D1 = ((Dev.fresh 50).writes 0 A).flush := ⟨_, rfl⟩
          have hDw : D1.waits = [] := by rw [hD1]; rfl
          have hDd : D1.down = false := by rw [hD1]; rfl
          have hDa : D1.after = 0 := by rw [hD1]; rfl
          have hDl : D1.lies.length = 50 := by rw [hD1]; show (laid _ _).length = 50; rw [laid_length]; simp [Dev.writes, Dev.fresh]
          rw [← hD1] at HD4
          have HDD := Lib.hid hD1
          have HDW := Lib.hid hDw
          have HDN := Lib.hid hDd
          have HDA := Lib.hid hDa
          have HDL := Lib.hid hDl
          clear hD1 hDw hDd hDa hDl HD2 HB2 HBB2 HB1
          obtain ⟨la, hlak⟩ : ∃ l, l = k := ⟨_, rfl⟩
          subst hlak
          go_loopw [58] (fun i wr => ∃ k : Nat, k ≤ lb ∧ i = .int .i64 k ∧ DevAt wr B P (D1.writes 25 (Bs.take k)) ∧ Below w.heap.size w wr ∧ B ≤ wr.heap.size ∧ ∀ b ∈ Bs.take k, b.length ≤ 64) (fun i _ => lb - (intOf i).toNat)
          case atStart => exact ⟨0, by omega, rfl, by rw [List.take_zero, Dev.writes_nil]; exact HD4.out, HB4.out, HZ4.out, by simp⟩
          case round =>
            obtain ⟨k, hk, rfl, hd, hbw, hsz, hall⟩ := hrel
            clear HD HBW HSZ HD4 HB4 HZ4
            have HD := Lib.hid hd
            have HBW := Lib.hid hbw
            have HSZ := Lib.hid hsz
            have HALB := Lib.hid hall
            clear hd hbw hsz hall
            by_cases hlt : k < lb
            · have t3 : decide ((k : Int) < (lb : Int)) = true := by simp only [decide_eq_true_eq]; omega
              have e1 : IntKind.i64.wrap ((k : Int) + 1) = ((k + 1 : Nat) : Int) := by rw [IntKind.wrap_i64]; omega
              obtain ⟨m, hm⟩ : ∃ m, m = 25 + k := ⟨_, rfl⟩
              have e25 : (25 : Int) + (k : Int) = (m : Int) := by omega
              have e25w : IntKind.i64.wrap (25 + (k : Int)) = (m : Int) := by rw [IntKind.wrap_i64]; omega
              have hm50 : m < 50 := by omega
              have HMM := Lib.hid hm
              have hkl : k < Bs.length := by rw [← HLB.out]; exact hlt
              obtain ⟨b, off, rfl, hrow⟩ := HR1.out (fun e => by rw [e] at hkl; simp at hkl)
              obtain ⟨bs, hbs⟩ : ∃ bs, Bs[k]? = some bs := ⟨Bs[k], List.getElem?_eq_getElem hkl⟩
              obtain ⟨ar, cr, d1, hli⟩ := row_get (hrow k bs hbs) HBW.out
              obtain ⟨l, hl⟩ : ∃ l, l = bs.length := ⟨_, rfl⟩
              rw [← hl] at d1
              have HLI := Lib.hid hli
              have HBS := Lib.hid hbs
              have HL := Lib.hid hl
              clear hrow hbs hli hl hkl hm
              by_cases h64 : l ≤ 64
              · have t4 : decide ((64 : Int) < (l : Int)) = false := by simp only [decide_eq_false_iff_not]; omega
                repeat (first | go_values | go_skip | go_guarded | go_step)
                have HW := write_ok (at_ := m) (bs := bs) HD.out HSZ.out (by have h := HLI.out; rw [← HL.out] at h; exact h) HDN.out HDA.out (show m < D1.lies.length by rw [HDL.out]; exact hm50) (by rw [← HL.out]; exact h64) (by show (D1.waits ++ posW 25 (Bs.take k)).length ≤ _; rw [HDW.out, List.nil_append, posW_length, List.length_take]; omega)
                refine HW.mono ?_
                rintro e w5 ⟨rfl, hd5, hk5⟩
                have hnx := Dev.writes_next D1 25 HBS.out
                rw [← HMM.out] at hnx
                rw [hnx] at hd5
                have HD5 := Lib.hid hd5
                have HB5 := Lib.hid (HBW.out.trans ((HD.out.below HSZ.out hk5).mono hwB))
                have HZ5 := Lib.hid (Nat.le_trans HSZ.out hk5.only.size)
                have HA5 : Hid (∀ c ∈ Bs.take (k + 1), c.length ≤ 64) := Lib.hid (fun c hc => by
                  rw [take_more HBS.out] at hc
                  rcases List.mem_append.1 hc with h | h
                  · exact HALB.out c h
                  · rw [List.mem_singleton.1 h, ← HL.out]; exact h64)
                clear hd5 hk5 hnx HW d1
                dsimp only
                repeat (first | go_values | go_skip | go_guarded | go_step)
                go_roundw
                case rel => exact ⟨k + 1, by omega, by go_num, HD5.out, HB5.out, HZ5.out, HA5.out⟩
                case measure => simp [intOf]; omega
              · have t4 : decide ((64 : Int) < (l : Int)) = true := by simp only [decide_eq_true_eq]; omega
                repeat (first | go_values | go_skip | go_guarded | go_step)
                go_ret
                exact ⟨rfl, HBW.out⟩
            · have t3 : decide ((k : Int) < (lb : Int)) = false := by simp only [decide_eq_false_iff_not]; omega
              obtain rfl : k = lb := by omega
              have hfull : Bs.take k = Bs := List.take_of_length_le (by rw [← HLB.out]; exact Nat.le_refl _)
              rw [hfull] at HD HALB
              clear hfull
              repeat (first | go_values | go_skip | go_guarded | go_step)
              refine (crash_any (keep := keep) (torn := -1) (bytes := 0) HD.out HKP.out).mono ?_
              rintro e w6 ⟨rfl, hd6, hk6⟩
              rw [HDD.out] at hd6
              have HD6 : Hid (DevAt w6 B P (flushD A Bs keep)) := Lib.hid hd6
              have HB6 := Lib.hid (HBW.out.trans ((HD.out.below HSZ.out hk6).mono hwB))
              have HZ6 := Lib.hid (Nat.le_trans HSZ.out hk6.only.size)
              clear hd6 hk6
              dsimp only
              repeat (first | go_values | go_skip | go_guarded | go_step)
              refine (image_any HD6.out).mono ?_
              rintro e w7 ⟨v7, rfl, hown, hb7⟩
              have HB7 := Lib.hid (HB6.out.trans (hb7.mono (Nat.le_trans hwB HZ6.out)))
              have hlen : (flushD A Bs keep).lies.length = 50 := by
                have h := Dev.crash_ok (d := D1.writes 25 Bs)
                show (crashed _ _ _ _ _).length = 50
                rw [crashed_length, ← HDD.out]
                exact HDL.out
              rw [hlen] at hown
              obtain ⟨a7, c7, rfl⟩ := own_slice hown
              obtain ⟨IMG, hIMG⟩ : ∃ I, I = strOf (flushD A Bs keep).lies.flatten := ⟨_, rfl⟩
              have hcv : (convert 22 9 (.slice a7 (50 * 64) c7)).run Try.prog w7 = .ok (.string IMG) w7 := by rw [hIMG]; exact text_of (ownsRow_lies hown) _ Try.underlying9
              have HSE : Hid (Sect (flushD A Bs keep).lies) := Lib.hid HD6.out.ok.sect
              have hI : IMG.size = 3200 := by rw [hIMG, strOf_size, flat_length HSE.out, hlen]
              have HEX : Hid (∀ i, i < 50 → IMG.extract (64 * i) (64 * i + 64) = strOf (wantB A Bs keep i)) := Lib.hid (fun i hi => by
                have hg := flush_get (A := A) (Bs := Bs) keep HALL.out HALB.out (by rw [← HLA.out]; exact h1) (by rw [← HLB.out]; exact h2) hi
                have h := flat_at HSE.out hg
                rw [hIMG, strOf_extract, show 64 * i + 64 - 64 * i = 64 by omega, Nat.mul_comm, h])
              clear hown hb7 hIMG hlen HD HBW HSZ HZ6 HB6 HDL HDA HDN HDW
              dsimp only
              repeat (first | go_values | go_skip | go_guarded | go_step)
              obtain ⟨lb, hlbk⟩ : ∃ l, l = k := ⟨_, rfl⟩
              subst hlbk
              obtain ⟨Z0, hZ0⟩ : ∃ Z, Z = strOf (padB []) := ⟨_, rfl⟩
              have HZ0 : Hid (∀ W, Calls Try.prog 11 #[.string ⟨#[]⟩] W fun e w' => e = .returned (.string Z0) ∧ w' = W) := Lib.hid (by rw [hZ0]; exact full_any [] (by simp))
              have HZZ := Lib.hid hZ0
              obtain ⟨s, hs⟩ : ∃ s, s = 25 + lb := ⟨_, rfl⟩
              have es : (25 : Int) + (lb : Int) = (s : Int) := by omega
              have esw : IntKind.i64.wrap (25 + (lb : Int)) = (s : Int) := by rw [IntKind.wrap_i64]; omega
              have HSS := Lib.hid hs
              clear hZ0 hs hcv
              go_loopw [84] (fun i wr => ∃ k : Nat, k ≤ 50 ∧ i = .int .i64 k ∧ Below w.heap.size w wr) (fun i _ => 50 - (intOf i).toNat)
              case atStart => exact ⟨0, by omega, rfl, HB7.out⟩
              case round =>
                obtain ⟨k, hk, rfl, hbw⟩ := hrel
                clear HB7
                have HBW := Lib.hid hbw
                clear hbw
                by_cases hlt : k < 50
                · have t3 : decide ((k : Int) < 50) = true := by simp only [decide_eq_true_eq]; omega
                  have e1 : IntKind.i64.wrap ((k : Int) + 1) = ((k + 1 : Nat) : Int) := by rw [IntKind.wrap_i64]; omega
                  obtain ⟨p, hp⟩ : ∃ p, p = 64 * k := ⟨_, rfl⟩
                  obtain ⟨q, hq⟩ : ∃ q, q = 64 * k + 64 := ⟨_, rfl⟩
                  have ep : (64 : Int) * (k : Int) = (p : Int) := by omega
                  have epw : IntKind.i64.wrap (64 * (k : Int)) = (p : Int) := by rw [IntKind.wrap_i64]; omega
                  have eq_ : (p : Int) + 64 = (q : Int) := by omega
                  have eqw : IntKind.i64.wrap ((p : Int) + 64) = (q : Int) := by rw [IntKind.wrap_i64]; omega
                  have hpq : p ≤ q := by omega
                  have hpqI : (p : Int) ≤ (q : Int) := by omega
                  have hqI : (q : Int) ≤ 3200 := by omega
                  have hqN : q ≤ 3200 := by omega
                  have hex := HEX.out k hlt
                  rw [← hq, ← hp] at hex
                  have HEXK := Lib.hid hex
                  clear hp hq hex
                  by_cases hka : k < la
                  · have t4 : decide ((k : Int) < (la : Int)) = true := by simp only [decide_eq_true_eq]; omega
                    have hkl : k < A.length := by rw [← HLA.out]; exact hka
                    obtain ⟨b, off, rfl, hrow⟩ := HR0.out (fun e => by rw [e] at hkl; simp at hkl)
                    obtain ⟨bs, hbs⟩ : ∃ bs, A[k]? = some bs := ⟨A[k], List.getElem?_eq_getElem hkl⟩
                    obtain ⟨ar, cr, d1, hli⟩ := row_get (hrow k bs hbs) HBW.out
                    obtain ⟨R, hR⟩ : ∃ R, R = strOf (padB bs) := ⟨_, rfl⟩
                    obtain ⟨T, hT⟩ : ∃ T, T = strOf bs := ⟨_, rfl⟩
                    have hlen : bs.length ≤ 64 := HALL.out bs (List.mem_of_getElem? hbs)
                    have HFL : Hid (∀ W, Calls Try.prog 11 #[.string T] W fun e w' => e = .returned (.string R) ∧ w' = W) := Lib.hid (by rw [hT, hR]; exact full_any bs (by omega))
                    have hcv : (convert 22 9 (.slice ar bs.length cr)).run Try.prog wr = .ok (.string T) wr := by rw [hT]; exact text_of hli _ Try.underlying9
                    have hex : IMG.extract p q = R := by
                      rw [HEXK.out, hR]; unfold wantB; rw [if_pos hkl]; simp [List.getD, hbs]
                    obtain ⟨l, hl⟩ : ∃ l, l = bs.length := ⟨_, rfl⟩
                    rw [← hl] at hcv d1
                    clear hR hT hlen hli hbs hrow hl hkl HEXK
                    repeat (first | (go_at_call 11; with_reducible refine (HZ0.out _).mono ?_; rintro e w8 ⟨rfl, h8⟩; have h8 := h8.symm; subst h8; dsimp only) | (go_at_call 11; with_reducible refine (HFL.out _).mono ?_; rintro e w8 ⟨rfl, h8⟩; have h8 := h8.symm; subst h8; dsimp only) | go_values | go_skip | go_guarded | go_step)
                    go_roundw
                    case rel => exact ⟨k + 1, by omega, by go_num, HBW.out⟩
                    case measure => simp [intOf]; omega
                  · have t4 : decide ((k : Int) < (la : Int)) = false := by simp only [decide_eq_false_iff_not]; omega
                    by_cases hkb : 25 ≤ k
                    · have t5 : decide ((25 : Int) ≤ (k : Int)) = true := by simp only [decide_eq_true_eq]; omega
                      obtain ⟨j, hj⟩ : ∃ j, j = k - 25 := ⟨_, rfl⟩
                      have ej : (k : Int) - 25 = (j : Int) := by omega
                      have ejw : IntKind.i64.wrap ((k : Int) - 25) = (j : Int) := by rw [IntKind.wrap_i64]; omega
                      have hj64 : j < 64 := by omega
                      by_cases hks : k < s
                      · have t6 : decide ((k : Int) < (s : Int)) = true := by simp only [decide_eq_true_eq]; omega
                        have tK := keep_bit1 keep j HKP.out hj64
                        obtain ⟨Q, hQ⟩ : ∃ Q, Q = kept keep j := ⟨_, rfl⟩
                        rw [← hQ] at tK
                        cases Q
                        · have hex : IMG.extract p q = Z0 := by
                            rw [HEXK.out, HZZ.out]; unfold wantB
                            rw [if_neg (by rw [← HLA.out]; exact hka), if_neg (fun h => by have h3 := h.2.2; rw [← hj, ← hQ] at h3; simp at h3)]
                          have HJ := Lib.hid hj
                          have HQ := Lib.hid hQ
                          clear hj hQ HEXK
                          repeat (first | (go_at_call 11; with_reducible refine (HZ0.out _).mono ?_; rintro e w8 ⟨rfl, h8⟩; have h8 := h8.symm; subst h8; dsimp only) | go_values | go_skip | go_guarded | go_step)
                          go_roundw
                          case rel => exact ⟨k + 1, by omega, by go_num, HBW.out⟩
                          case measure => simp [intOf]; omega
                        · have hkl : j < Bs.length := by rw [← HLB.out]; have := HSS.out; omega
                          obtain ⟨b, off, rfl, hrow⟩ := HR1.out (fun e => by rw [e] at hkl; simp at hkl)
                          obtain ⟨bs, hbs⟩ : ∃ bs, Bs[j]? = some bs := ⟨Bs[j], List.getElem?_eq_getElem hkl⟩
                          obtain ⟨ar, cr, d1, hli⟩ := row_get (hrow j bs hbs) HBW.out
                          obtain ⟨R, hR⟩ : ∃ R, R = strOf (padB bs) := ⟨_, rfl⟩
                          obtain ⟨T, hT⟩ : ∃ T, T = strOf bs := ⟨_, rfl⟩
                          have hlen : bs.length ≤ 64 := HALB.out bs (List.mem_of_getElem? hbs)
                          have HFL : Hid (∀ W, Calls Try.prog 11 #[.string T] W fun e w' => e = .returned (.string R) ∧ w' = W) := Lib.hid (by rw [hT, hR]; exact full_any bs (by omega))
                          have hcv : (convert 22 9 (.slice ar bs.length cr)).run Try.prog wr = .ok (.string T) wr := by rw [hT]; exact text_of hli _ Try.underlying9
                          have hex : IMG.extract p q = R := by
                            rw [HEXK.out, hR]; unfold wantB
                            rw [if_neg (by rw [← HLA.out]; exact hka), if_pos ⟨hkb, by rw [← HLB.out, ← HSS.out]; exact hks, by rw [← hj, ← hQ]⟩, ← hj]
                            simp [List.getD, hbs]
                          have hjI : (j : Int) < (lb : Int) := by have := HSS.out; omega
                          have hjN : j < lb := by have := HSS.out; omega
                          obtain ⟨l, hl⟩ : ∃ l, l = bs.length := ⟨_, rfl⟩
                          rw [← hl] at hcv d1
                          have HJ := Lib.hid hj
                          have HQ := Lib.hid hQ
                          clear hR hT hlen hli hbs hrow hl hkl HEXK hj hQ
                          repeat (first | (go_at_call 11; with_reducible refine (HZ0.out _).mono ?_; rintro e w8 ⟨rfl, h8⟩; have h8 := h8.symm; subst h8; dsimp only) | (go_at_call 11; with_reducible refine (HFL.out _).mono ?_; rintro e w8 ⟨rfl, h8⟩; have h8 := h8.symm; subst h8; dsimp only) | go_values | go_skip | go_guarded | go_step)
                          go_roundw
                          case rel => exact ⟨k + 1, by omega, by go_num, HBW.out⟩
                          case measure => simp [intOf]; omega
                      · have t6 : decide ((k : Int) < (s : Int)) = false := by simp only [decide_eq_false_iff_not]; omega
                        have hex : IMG.extract p q = Z0 := by
                          rw [HEXK.out, HZZ.out]; unfold wantB
                          rw [if_neg (by rw [← HLA.out]; exact hka), if_neg (fun h => hks (by rw [HSS.out, HLB.out]; exact h.2.1))]
                        clear hj HEXK
                        repeat (first | (go_at_call 11; with_reducible refine (HZ0.out _).mono ?_; rintro e w8 ⟨rfl, h8⟩; have h8 := h8.symm; subst h8; dsimp only) | go_values | go_skip | go_guarded | go_step)
                        go_roundw
                        case rel => exact ⟨k + 1, by omega, by go_num, HBW.out⟩
                        case measure => simp [intOf]; omega
                    · have t5 : decide ((25 : Int) ≤ (k : Int)) = false := by simp only [decide_eq_false_iff_not]; omega
                      have hex : IMG.extract p q = Z0 := by
                        rw [HEXK.out, HZZ.out]; unfold wantB
                        rw [if_neg (by rw [← HLA.out]; exact hka), if_neg (fun h => hkb h.1)]
                      clear HEXK
                      repeat (first | (go_at_call 11; with_reducible refine (HZ0.out _).mono ?_; rintro e w8 ⟨rfl, h8⟩; have h8 := h8.symm; subst h8; dsimp only) | go_values | go_skip | go_guarded | go_step)
                      go_roundw
                      case rel => exact ⟨k + 1, by omega, by go_num, HBW.out⟩
                      case measure => simp [intOf]; omega
                · have t3 : decide ((k : Int) < 50) = false := by simp only [decide_eq_false_iff_not]; omega
                  obtain rfl : k = 50 := by omega
                  repeat (first | go_values | go_skip | go_guarded | go_step)
                  go_ret
                  exact ⟨rfl, HBW.out⟩
    · have t2 : decide ((20 : Int) < (lb : Int)) = true := by simp only [decide_eq_true_eq]; omega
      go_enter Try.func5, Try.ntmps5
      repeat (first | (go_at_call 6; refine (HLV.out _).mono ?_; rintro e w1 ⟨rfl, hb1⟩; replace HBw := Lib.hid (HBw.out.trans (hb1.mono HBw.out.size)); clear hb1; dsimp only) | go_values | go_skip | go_guarded | go_step)
      go_ret
      exact ⟨rfl, HBw.out⟩
  · have t1 : decide ((20 : Int) < (la : Int)) = true := by simp only [decide_eq_true_eq]; omega
    go_enter Try.func5, Try.ntmps5
    repeat (first | (go_at_call 6; refine (HLV.out _).mono ?_; rintro e w1 ⟨rfl, hb1⟩; replace HBw := Lib.hid (HBw.out.trans (hb1.mono HBw.out.size)); clear hb1; dsimp only) | go_values | go_skip | go_guarded | go_step)
    go_ret
    exact ⟨rfl, HBw.out⟩
end Go.Proofs.Ytmbhnnbicdioeaa
