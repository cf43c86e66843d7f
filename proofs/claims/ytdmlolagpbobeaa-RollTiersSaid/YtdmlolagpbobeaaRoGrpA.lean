/- Package roll: group over aggregates. Written by py/roll-group.py. -/
import Derived.Test.YtdmlolagpbobeaaRoGrp
import Derived.Test.YtdmlolagpbobeaaRoRiseA
import Derived.Test.YtdmlolagpbobeaaRoJoin
import Derived.Test.YtdmlolagpbobeaaPtFit
import Derived.Test.YtdmlolagpbobeaaWiSt
namespace Go.Proofs.Ytdmlolagpbobeaa
open Go.RowKit

/-- the windows' aggregates, of a row that rises -/
def grpA (t : Int) (l : List Ag) : List Ag := (runs (fun p => startW t p.at_) l).filterMap fun e => joinA e.1 e.2
theorem grpA_at {t : Int} {l : List Ag} {i j : Nat} {k : Int} (hij : i < j) (hj : j ≤ l.length) (hk : SameK (fun x : Ag => startW t x.at_) l i j k) (hr : ∀ y, l[j]? = some y → startW t y.at_ ≠ k) :
    grpA t (l.drop i) = (joinA k ((l.drop i).take (j - i))).toList ++ grpA t (l.drop j) := by
  unfold grpA
  rw [runs_at _ k hij hj hk hr, List.filterMap_cons]
  cases joinA k ((l.drop i).take (j - i)) <;> rfl

set_option maxHeartbeats 16000000 in
set_option maxRecDepth 1000000 in
theorem rogrpA_any {w : World} {t : Int} (ht0 : -9223372036854775808 ≤ t) (ht1 : t ≤ 9223372036854775807) {v : Value} {l : List Ag} (hv : ALies w v l) (hfi : Fits v) (hf : ∀ p ∈ l, p.fits) (hl : l.length ≤ 1000000) :
    Calls Try.prog 25 #[.int .i64 t, v, .func (.func 26) #[] #[], .func (.func 13) #[] #[]] w fun e w' => ∃ v', e = .returned v' ∧ AgRow w.heap.size w' v' (aggsR t l) ∧ Below w.heap.size w w' := by
  have HWI : Hid (∀ W, Calls Try.prog 28 #[.int .i64 t] W fun e w' => e = .returned (.int .i64 (widthW t)) ∧ w' = W) := Lib.hid fun W => wiwidth_any W t ht0 ht1
  have HST : Hid (∀ W p, p ∈ l → Calls Try.prog 30 #[.int .i64 t, .int .i64 p.at_] W fun e w' => e = .returned (.int .i64 (startW t p.at_)) ∧ w' = W) := Lib.hid fun W p hp => wistart_any W t p.at_ ht0 ht1 (hf p hp).a0 (hf p hp).a1
  have HRI := Lib.hid (roriseA_any hv (by omega))
  have HA : Hid (∀ W (p : Ag), Calls Try.prog 26 #[.agg #[.int .i64 p.at_, .int .i64 p.n, .int .i64 p.s, .int .i64 p.lo, .int .i64 p.hi]] W fun e w' => e = .returned (.int .i64 p.at_) ∧ Below W.heap.size W w') := Lib.hid roatA_any
  have HOF : Hid (∀ (W : World) (k : Int) (u : Value) (g : List Ag), -9223372036854775808 ≤ k → k ≤ 9223372036854775807 → ALies W u g → (∀ p ∈ g, p ∈ l) → g.length ≤ 1000000 → Calls Try.prog 13 #[.int .i64 k, u] W fun e w' => e = .returned (.tuple #[agV (joinR k g), .bool ((joinA k g).isSome)]) ∧ Below W.heap.size W w') := Lib.hid fun W k u g k0 k1 hu hg hn => rojoin_any k0 k1 hu (fun p hp => hf p (hg p hp)) (by omega)
  obtain ⟨a, b, off, cap, rfl, hadr, hpts⟩ := hv
  have hcl : l.length ≤ cap := hfi _ _ _ rfl
  have HCL := Lib.hid hcl
  have HADR := Lib.hid hadr
  have HP := Lib.hid hpts
  have HF := Lib.hid hf
  have HL := Lib.hid hl
  clear hadr hpts hf hl hfi hcl ht0 ht1
  obtain ⟨R, hR⟩ : ∃ R, R = aggsR t l := ⟨_, rfl⟩
  rw [← hR]
  have HR := Lib.hid hR
  clear hR
  by_cases hw : widthW t = 0
  · have HNO : Hid (R = []) := Lib.hid (by rw [HR.out]; unfold aggsR; rw [if_pos (.inl hw)])
    rw [hw] at HWI
    clear hw
    go_enter Try.func25, Try.ntmps25
    go_wp2_with fail
    refine (HWI.out w).mono ?_
    rintro e Wx ⟨rfl, hw⟩; replace hw := hw.symm; subst hw
    dsimp only
    go_wp2_with fail
    go_ret
    exact ⟨_, rfl, by rw [HNO.out]; exact AgRow.nil _ _, Below.refl _ _⟩
  have tw : (widthW t == 0) = false := by simpa using hw
  have HWZ := Lib.hid hw
  clear hw
  cases hup : upFrom (-1) (l.map Ag.at_) with
  | false =>
    have HNO : Hid (R = []) := Lib.hid (by rw [HR.out]; unfold aggsR; rw [if_pos (.inr hup)])
    rw [hup] at HRI
    clear hup
    go_enter Try.func25, Try.ntmps25
    go_wp2_with fail
    refine (HWI.out w).mono ?_
    rintro e Wx ⟨rfl, hw⟩; replace hw := hw.symm; subst hw
    dsimp only
    go_wp2_with fail
    refine (HRI.out).mono ?_
    rintro e W1 ⟨rfl, hb⟩
    have HB1 := Lib.hid hb
    clear hb
    dsimp only
    go_wp2_with fail
    go_ret
    exact ⟨_, rfl, by rw [HNO.out]; exact AgRow.nil _ _, HB1.out⟩
  | true =>
    have HRE : Hid (R = grpA t l) := Lib.hid (by rw [HR.out]; unfold aggsR; rw [if_neg (by rw [hup]; rintro (h | h); exact HWZ.out h; cases h)]; rfl)
    rw [hup] at HRI
    clear hup
    go_enter Try.func25, Try.ntmps25
    go_wp2_with fail
    refine (HWI.out w).mono ?_
    rintro e Wx ⟨rfl, hw⟩; replace hw := hw.symm; subst hw
    dsimp only
    go_wp2_with fail
    refine (HRI.out).mono ?_
    rintro e W1 ⟨rfl, hb⟩
    have HB1 := Lib.hid hb
    clear hb HRI HWI
    dsimp only
    go_wp2_with fail
    go_loopw [9, 10] (fun vv c wr => ∃ (i : Nat) (done : List Ag) (v9 : Value), i ≤ l.length ∧ done.length ≤ i ∧ c = .int .i64 i ∧ v9 = vv ∧ AgRow w.heap.size wr v9 done ∧ R = done ++ grpA t (l.drop i) ∧ Below w.heap.size w wr) (fun _ c _ => l.length - (intOf c).toNat)
    case atStart => exact ⟨0, [], _, Nat.zero_le _, Nat.le_refl _, rfl, rfl, AgRow.nil _ _, by rw [HRE.out]; rfl, HB1.out⟩
    case round =>
      obtain ⟨i, done, v9, hi, hd, rfl, rfl, hrow, hre, hb⟩ := hrel
      obtain ⟨W2, hW2⟩ : ∃ W2, W2 = wr := ⟨_, rfl⟩
      subst hW2
      have HROW2 := Lib.hid hrow
      have HRE2 := Lib.hid hre
      have HB2 := Lib.hid hb
      have HP2 := Lib.hid (HP.out.beyond hb)
      clear hrow hre hb HB1 HRE HR
      have hlen : l.length ≤ 1000000 := HL.out
      by_cases hlt : i < l.length
      · have ea := HADR.out (by intro h; simp [h] at hlt)
        subst ea
        obtain ⟨p, hp⟩ : ∃ p, l[i]? = some p := ⟨l[i], List.getElem?_eq_getElem hlt⟩
        obtain ⟨c0, c1, c2, c3, c4⟩ := HP2.out i p hp
        have HPK := Lib.hid hp
        have HSTP := Lib.hid fun W => HST.out W p (List.mem_of_getElem? hp)
        clear hp
        go_wp2_with fail
        refine (HA.out W2 p).mono ?_
        rintro e W3 ⟨rfl, hb⟩
        have HROW3 := Lib.hid (HROW2.out.keep hb)
        have HB3 := Lib.hid (HB2.out.trans (hb.mono HB2.out.size))
        clear hb c0 c1 c2 c3 c4 HROW2 HB2 HP2
        dsimp only
        go_wp2_with fail
        refine (HSTP.out W3).mono ?_
        rintro e Wx ⟨rfl, hw⟩; replace hw := hw.symm; subst hw
        dsimp only
        obtain ⟨k, hk⟩ : ∃ k, k = startW t p.at_ := ⟨_, rfl⟩
        have HK := Lib.hid hk
        have HS0 : Hid (SameK (fun x : Ag => startW t x.at_) l i (i + 1) k) := Lib.hid fun m x h1 h2 hx => by
          obtain rfl : m = i := by omega
          rw [HPK.out] at hx
          rw [← Option.some.inj hx]; exact hk.symm
        have hkr : 0 ≤ k ∧ k ≤ 9223372036854775807 := by rw [hk]; exact start_range t (HF.out p (List.mem_of_getElem? HPK.out)).a1
        have HKR := Lib.hid hkr
        rw [← hk]
        clear hk hkr
        go_wp2_with fail
        go_loopw [12] (fun c wr => ∃ j : Nat, i < j ∧ j ≤ l.length ∧ c = .int .i64 j ∧ SameK (fun x : Ag => startW t x.at_) l i j k ∧ AgRow w.heap.size wr v9 done ∧ Below w.heap.size w wr) (fun c _ => l.length - (intOf c).toNat)
        case atStart => exact ⟨i + 1, by omega, by omega, by go_num, HS0.out, HROW3.out, HB3.out⟩
        case round =>
          obtain ⟨j, hij, hj, rfl, hsame, hrow, hb⟩ := hrel
          obtain ⟨W4, hW4⟩ : ∃ W4, W4 = wr := ⟨_, rfl⟩
          subst hW4
          have HSAME := Lib.hid hsame
          have HROW4 := Lib.hid hrow
          have HB4 := Lib.hid hb
          have HP4 := Lib.hid (HP.out.beyond hb)
          clear hsame hrow hb HS0 HROW3 HB3
          by_cases hjl : j < l.length
          · obtain ⟨q, hq⟩ : ∃ q, l[j]? = some q := ⟨l[j], List.getElem?_eq_getElem hjl⟩
            obtain ⟨c0, c1, c2, c3, c4⟩ := HP4.out j q hq
            have HQK := Lib.hid hq
            have HSTQ := Lib.hid fun W => HST.out W q (List.mem_of_getElem? hq)
            clear hq
            go_wp2_with fail
            refine (HA.out W4 q).mono ?_
            rintro e W5 ⟨rfl, hb⟩
            have HROW5 := Lib.hid (HROW4.out.keep hb)
            have HB5 := Lib.hid (HB4.out.trans (hb.mono HB4.out.size))
            have HP5 := Lib.hid (HP.out.beyond HB5.out)
            clear hb c0 c1 c2 c3 c4 HROW4 HB4 HP4
            dsimp only
            go_wp2_with fail
            refine (HSTQ.out W5).mono ?_
            rintro e Wx ⟨rfl, hw⟩; replace hw := hw.symm; subst hw
            dsimp only
            by_cases hkq : startW t q.at_ = k
            · have HSN : Hid (SameK (fun x : Ag => startW t x.at_) l i (j + 1) k) := Lib.hid (HSAME.out.more HQK.out hkq)
              have tk : (startW t q.at_ == k) = true := by simpa using hkq
              clear hkq
              go_wp2_with fail
              go_roundw
              case rel => exact ⟨j + 1, by omega, by omega, by go_num, HSN.out, HROW5.out, HB5.out⟩
              case measure => simp [intOf]; omega
            · have HNX : Hid (grpA t (l.drop i) = (joinA k ((l.drop i).take (j - i))).toList ++ grpA t (l.drop j)) := Lib.hid (grpA_at hij hj HSAME.out fun y hy => by rw [HQK.out] at hy; rw [← Option.some.inj hy]; exact hkq)
              have tk : (startW t q.at_ == k) = false := by simpa using hkq
              clear hkq HSAME HQK
              have hic : ¬ (cap = i) := by have := HCL.out; omega
              have hjc : (j : Int) ≤ (cap : Int) := by have := HCL.out; omega
              have hij2 : (i : Int) ≤ (j : Int) := by omega
              have hcall := HOF.out W5 k (.slice (some ⟨b, off + i * 5, none⟩) (j - i) (cap - i)) ((l.drop i).take (j - i)) (by have := HKR.out; omega) HKR.out.2 (ags_part HP5.out hj (cap - i)) (fun p hp => mem_part hp) (by rw [part_len l hj]; omega)
              obtain ⟨G, hG⟩ : ∃ G, G = (l.drop i).take (j - i) := ⟨_, rfl⟩
              rw [← hG] at hcall HNX
              have HGE : Hid (G ≠ []) := Lib.hid (by rw [hG]; intro h0; have h1 := part_len l (i := i) hj; rw [h0] at h1; simp at h1; omega)
              clear hG
              by_cases hjs : (joinA k G).isSome = true
              · obtain ⟨A0, hjo⟩ := Option.isSome_iff_exists.1 hjs
                have hjr : joinR k G = A0 := by unfold joinR; rw [hjo]; rfl
                rw [hjo] at HNX
                rw [hjr] at hcall
                clear hjo hjr
                obtain ⟨A, hA⟩ : ∃ A, A = A0 := ⟨_, rfl⟩
                rw [← hA] at hcall HNX
                rw [hjs] at hcall
                have HC := Lib.hid hcall
                clear hcall hA
                go_wp2_with fail
                refine (HC.out).mono ?_
                rintro e W8 ⟨rfl, hb⟩
                have HROW8 := Lib.hid (HROW5.out.keep hb)
                have HB8 := Lib.hid (HB5.out.trans (hb.mono HB5.out.size))
                clear hb HROW5 HB5 HP5 HC
                unfold agV
                go_upto_region 11 with fail
                refine wp_name fun W9 hW9 => ?_
                obtain ⟨M, hM⟩ : ∃ M, M = W8.heap.size := ⟨_, rfl⟩
                have hb9 : Below W8.heap.size W8 W9 := by rw [hW9.out]; exact (Below.refl _ _).alloc (Nat.le_refl _) _
                have HM9 : Hid (AgAt W9 M A) := Lib.hid (by rw [hW9.out, hM]; exact AgAt.new W8 A)
                have HROW9 := Lib.hid (HROW8.out.keep hb9)
                have HB9 := Lib.hid (HB8.out.trans (hb9.mono HB8.out.size))
                rw [← hM]
                clear hb9 hW9 hM HROW8 HB8
                obtain ⟨c0, c1, c2, c3, c4, -, -, -, -, -⟩ := HM9.out.cells
                have HNEW := Lib.hid (AgAt.new W9 A)
                have HRW := Lib.hid (HROW9.out.keep ((Below.refl W9.heap.size W9).alloc (Nat.le_refl _) (.cells #[.int .i64 A.at_, .int .i64 A.n, .int .i64 A.s, .int .i64 A.lo, .int .i64 A.hi] 25)))
                have HBW := Lib.hid (HB9.out.alloc HB9.out.size (.cells #[.int .i64 A.at_, .int .i64 A.n, .int .i64 A.s, .int .i64 A.lo, .int .i64 A.hi] 25))
                go_wp2_with (at_builtin; refine wpList_append_ag rfl (.tmp 67) (.tmp 69) rfl w.heap.size _ done rfl HRW.out W9.heap.size A rfl HNEW.out (by omega) HBW.out.size ?_; intro v10 W10 HROW10 hgrow; have HB10 : Hid (Below w.heap.size w W10) := Lib.hid (HBW.out.grown hgrow.out HBW.out.size (fun b hb => (HRW.out.lt b hb).1)); clear hgrow)
                have HRN : Hid (R = (done ++ [A]) ++ grpA t (l.drop j)) := Lib.hid (by rw [HRE2.out, HNX.out, List.append_assoc]; rfl)
                go_roundw
                case rel => exact ⟨j, done ++ [A], _, by omega, by rw [List.length_append]; simp; omega, rfl, rfl, HROW10.out, HRN.out, HB10.out⟩
                case measure => simp [intOf]; omega
              · have hjn : (joinA k G).isSome = false := by simpa using hjs
                have hjo : joinA k G = none := by simpa using hjs
                clear hjs
                rw [hjn] at hcall
                obtain ⟨A, hA⟩ : ∃ A, A = joinR k G := ⟨_, rfl⟩
                rw [← hA] at hcall
                have HC := Lib.hid hcall
                have HRN : Hid (R = done ++ grpA t (l.drop j)) := Lib.hid (by rw [HRE2.out, HNX.out, hjo]; rfl)
                clear hcall hA hjn hjo HNX
                go_wp2_with fail
                refine (HC.out).mono ?_
                rintro e W8 ⟨rfl, hb⟩
                have HROW8 := Lib.hid (HROW5.out.keep hb)
                have HB8 := Lib.hid (HB5.out.trans (hb.mono HB5.out.size))
                clear hb HROW5 HB5 HP5 HC
                unfold agV
                go_upto_region 11 with fail
                refine wp_name fun W9 hW9 => ?_
                have hb9 : Below W8.heap.size W8 W9 := by rw [hW9.out]; exact (Below.refl _ _).alloc (Nat.le_refl _) _
                have HROW9 := Lib.hid (HROW8.out.keep hb9)
                have HB9 := Lib.hid (HB8.out.trans (hb9.mono HB8.out.size))
                clear hb9 hW9 HROW8 HB8
                go_wp2_with fail
                go_roundw
                case rel => exact ⟨j, done, _, by omega, by omega, rfl, rfl, HROW9.out, HRN.out, HB9.out⟩
                case measure => simp [intOf]; omega
          · obtain rfl : j = l.length := by omega
            have HNX : Hid (grpA t (l.drop i) = (joinA k ((l.drop i).take (l.length - i))).toList ++ grpA t (l.drop l.length)) := Lib.hid (grpA_at hij hj HSAME.out fun y hy => by have := (List.getElem?_eq_some_iff.1 hy).1; omega)
            clear HSAME
            have hic : ¬ (cap = i) := by have := HCL.out; omega
            have hjc : (l.length : Int) ≤ (cap : Int) := by have := HCL.out; omega
            have hij2 : (i : Int) ≤ (l.length : Int) := by omega
            have hcall := HOF.out W4 k (.slice (some ⟨b, off + i * 5, none⟩) (l.length - i) (cap - i)) ((l.drop i).take (l.length - i)) (by have := HKR.out; omega) HKR.out.2 (ags_part HP4.out hj (cap - i)) (fun p hp => mem_part hp) (by rw [part_len l hj]; omega)
            obtain ⟨G, hG⟩ : ∃ G, G = (l.drop i).take (l.length - i) := ⟨_, rfl⟩
            rw [← hG] at hcall HNX
            have HGE : Hid (G ≠ []) := Lib.hid (by rw [hG]; intro h0; have h1 := part_len l (i := i) hj; rw [h0] at h1; simp at h1; omega)
            clear hG
            by_cases hjs : (joinA k G).isSome = true
            · obtain ⟨A0, hjo⟩ := Option.isSome_iff_exists.1 hjs
              have hjr : joinR k G = A0 := by unfold joinR; rw [hjo]; rfl
              rw [hjo] at HNX
              rw [hjr] at hcall
              clear hjo hjr
              obtain ⟨A, hA⟩ : ∃ A, A = A0 := ⟨_, rfl⟩
              rw [← hA] at hcall HNX
              rw [hjs] at hcall
              have HC := Lib.hid hcall
              clear hcall hA
              go_wp2_with fail
              refine (HC.out).mono ?_
              rintro e W8 ⟨rfl, hb⟩
              have HROW8 := Lib.hid (HROW4.out.keep hb)
              have HB8 := Lib.hid (HB4.out.trans (hb.mono HB4.out.size))
              clear hb HROW4 HB4 HP4 HC
              unfold agV
              go_upto_region 11 with fail
              refine wp_name fun W9 hW9 => ?_
              obtain ⟨M, hM⟩ : ∃ M, M = W8.heap.size := ⟨_, rfl⟩
              have hb9 : Below W8.heap.size W8 W9 := by rw [hW9.out]; exact (Below.refl _ _).alloc (Nat.le_refl _) _
              have HM9 : Hid (AgAt W9 M A) := Lib.hid (by rw [hW9.out, hM]; exact AgAt.new W8 A)
              have HROW9 := Lib.hid (HROW8.out.keep hb9)
              have HB9 := Lib.hid (HB8.out.trans (hb9.mono HB8.out.size))
              rw [← hM]
              clear hb9 hW9 hM HROW8 HB8
              obtain ⟨c0, c1, c2, c3, c4, -, -, -, -, -⟩ := HM9.out.cells
              have HNEW := Lib.hid (AgAt.new W9 A)
              have HRW := Lib.hid (HROW9.out.keep ((Below.refl W9.heap.size W9).alloc (Nat.le_refl _) (.cells #[.int .i64 A.at_, .int .i64 A.n, .int .i64 A.s, .int .i64 A.lo, .int .i64 A.hi] 25)))
              have HBW := Lib.hid (HB9.out.alloc HB9.out.size (.cells #[.int .i64 A.at_, .int .i64 A.n, .int .i64 A.s, .int .i64 A.lo, .int .i64 A.hi] 25))
              go_wp2_with (at_builtin; refine wpList_append_ag rfl (.tmp 67) (.tmp 69) rfl w.heap.size _ done rfl HRW.out W9.heap.size A rfl HNEW.out (by omega) HBW.out.size ?_; intro v10 W10 HROW10 hgrow; have HB10 : Hid (Below w.heap.size w W10) := Lib.hid (HBW.out.grown hgrow.out HBW.out.size (fun b hb => (HRW.out.lt b hb).1)); clear hgrow)
              have HRN : Hid (R = (done ++ [A]) ++ grpA t (l.drop l.length)) := Lib.hid (by rw [HRE2.out, HNX.out, List.append_assoc]; rfl)
              go_roundw
              case rel => exact ⟨l.length, done ++ [A], _, by omega, by rw [List.length_append]; simp; omega, rfl, rfl, HROW10.out, HRN.out, HB10.out⟩
              case measure => simp [intOf]; omega
            · have hjn : (joinA k G).isSome = false := by simpa using hjs
              have hjo : joinA k G = none := by simpa using hjs
              clear hjs
              rw [hjn] at hcall
              obtain ⟨A, hA⟩ : ∃ A, A = joinR k G := ⟨_, rfl⟩
              rw [← hA] at hcall
              have HC := Lib.hid hcall
              have HRN : Hid (R = done ++ grpA t (l.drop l.length)) := Lib.hid (by rw [HRE2.out, HNX.out, hjo]; rfl)
              clear hcall hA hjn hjo HNX
              go_wp2_with fail
              refine (HC.out).mono ?_
              rintro e W8 ⟨rfl, hb⟩
              have HROW8 := Lib.hid (HROW4.out.keep hb)
              have HB8 := Lib.hid (HB4.out.trans (hb.mono HB4.out.size))
              clear hb HROW4 HB4 HP4 HC
              unfold agV
              go_upto_region 11 with fail
              refine wp_name fun W9 hW9 => ?_
              have hb9 : Below W8.heap.size W8 W9 := by rw [hW9.out]; exact (Below.refl _ _).alloc (Nat.le_refl _) _
              have HROW9 := Lib.hid (HROW8.out.keep hb9)
              have HB9 := Lib.hid (HB8.out.trans (hb9.mono HB8.out.size))
              clear hb9 hW9 HROW8 HB8
              go_wp2_with fail
              go_roundw
              case rel => exact ⟨l.length, done, _, by omega, by omega, rfl, rfl, HROW9.out, HRN.out, HB9.out⟩
              case measure => simp [intOf]; omega
      · obtain rfl : i = l.length := by omega
        have HEND : Hid (R = done) := Lib.hid (by rw [HRE2.out, List.drop_of_length_le (Nat.le_refl _)]; exact List.append_nil _)
        go_wp2_with fail
        go_ret
        exact ⟨_, rfl, by rw [HEND.out]; exact HROW2.out, HB2.out⟩
end Go.Proofs.Ytdmlolagpbobeaa
