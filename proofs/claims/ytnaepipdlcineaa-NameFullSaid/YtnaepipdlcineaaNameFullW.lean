/- NameFull, walked. Written by py/name-full.py. -/
import Derived.Test.YtnaepipdlcineaaNmLives
import Derived.Test.YtnaepipdlcineaaNmLess
import Derived.Test.YtnaepipdlcineaaNmParse
import Derived.Test.YtnaepipdlcineaaOpenKey
import Derived.Deep.DeepCutAuto
namespace Go.Proofs.Ytnaepipdlcineaa
open Go.RowKit

theorem ords_full (a b : ByteArray) : ordsOf (a ++ ⟨#[47]⟩ ++ b) = ordsOf a ++ 47 :: ordsOf b := by
  have h : ordsOf (strOf (ordsOf a ++ [47] ++ ordsOf b)) = ordsOf a ++ [47] ++ ordsOf b := ords_strOf fun x hx => by
    rcases List.mem_append.1 hx with hx | hx
    · rcases List.mem_append.1 hx with hx | hx
      · exact ordsOf_lt a x hx
      · rw [List.mem_singleton.1 hx]; decide
    · exact ordsOf_lt b x hx
  rw [strOf_append, strOf_append, strOf_ords, strOf_ords] at h
  exact h.trans (by simp)
/-- a full name is parsed to its key -/
theorem parsed_both {a b t r : ByteArray} {ok : Bool} (h : ParsedN (a ++ ⟨#[47]⟩ ++ b) t r ok) (ha : rightN (ordsOf a) = true) (hb : rightN (ordsOf b) = true) : ok = true ∧ t = a ∧ r = b := by
  rcases h with ⟨h1, h2, h3, _⟩ | ⟨_, _, _, h4⟩
  · rw [ords_full] at h2
    obtain ⟨e1, e2⟩ := cut_once h2 (right_slash ha) (right_slash h3)
    exact ⟨h1, ords_inj e1.symm, ords_inj e2.symm⟩
  · exact (h4 _ _ (ords_full a b) ha hb).elim
/-- what is no full name is not -/
theorem parsed_none {a b t r : ByteArray} {ok : Bool} (h : ParsedN (a ++ ⟨#[47]⟩ ++ b) t r ok) (hn : rightN (ordsOf a) = true → rightN (ordsOf b) = true → False) : ok = false ∧ t = ⟨#[]⟩ ∧ r = ⟨#[]⟩ := by
  rcases h with ⟨_, h2, h3, h4⟩ | ⟨h1, h2, h3, _⟩
  · rw [ords_full] at h2
    by_cases hs : 47 ∈ ordsOf a
    · obtain ⟨p, q, hp, hq⟩ := first_of hs
      rw [hp, List.append_assoc, List.cons_append] at h2
      obtain ⟨e1, e2⟩ := cut_once h2 hq (right_slash h3)
      exact (right_slash h4 (by rw [← e2]; simp)).elim
    · obtain ⟨e1, e2⟩ := cut_once h2 hs (right_slash h3)
      exact (hn (by rw [e1]; exact h3) (by rw [e2]; exact h4)).elim
  · exact ⟨h1, h2, h3⟩
theorem slash_here (s : ByteArray) (k : Nat) (h : k < s.size) (h47 : (ordsOf s).getD k 0 = 47) : ordsOf s = ordsOf (s.extract 0 k) ++ 47 :: ordsOf (s.extract (k + 1) s.size) := by
  have hl : k < (ordsOf s).length := by rw [ordsOf_length]; exact h
  rw [ords_extract, ords_extract, ← ordsOf_length s]
  simp only [List.drop_zero, Nat.sub_zero]
  rw [List.take_of_length_le (l := List.drop (k + 1) (ordsOf s)) (by simp), ← h47, show (ordsOf s).getD k 0 = (ordsOf s)[k] by simp [List.getD, List.getElem?_eq_getElem hl], ← List.drop_eq_getElem_cons hl, List.take_append_drop]
set_option maxHeartbeats 16000000 in
set_option maxRecDepth 1000000 in
theorem nameFull_walk {a b : ByteArray} (_h0 : a.size ≤ maxLen) (_h1 : b.size ≤ maxLen) (s : ByteArray) (_hs : s.size ≤ maxLen) (w : World) :
    Calls Try.prog 4 #[.agg #[.string a, .string b], .string s] w fun e w' => e = .returned (.bool true) ∧ Below w.heap.size w w' := by
  by_cases h1 : a.size ≤ 100
  · have t1 : decide ((100 : Int) < (a.size : Int)) = false := by simp only [decide_eq_false_iff_not]; omega
    by_cases h2 : b.size ≤ 100
    · have t2 : decide ((100 : Int) < (b.size : Int)) = false := by simp only [decide_eq_false_iff_not]; omega
      by_cases h3 : s.size ≤ 100
      · have t3 : decide ((100 : Int) < (s.size : Int)) = false := by simp only [decide_eq_false_iff_not]; omega
        have HRA : Hid (∀ W, Calls Try.prog 9 #[.string a] W fun e w' => e = .returned (.bool (rightN (ordsOf a))) ∧ w' = W) := Lib.hid fun W => nmdoc_any W a (by omega)
        have HRB : Hid (∀ W, Calls Try.prog 9 #[.string b] W fun e w' => e = .returned (.bool (rightN (ordsOf b))) ∧ w' = W) := Lib.hid fun W => nmdoc_any W b (by omega)
        have HFU : Hid (∀ W, Calls Try.prog 10 #[.agg #[.string a, .string b]] W fun e w' => e = .returned (.string (a ++ ⟨#[47]⟩ ++ b)) ∧ Below W.heap.size W w') := Lib.hid fun W => nmfull_any W a b (by omega) (by omega)
        obtain ⟨F, hF⟩ : ∃ F, F = a ++ ⟨#[47]⟩ ++ b := ⟨_, rfl⟩
        have eF := hF.symm
        have HPF : Hid (∀ W, Calls Try.prog 11 #[.string F] W fun e w' => (∃ t r ok, e = .returned (.tuple #[.agg #[.string t, .string r], .bool ok]) ∧ ParsedN (a ++ ⟨#[47]⟩ ++ b) t r ok) ∧ Below W.heap.size W w') := Lib.hid fun W => by
          rw [eF]; exact nmparse_any W F (by rw [hF]; simp only [ByteArray.size_append]; have : (⟨#[47]⟩ : ByteArray).size = 1 := rfl; omega)
        have HPS : Hid (∀ W, Calls Try.prog 11 #[.string s] W fun e w' => (∃ t r ok, e = .returned (.tuple #[.agg #[.string t, .string r], .bool ok]) ∧ ParsedN s t r ok) ∧ Below W.heap.size W w') := Lib.hid fun W => nmparse_any W s (by omega)
        rw [eF] at HFU
        clear hF
        go_enter Try.func4, Try.ntmps4
        repeat (first | go_values | go_skip | go_guarded | go_step)
        refine calls_name ?_
        intro W0 hW0
        obtain ⟨P, hP⟩ : ∃ P, P = w.heap.size := ⟨_, rfl⟩
        have HKA0 : Hid (KeyAt W0 P a b) := Lib.hid (by rw [hW0.out, hP]; exact KeyAt.new w a b)
        have HB0 : Hid (Below w.heap.size w W0) := Lib.hid (by rw [hW0.out]; exact (Below.refl _ _).alloc (Nat.le_refl _) _)
        rw [← hP]
        clear hW0 hP
        refine (nmlives_any W0).mono ?_
        rintro e W1 ⟨rfl, hb⟩
        have HKA1 := Lib.hid (HKA0.out.keep hb)
        have HB1 := Lib.hid (HB0.out.trans (hb.mono HB0.out.size))
        clear hb HKA0 HB0
        dsimp only
        obtain ⟨a0c, a1c⟩ := HKA1.out.cells
        repeat (first | go_values | go_skip | go_guarded | go_step)
        refine (HFU.out W1).mono ?_
        rintro e W2 ⟨rfl, hb⟩
        have HKA2 := Lib.hid (HKA1.out.keep hb)
        have HB2 := Lib.hid (HB1.out.trans (hb.mono HB1.out.size))
        clear hb HKA1 HB1 a0c a1c
        dsimp only
        repeat (first | go_values | go_skip | go_guarded | go_step)
        refine (HPF.out W2).mono ?_
        rintro e W3 ⟨⟨t, r, ok, rfl, hp⟩, hb⟩
        have HPP := Lib.hid hp
        have HKA3 := Lib.hid (HKA2.out.keep hb)
        have HB3 := Lib.hid (HB2.out.trans (hb.mono HB2.out.size))
        clear hb hp HKA2 HB2
        dsimp only
        cases hA : rightN (ordsOf a) with
        | false =>
          obtain ⟨rfl, rfl, rfl⟩ := parsed_none HPP.out (fun h => by rw [hA] at h; cases h)
          rw [hA] at HRA
          clear hA HPP
          go_upto_region 5 with fail
          refine wp_name fun W4 hW4 => ?_
          obtain ⟨Q, hQ⟩ : ∃ Q, Q = W3.heap.size := ⟨_, rfl⟩
          have HKX4 : Hid (KeyAt W4 Q ⟨#[]⟩ ⟨#[]⟩) := Lib.hid (by rw [hW4.out, hQ]; exact KeyAt.new W3 _ _)
          have hb : Below W3.heap.size W3 W4 := by rw [hW4.out]; exact (Below.refl _ W3).alloc (Nat.le_refl _) _
          have HKA4 := Lib.hid (HKA3.out.keep hb)
          have HB4 := Lib.hid (HB3.out.trans (hb.mono HB3.out.size))
          rw [← hQ]
          clear hb hW4 hQ HKA3 HB3
          obtain ⟨a0c, a1c⟩ := HKA4.out.cells
          obtain ⟨x0c, x1c⟩ := HKX4.out.cells
          repeat (first | go_values | go_skip | go_guarded | go_step)
          refine (HRA.out W4).mono ?_
          rintro e Wx ⟨rfl, hw⟩; replace hw := hw.symm; subst hw
          dsimp only
          repeat (first | go_values | go_skip | go_guarded | go_step)
          refine (HPS.out W4).mono ?_
          rintro e W5 ⟨⟨y0, y1, is, rfl, hp⟩, hb⟩
          have HPY := Lib.hid hp
          have HB5 := Lib.hid (HB4.out.trans (hb.mono HB4.out.size))
          clear hb hp HB4 HKA4 HKX4 a0c a1c x0c x1c
          dsimp only
          rcases HPY.out with ⟨rfl, hs, hy0, hy1⟩ | ⟨rfl, rfl, rfl, hno⟩
          · have HSZ : Hid (s.size = y0.size + 1 + y1.size) := Lib.hid (by have := congrArg List.length hs; rw [List.length_append, List.length_cons, ordsOf_length, ordsOf_length, ordsOf_length] at this; omega)
            have HR0 : Hid (∀ W, Calls Try.prog 9 #[.string y0] W fun e w' => e = .returned (.bool true) ∧ w' = W) := Lib.hid fun W => by rw [← hy0]; exact nmdoc_any W y0 (by have := HSZ.out; omega)
            have HR1 : Hid (∀ W, Calls Try.prog 9 #[.string y1] W fun e w' => e = .returned (.bool true) ∧ w' = W) := Lib.hid fun W => by rw [← hy1]; exact nmdoc_any W y1 (by have := HSZ.out; omega)
            have eS : y0 ++ ⟨#[47]⟩ ++ y1 = s := ords_inj (by rw [ords_full]; exact hs.symm)
            have z0 : y0.size ≤ 100 := by have := HSZ.out; omega
            have z1 : y1.size ≤ 100 := by have := HSZ.out; omega
            clear hs hy0 hy1 HPY
            go_upto_region 17 with fail
            refine wp_name fun W6 hW6 => ?_
            obtain ⟨U, hU⟩ : ∃ U, U = W5.heap.size := ⟨_, rfl⟩
            have HKY : Hid (KeyAt W6 U y0 y1) := Lib.hid (by rw [hW6.out, hU]; exact KeyAt.new W5 _ _)
            have HB6 : Hid (Below w.heap.size w W6) := Lib.hid (HB5.out.trans ((show Below W5.heap.size W5 W6 by rw [hW6.out]; exact (Below.refl _ W5).alloc (Nat.le_refl _) _).mono HB5.out.size))
            rw [← hU]
            clear hW6 hU HB5
            obtain ⟨y0c, y1c⟩ := HKY.out.cells
            repeat (first | go_values | go_skip | go_guarded | go_step)
            refine (HR0.out W6).mono ?_
            rintro e Wx ⟨rfl, hw⟩; replace hw := hw.symm; subst hw
            dsimp only
            repeat (first | go_values | go_skip | go_guarded | go_step)
            refine (HR1.out W6).mono ?_
            rintro e Wx ⟨rfl, hw⟩; replace hw := hw.symm; subst hw
            dsimp only
            have tS : ((y0 ++ ⟨#[47]⟩ ++ y1).toList == s.toList) = true := by rw [eS]; exact text_eq s
            repeat (first | go_values | go_skip | go_guarded | go_step | go_upon)
            go_ret
            exact ⟨rfl, HB6.out⟩
          · have HNO : Hid (∀ k, k < s.size → (ordsOf s).getD k 0 = 47 → rightN (ordsOf (s.extract 0 k)) = true → rightN (ordsOf (s.extract (k + 1) s.size)) = true → False) := Lib.hid fun k hk h47 h1 h2 => hno _ _ (slash_here s k hk h47) h1 h2
            clear hno HPY
            go_upto_region 10 with fail
            refine wp_name fun W6 hW6 => ?_
            obtain ⟨U, hU⟩ : ∃ U, U = W5.heap.size := ⟨_, rfl⟩
            have HKY : Hid (KeyAt W6 U ⟨#[]⟩ ⟨#[]⟩) := Lib.hid (by rw [hW6.out, hU]; exact KeyAt.new W5 _ _)
            have HB6 : Hid (Below w.heap.size w W6) := Lib.hid (HB5.out.trans ((show Below W5.heap.size W5 W6 by rw [hW6.out]; exact (Below.refl _ W5).alloc (Nat.le_refl _) _).mono HB5.out.size))
            rw [← hU]
            clear hW6 hU HB5
            obtain ⟨y0c, y1c⟩ := HKY.out.cells
            have HRX : Hid (∀ x : ByteArray, x.size ≤ 100 → Calls Try.prog 9 #[.string x] W6 fun e w' => e = .returned (.bool (rightN (ordsOf x))) ∧ w' = W6) := Lib.hid fun x hx => nmdoc_any W6 x (by omega)
            clear HRA HRB HFU HPF HPS
            go_wp2_with fail
            go_loop [86] (fun vi => ∃ k : Nat, k ≤ s.size ∧ vi = .int .i64 (k : Int)) (fun vi => s.size - (intOf vi).toNat)
            case atStart => exact ⟨0, Nat.zero_le _, rfl⟩
            case round =>
              obtain ⟨k, hk, rfl⟩ := hrel
              by_cases hk2 : k < s.size
              · have tk : decide ((k : Int) < (s.size : Int)) = true := by simp only [decide_eq_true_eq]; omega
                obtain ⟨d, hd⟩ : ∃ d, d = (ordsOf s).getD k 0 := ⟨_, rfl⟩
                have hd2 : ((s[k]'hk2).toNat : Int) = (d : Int) := by rw [hd, ords_at s k hk2]
                by_cases h47 : d = 47
                · have t47 : ((d : Int) == 47) = true := by simp; omega
                  obtain ⟨L, hL⟩ : ∃ L, L = s.extract 0 k := ⟨_, rfl⟩
                  obtain ⟨M, hM⟩ : ∃ M, M = s.extract (k + 1) s.size := ⟨_, rfl⟩
                  have eL := hL.symm
                  have eM := hM.symm
                  have hLz : L.size ≤ 100 := by rw [hL, ByteArray.size_extract]; omega
                  have hMz : M.size ≤ 100 := by rw [hM, ByteArray.size_extract]; omega
                  have HN : Hid (rightN (ordsOf L) = true → rightN (ordsOf M) = true → False) := Lib.hid fun x y => HNO.out k hk2 (by rw [← hd]; exact h47) (by rw [eL]; exact x) (by rw [eM]; exact y)
                  have HRL := Lib.hid (HRX.out L hLz)
                  have HRM := Lib.hid (HRX.out M hMz)
                  have hk3 : k + 1 ≤ s.size := hk2
                  clear hd hL hM h47
                  cases hA : rightN (ordsOf L) with
                  | false =>
                    rw [hA] at HRL
                    clear hA
                    repeat (first | go_values | go_skip | go_guarded | go_step)
                    refine HRL.out.mono ?_
                    rintro e Wx ⟨rfl, hw⟩; replace hw := hw.symm; subst hw
                    dsimp only
                    repeat (first | go_values | go_skip | go_guarded | go_step | go_upon)
                    exact ⟨⟨k + 1, by omega, by go_num⟩, by simp [intOf]; omega⟩
                  | true =>
                    have hB : rightN (ordsOf M) = false := Bool.eq_false_iff.2 fun h => HN.out hA h
                    rw [hA] at HRL
                    rw [hB] at HRM
                    clear hA hB
                    repeat (first | go_values | go_skip | go_guarded | go_step)
                    refine HRL.out.mono ?_
                    rintro e Wx ⟨rfl, hw⟩; replace hw := hw.symm; subst hw
                    dsimp only
                    repeat (first | go_values | go_skip | go_guarded | go_step)
                    refine HRM.out.mono ?_
                    rintro e Wx ⟨rfl, hw⟩; replace hw := hw.symm; subst hw
                    dsimp only
                    repeat (first | go_values | go_skip | go_guarded | go_step | go_upon)
                    exact ⟨⟨k + 1, by omega, by go_num⟩, by simp [intOf]; omega⟩
                · have t47 : ((d : Int) == 47) = false := by simp; omega
                  clear hd h47
                  repeat (first | go_values | go_skip | go_guarded | go_step | go_upon)
                  exact ⟨⟨k + 1, by omega, by go_num⟩, by simp [intOf]; omega⟩
              · have tk : decide ((k : Int) < (s.size : Int)) = false := by simp only [decide_eq_false_iff_not]; omega
                repeat (first | go_values | go_skip | go_guarded | go_step | go_upon)
                go_ret
                exact ⟨rfl, HB6.out⟩
        | true =>
          cases hB : rightN (ordsOf b) with
          | false =>
            obtain ⟨rfl, rfl, rfl⟩ := parsed_none HPP.out (fun _ h => by rw [hB] at h; cases h)
            rw [hA] at HRA
            rw [hB] at HRB
            clear hA hB HPP
            go_upto_region 5 with fail
            refine wp_name fun W4 hW4 => ?_
            obtain ⟨Q, hQ⟩ : ∃ Q, Q = W3.heap.size := ⟨_, rfl⟩
            have HKX4 : Hid (KeyAt W4 Q ⟨#[]⟩ ⟨#[]⟩) := Lib.hid (by rw [hW4.out, hQ]; exact KeyAt.new W3 _ _)
            have hb : Below W3.heap.size W3 W4 := by rw [hW4.out]; exact (Below.refl _ W3).alloc (Nat.le_refl _) _
            have HKA4 := Lib.hid (HKA3.out.keep hb)
            have HB4 := Lib.hid (HB3.out.trans (hb.mono HB3.out.size))
            rw [← hQ]
            clear hb hW4 hQ HKA3 HB3
            obtain ⟨a0c, a1c⟩ := HKA4.out.cells
            obtain ⟨x0c, x1c⟩ := HKX4.out.cells
            repeat (first | go_values | go_skip | go_guarded | go_step)
            refine (HRA.out W4).mono ?_
            rintro e Wx ⟨rfl, hw⟩; replace hw := hw.symm; subst hw
            dsimp only
            repeat (first | go_values | go_skip | go_guarded | go_step)
            refine (HRB.out W4).mono ?_
            rintro e Wx ⟨rfl, hw⟩; replace hw := hw.symm; subst hw
            dsimp only
            repeat (first | go_values | go_skip | go_guarded | go_step)
            refine (HPS.out W4).mono ?_
            rintro e W5 ⟨⟨y0, y1, is, rfl, hp⟩, hb⟩
            have HPY := Lib.hid hp
            have HB5 := Lib.hid (HB4.out.trans (hb.mono HB4.out.size))
            clear hb hp HB4 HKA4 HKX4 a0c a1c x0c x1c
            dsimp only
            rcases HPY.out with ⟨rfl, hs, hy0, hy1⟩ | ⟨rfl, rfl, rfl, hno⟩
            · have HSZ : Hid (s.size = y0.size + 1 + y1.size) := Lib.hid (by have := congrArg List.length hs; rw [List.length_append, List.length_cons, ordsOf_length, ordsOf_length, ordsOf_length] at this; omega)
              have HR0 : Hid (∀ W, Calls Try.prog 9 #[.string y0] W fun e w' => e = .returned (.bool true) ∧ w' = W) := Lib.hid fun W => by rw [← hy0]; exact nmdoc_any W y0 (by have := HSZ.out; omega)
              have HR1 : Hid (∀ W, Calls Try.prog 9 #[.string y1] W fun e w' => e = .returned (.bool true) ∧ w' = W) := Lib.hid fun W => by rw [← hy1]; exact nmdoc_any W y1 (by have := HSZ.out; omega)
              have eS : y0 ++ ⟨#[47]⟩ ++ y1 = s := ords_inj (by rw [ords_full]; exact hs.symm)
              have z0 : y0.size ≤ 100 := by have := HSZ.out; omega
              have z1 : y1.size ≤ 100 := by have := HSZ.out; omega
              clear hs hy0 hy1 HPY
              go_upto_region 17 with fail
              refine wp_name fun W6 hW6 => ?_
              obtain ⟨U, hU⟩ : ∃ U, U = W5.heap.size := ⟨_, rfl⟩
              have HKY : Hid (KeyAt W6 U y0 y1) := Lib.hid (by rw [hW6.out, hU]; exact KeyAt.new W5 _ _)
              have HB6 : Hid (Below w.heap.size w W6) := Lib.hid (HB5.out.trans ((show Below W5.heap.size W5 W6 by rw [hW6.out]; exact (Below.refl _ W5).alloc (Nat.le_refl _) _).mono HB5.out.size))
              rw [← hU]
              clear hW6 hU HB5
              obtain ⟨y0c, y1c⟩ := HKY.out.cells
              repeat (first | go_values | go_skip | go_guarded | go_step)
              refine (HR0.out W6).mono ?_
              rintro e Wx ⟨rfl, hw⟩; replace hw := hw.symm; subst hw
              dsimp only
              repeat (first | go_values | go_skip | go_guarded | go_step)
              refine (HR1.out W6).mono ?_
              rintro e Wx ⟨rfl, hw⟩; replace hw := hw.symm; subst hw
              dsimp only
              have tS : ((y0 ++ ⟨#[47]⟩ ++ y1).toList == s.toList) = true := by rw [eS]; exact text_eq s
              repeat (first | go_values | go_skip | go_guarded | go_step | go_upon)
              go_ret
              exact ⟨rfl, HB6.out⟩
            · have HNO : Hid (∀ k, k < s.size → (ordsOf s).getD k 0 = 47 → rightN (ordsOf (s.extract 0 k)) = true → rightN (ordsOf (s.extract (k + 1) s.size)) = true → False) := Lib.hid fun k hk h47 h1 h2 => hno _ _ (slash_here s k hk h47) h1 h2
              clear hno HPY
              go_upto_region 10 with fail
              refine wp_name fun W6 hW6 => ?_
              obtain ⟨U, hU⟩ : ∃ U, U = W5.heap.size := ⟨_, rfl⟩
              have HKY : Hid (KeyAt W6 U ⟨#[]⟩ ⟨#[]⟩) := Lib.hid (by rw [hW6.out, hU]; exact KeyAt.new W5 _ _)
              have HB6 : Hid (Below w.heap.size w W6) := Lib.hid (HB5.out.trans ((show Below W5.heap.size W5 W6 by rw [hW6.out]; exact (Below.refl _ W5).alloc (Nat.le_refl _) _).mono HB5.out.size))
              rw [← hU]
              clear hW6 hU HB5
              obtain ⟨y0c, y1c⟩ := HKY.out.cells
              have HRX : Hid (∀ x : ByteArray, x.size ≤ 100 → Calls Try.prog 9 #[.string x] W6 fun e w' => e = .returned (.bool (rightN (ordsOf x))) ∧ w' = W6) := Lib.hid fun x hx => nmdoc_any W6 x (by omega)
              clear HRA HRB HFU HPF HPS
              go_wp2_with fail
              go_loop [86] (fun vi => ∃ k : Nat, k ≤ s.size ∧ vi = .int .i64 (k : Int)) (fun vi => s.size - (intOf vi).toNat)
              case atStart => exact ⟨0, Nat.zero_le _, rfl⟩
              case round =>
                obtain ⟨k, hk, rfl⟩ := hrel
                by_cases hk2 : k < s.size
                · have tk : decide ((k : Int) < (s.size : Int)) = true := by simp only [decide_eq_true_eq]; omega
                  obtain ⟨d, hd⟩ : ∃ d, d = (ordsOf s).getD k 0 := ⟨_, rfl⟩
                  have hd2 : ((s[k]'hk2).toNat : Int) = (d : Int) := by rw [hd, ords_at s k hk2]
                  by_cases h47 : d = 47
                  · have t47 : ((d : Int) == 47) = true := by simp; omega
                    obtain ⟨L, hL⟩ : ∃ L, L = s.extract 0 k := ⟨_, rfl⟩
                    obtain ⟨M, hM⟩ : ∃ M, M = s.extract (k + 1) s.size := ⟨_, rfl⟩
                    have eL := hL.symm
                    have eM := hM.symm
                    have hLz : L.size ≤ 100 := by rw [hL, ByteArray.size_extract]; omega
                    have hMz : M.size ≤ 100 := by rw [hM, ByteArray.size_extract]; omega
                    have HN : Hid (rightN (ordsOf L) = true → rightN (ordsOf M) = true → False) := Lib.hid fun x y => HNO.out k hk2 (by rw [← hd]; exact h47) (by rw [eL]; exact x) (by rw [eM]; exact y)
                    have HRL := Lib.hid (HRX.out L hLz)
                    have HRM := Lib.hid (HRX.out M hMz)
                    have hk3 : k + 1 ≤ s.size := hk2
                    clear hd hL hM h47
                    cases hA : rightN (ordsOf L) with
                    | false =>
                      rw [hA] at HRL
                      clear hA
                      repeat (first | go_values | go_skip | go_guarded | go_step)
                      refine HRL.out.mono ?_
                      rintro e Wx ⟨rfl, hw⟩; replace hw := hw.symm; subst hw
                      dsimp only
                      repeat (first | go_values | go_skip | go_guarded | go_step | go_upon)
                      exact ⟨⟨k + 1, by omega, by go_num⟩, by simp [intOf]; omega⟩
                    | true =>
                      have hB : rightN (ordsOf M) = false := Bool.eq_false_iff.2 fun h => HN.out hA h
                      rw [hA] at HRL
                      rw [hB] at HRM
                      clear hA hB
                      repeat (first | go_values | go_skip | go_guarded | go_step)
                      refine HRL.out.mono ?_
                      rintro e Wx ⟨rfl, hw⟩; replace hw := hw.symm; subst hw
                      dsimp only
                      repeat (first | go_values | go_skip | go_guarded | go_step)
                      refine HRM.out.mono ?_
                      rintro e Wx ⟨rfl, hw⟩; replace hw := hw.symm; subst hw
                      dsimp only
                      repeat (first | go_values | go_skip | go_guarded | go_step | go_upon)
                      exact ⟨⟨k + 1, by omega, by go_num⟩, by simp [intOf]; omega⟩
                  · have t47 : ((d : Int) == 47) = false := by simp; omega
                    clear hd h47
                    repeat (first | go_values | go_skip | go_guarded | go_step | go_upon)
                    exact ⟨⟨k + 1, by omega, by go_num⟩, by simp [intOf]; omega⟩
                · have tk : decide ((k : Int) < (s.size : Int)) = false := by simp only [decide_eq_false_iff_not]; omega
                  repeat (first | go_values | go_skip | go_guarded | go_step | go_upon)
                  go_ret
                  exact ⟨rfl, HB6.out⟩
          | true =>
            obtain ⟨rfl, rfl, rfl⟩ := parsed_both HPP.out hA hB
            rw [hA] at HRA
            rw [hB] at HRB
            clear hA hB HPP
            go_upto_region 5 with fail
            refine wp_name fun W4 hW4 => ?_
            obtain ⟨Q, hQ⟩ : ∃ Q, Q = W3.heap.size := ⟨_, rfl⟩
            have HKX4 : Hid (KeyAt W4 Q t r) := Lib.hid (by rw [hW4.out, hQ]; exact KeyAt.new W3 _ _)
            have hb : Below W3.heap.size W3 W4 := by rw [hW4.out]; exact (Below.refl _ W3).alloc (Nat.le_refl _) _
            have HKA4 := Lib.hid (HKA3.out.keep hb)
            have HB4 := Lib.hid (HB3.out.trans (hb.mono HB3.out.size))
            rw [← hQ]
            clear hb hW4 hQ HKA3 HB3
            obtain ⟨a0c, a1c⟩ := HKA4.out.cells
            obtain ⟨x0c, x1c⟩ := HKX4.out.cells
            repeat (first | go_values | go_skip | go_guarded | go_step)
            refine (HRA.out W4).mono ?_
            rintro e Wx ⟨rfl, hw⟩; replace hw := hw.symm; subst hw
            dsimp only
            repeat (first | go_values | go_skip | go_guarded | go_step)
            refine (HRB.out W4).mono ?_
            rintro e Wx ⟨rfl, hw⟩; replace hw := hw.symm; subst hw
            dsimp only
            repeat (first | go_values | go_skip | go_guarded | go_step)
            refine (HPS.out W4).mono ?_
            rintro e W5 ⟨⟨y0, y1, is, rfl, hp⟩, hb⟩
            have HPY := Lib.hid hp
            have HB5 := Lib.hid (HB4.out.trans (hb.mono HB4.out.size))
            clear hb hp HB4 HKA4 HKX4 a0c a1c x0c x1c
            dsimp only
            rcases HPY.out with ⟨rfl, hs, hy0, hy1⟩ | ⟨rfl, rfl, rfl, hno⟩
            · have HSZ : Hid (s.size = y0.size + 1 + y1.size) := Lib.hid (by have := congrArg List.length hs; rw [List.length_append, List.length_cons, ordsOf_length, ordsOf_length, ordsOf_length] at this; omega)
              have HR0 : Hid (∀ W, Calls Try.prog 9 #[.string y0] W fun e w' => e = .returned (.bool true) ∧ w' = W) := Lib.hid fun W => by rw [← hy0]; exact nmdoc_any W y0 (by have := HSZ.out; omega)
              have HR1 : Hid (∀ W, Calls Try.prog 9 #[.string y1] W fun e w' => e = .returned (.bool true) ∧ w' = W) := Lib.hid fun W => by rw [← hy1]; exact nmdoc_any W y1 (by have := HSZ.out; omega)
              have eS : y0 ++ ⟨#[47]⟩ ++ y1 = s := ords_inj (by rw [ords_full]; exact hs.symm)
              have z0 : y0.size ≤ 100 := by have := HSZ.out; omega
              have z1 : y1.size ≤ 100 := by have := HSZ.out; omega
              clear hs hy0 hy1 HPY
              go_upto_region 17 with fail
              refine wp_name fun W6 hW6 => ?_
              obtain ⟨U, hU⟩ : ∃ U, U = W5.heap.size := ⟨_, rfl⟩
              have HKY : Hid (KeyAt W6 U y0 y1) := Lib.hid (by rw [hW6.out, hU]; exact KeyAt.new W5 _ _)
              have HB6 : Hid (Below w.heap.size w W6) := Lib.hid (HB5.out.trans ((show Below W5.heap.size W5 W6 by rw [hW6.out]; exact (Below.refl _ W5).alloc (Nat.le_refl _) _).mono HB5.out.size))
              rw [← hU]
              clear hW6 hU HB5
              obtain ⟨y0c, y1c⟩ := HKY.out.cells
              repeat (first | go_values | go_skip | go_guarded | go_step)
              refine (HR0.out W6).mono ?_
              rintro e Wx ⟨rfl, hw⟩; replace hw := hw.symm; subst hw
              dsimp only
              repeat (first | go_values | go_skip | go_guarded | go_step)
              refine (HR1.out W6).mono ?_
              rintro e Wx ⟨rfl, hw⟩; replace hw := hw.symm; subst hw
              dsimp only
              have tS : ((y0 ++ ⟨#[47]⟩ ++ y1).toList == s.toList) = true := by rw [eS]; exact text_eq s
              repeat (first | go_values | go_skip | go_guarded | go_step | go_upon)
              go_ret
              exact ⟨rfl, HB6.out⟩
            · have HNO : Hid (∀ k, k < s.size → (ordsOf s).getD k 0 = 47 → rightN (ordsOf (s.extract 0 k)) = true → rightN (ordsOf (s.extract (k + 1) s.size)) = true → False) := Lib.hid fun k hk h47 h1 h2 => hno _ _ (slash_here s k hk h47) h1 h2
              clear hno HPY
              go_upto_region 10 with fail
              refine wp_name fun W6 hW6 => ?_
              obtain ⟨U, hU⟩ : ∃ U, U = W5.heap.size := ⟨_, rfl⟩
              have HKY : Hid (KeyAt W6 U ⟨#[]⟩ ⟨#[]⟩) := Lib.hid (by rw [hW6.out, hU]; exact KeyAt.new W5 _ _)
              have HB6 : Hid (Below w.heap.size w W6) := Lib.hid (HB5.out.trans ((show Below W5.heap.size W5 W6 by rw [hW6.out]; exact (Below.refl _ W5).alloc (Nat.le_refl _) _).mono HB5.out.size))
              rw [← hU]
              clear hW6 hU HB5
              obtain ⟨y0c, y1c⟩ := HKY.out.cells
              have HRX : Hid (∀ x : ByteArray, x.size ≤ 100 → Calls Try.prog 9 #[.string x] W6 fun e w' => e = .returned (.bool (rightN (ordsOf x))) ∧ w' = W6) := Lib.hid fun x hx => nmdoc_any W6 x (by omega)
              clear HRA HRB HFU HPF HPS
              go_wp2_with fail
              go_loop [86] (fun vi => ∃ k : Nat, k ≤ s.size ∧ vi = .int .i64 (k : Int)) (fun vi => s.size - (intOf vi).toNat)
              case atStart => exact ⟨0, Nat.zero_le _, rfl⟩
              case round =>
                obtain ⟨k, hk, rfl⟩ := hrel
                by_cases hk2 : k < s.size
                · have tk : decide ((k : Int) < (s.size : Int)) = true := by simp only [decide_eq_true_eq]; omega
                  obtain ⟨d, hd⟩ : ∃ d, d = (ordsOf s).getD k 0 := ⟨_, rfl⟩
                  have hd2 : ((s[k]'hk2).toNat : Int) = (d : Int) := by rw [hd, ords_at s k hk2]
                  by_cases h47 : d = 47
                  · have t47 : ((d : Int) == 47) = true := by simp; omega
                    obtain ⟨L, hL⟩ : ∃ L, L = s.extract 0 k := ⟨_, rfl⟩
                    obtain ⟨M, hM⟩ : ∃ M, M = s.extract (k + 1) s.size := ⟨_, rfl⟩
                    have eL := hL.symm
                    have eM := hM.symm
                    have hLz : L.size ≤ 100 := by rw [hL, ByteArray.size_extract]; omega
                    have hMz : M.size ≤ 100 := by rw [hM, ByteArray.size_extract]; omega
                    have HN : Hid (rightN (ordsOf L) = true → rightN (ordsOf M) = true → False) := Lib.hid fun x y => HNO.out k hk2 (by rw [← hd]; exact h47) (by rw [eL]; exact x) (by rw [eM]; exact y)
                    have HRL := Lib.hid (HRX.out L hLz)
                    have HRM := Lib.hid (HRX.out M hMz)
                    have hk3 : k + 1 ≤ s.size := hk2
                    clear hd hL hM h47
                    cases hA : rightN (ordsOf L) with
                    | false =>
                      rw [hA] at HRL
                      clear hA
                      repeat (first | go_values | go_skip | go_guarded | go_step)
                      refine HRL.out.mono ?_
                      rintro e Wx ⟨rfl, hw⟩; replace hw := hw.symm; subst hw
                      dsimp only
                      repeat (first | go_values | go_skip | go_guarded | go_step | go_upon)
                      exact ⟨⟨k + 1, by omega, by go_num⟩, by simp [intOf]; omega⟩
                    | true =>
                      have hB : rightN (ordsOf M) = false := Bool.eq_false_iff.2 fun h => HN.out hA h
                      rw [hA] at HRL
                      rw [hB] at HRM
                      clear hA hB
                      repeat (first | go_values | go_skip | go_guarded | go_step)
                      refine HRL.out.mono ?_
                      rintro e Wx ⟨rfl, hw⟩; replace hw := hw.symm; subst hw
                      dsimp only
                      repeat (first | go_values | go_skip | go_guarded | go_step)
                      refine HRM.out.mono ?_
                      rintro e Wx ⟨rfl, hw⟩; replace hw := hw.symm; subst hw
                      dsimp only
                      repeat (first | go_values | go_skip | go_guarded | go_step | go_upon)
                      exact ⟨⟨k + 1, by omega, by go_num⟩, by simp [intOf]; omega⟩
                  · have t47 : ((d : Int) == 47) = false := by simp; omega
                    clear hd h47
                    repeat (first | go_values | go_skip | go_guarded | go_step | go_upon)
                    exact ⟨⟨k + 1, by omega, by go_num⟩, by simp [intOf]; omega⟩
                · have tk : decide ((k : Int) < (s.size : Int)) = false := by simp only [decide_eq_false_iff_not]; omega
                  repeat (first | go_values | go_skip | go_guarded | go_step | go_upon)
                  go_ret
                  exact ⟨rfl, HB6.out⟩
      · have t3 : decide ((100 : Int) < (s.size : Int)) = true := by simp only [decide_eq_true_eq]; omega
        go_enter Try.func4, Try.ntmps4
        repeat (first | go_values | go_skip | go_guarded | go_step)
        refine calls_name ?_
        intro W0 hW0
        obtain ⟨P, hP⟩ : ∃ P, P = w.heap.size := ⟨_, rfl⟩
        have HKA0 : Hid (KeyAt W0 P a b) := Lib.hid (by rw [hW0.out, hP]; exact KeyAt.new w a b)
        have HB0 : Hid (Below w.heap.size w W0) := Lib.hid (by rw [hW0.out]; exact (Below.refl _ _).alloc (Nat.le_refl _) _)
        rw [← hP]
        clear hW0 hP
        refine (nmlives_any W0).mono ?_
        rintro e W1 ⟨rfl, hb⟩
        have HKA1 := Lib.hid (HKA0.out.keep hb)
        have HB1 := Lib.hid (HB0.out.trans (hb.mono HB0.out.size))
        clear hb HKA0 HB0
        dsimp only
        obtain ⟨a0c, a1c⟩ := HKA1.out.cells
        repeat (first | go_values | go_skip | go_guarded | go_step)
        refine (nmlives_any W1).mono ?_
        rintro e W2 ⟨rfl, hb⟩
        have HB2 := Lib.hid (HB1.out.trans (hb.mono HB1.out.size))
        clear hb
        dsimp only
        repeat (first | go_values | go_skip | go_guarded | go_step | go_upon)
        go_ret
        exact ⟨rfl, HB2.out⟩
    · have t2 : decide ((100 : Int) < (b.size : Int)) = true := by simp only [decide_eq_true_eq]; omega
      go_enter Try.func4, Try.ntmps4
      repeat (first | go_values | go_skip | go_guarded | go_step)
      refine calls_name ?_
      intro W0 hW0
      obtain ⟨P, hP⟩ : ∃ P, P = w.heap.size := ⟨_, rfl⟩
      have HKA0 : Hid (KeyAt W0 P a b) := Lib.hid (by rw [hW0.out, hP]; exact KeyAt.new w a b)
      have HB0 : Hid (Below w.heap.size w W0) := Lib.hid (by rw [hW0.out]; exact (Below.refl _ _).alloc (Nat.le_refl _) _)
      rw [← hP]
      clear hW0 hP
      refine (nmlives_any W0).mono ?_
      rintro e W1 ⟨rfl, hb⟩
      have HKA1 := Lib.hid (HKA0.out.keep hb)
      have HB1 := Lib.hid (HB0.out.trans (hb.mono HB0.out.size))
      clear hb HKA0 HB0
      dsimp only
      obtain ⟨a0c, a1c⟩ := HKA1.out.cells
      repeat (first | go_values | go_skip | go_guarded | go_step)
      refine (nmlives_any W1).mono ?_
      rintro e W2 ⟨rfl, hb⟩
      have HB2 := Lib.hid (HB1.out.trans (hb.mono HB1.out.size))
      clear hb
      dsimp only
      repeat (first | go_values | go_skip | go_guarded | go_step | go_upon)
      go_ret
      exact ⟨rfl, HB2.out⟩
  · have t1 : decide ((100 : Int) < (a.size : Int)) = true := by simp only [decide_eq_true_eq]; omega
    go_enter Try.func4, Try.ntmps4
    repeat (first | go_values | go_skip | go_guarded | go_step)
    refine calls_name ?_
    intro W0 hW0
    obtain ⟨P, hP⟩ : ∃ P, P = w.heap.size := ⟨_, rfl⟩
    have HKA0 : Hid (KeyAt W0 P a b) := Lib.hid (by rw [hW0.out, hP]; exact KeyAt.new w a b)
    have HB0 : Hid (Below w.heap.size w W0) := Lib.hid (by rw [hW0.out]; exact (Below.refl _ _).alloc (Nat.le_refl _) _)
    rw [← hP]
    clear hW0 hP
    refine (nmlives_any W0).mono ?_
    rintro e W1 ⟨rfl, hb⟩
    have HKA1 := Lib.hid (HKA0.out.keep hb)
    have HB1 := Lib.hid (HB0.out.trans (hb.mono HB0.out.size))
    clear hb HKA0 HB0
    dsimp only
    obtain ⟨a0c, a1c⟩ := HKA1.out.cells
    repeat (first | go_values | go_skip | go_guarded | go_step)
    refine (nmlives_any W1).mono ?_
    rintro e W2 ⟨rfl, hb⟩
    have HB2 := Lib.hid (HB1.out.trans (hb.mono HB1.out.size))
    clear hb
    dsimp only
    repeat (first | go_values | go_skip | go_guarded | go_step | go_upon)
    go_ret
    exact ⟨rfl, HB2.out⟩
end Go.Proofs.Ytnaepipdlcineaa
