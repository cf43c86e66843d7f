/- NameFolds, walked. -/
import Derived.Test.YtnaepipdlcineaaNmLives
namespace Go.Proofs.Ytnaepipdlcineaa
open Go.RowKit

theorem right_one (b : Nat) : rightN [b] = letN b := by
  cases h : letN b with
  | true => exact right_iff.2 ⟨by simp, by simpa using h, fun x hx => by rw [List.mem_singleton.1 hx]; exact let_fit h⟩
  | false => exact right_first (by simpa using h)
theorem right_two (b : Nat) : rightN [97, b] = fitN b := by
  cases h : fitN b with
  | true => exact right_iff.2 ⟨by simp, (by decide : letN 97 = true), fun x hx => by
      rcases List.mem_cons.1 hx with rfl | hx
      · decide
      · rw [List.mem_singleton.1 hx]; exact h⟩
  | false => exact right_in (k := 1) (by simp) (by simpa using h)
theorem put_is {a : List Nat} {d b : Nat} (hb : b = smallN d) : putN a d = if a.length < 16 ∧ fitN b = true ∧ (a ≠ [] ∨ letN b = true) then a ++ [b] else a := by
  unfold putN
  rw [← hb]
  by_cases h : a.length < 16 ∧ (letN b = true ∨ a ≠ [] ∧ fitN b = true)
  · rw [if_pos h, if_pos ⟨h.1, h.2.elim let_fit (·.2), h.2.elim .inr fun h => .inl h.1⟩]
  · rw [if_neg h, if_neg fun ⟨h1, h2, h3⟩ => h ⟨h1, h3.elim (fun h0 => .inr ⟨h0, h2⟩) .inl⟩]
theorem strOf_empty {l : List Nat} : (strOf l = ⟨#[]⟩) ↔ l = [] := by
  constructor
  · intro h
    have := strOf_size l
    rw [h] at this
    exact List.length_eq_zero_iff.1 this.symm
  · rintro rfl; rfl
set_option maxHeartbeats 8000000 in
set_option maxRecDepth 100000 in
theorem nameFolds_walk (s : ByteArray) (_hs : s.size ≤ maxLen) (w : World) :
    Calls Try.prog 5 #[.string s] w fun e w' => e = .returned (.bool true) ∧ Below w.heap.size w w' := by
  by_cases h1 : s.size ≤ 100
  · have t1 : decide ((100 : Int) < (s.size : Int)) = false := by simp only [decide_eq_false_iff_not]; omega
    have HRT : Hid (∀ W (l : List Nat), l.length ≤ 100 → (∀ x ∈ l, x < 256) → Calls Try.prog 9 #[.string (strOf l)] W fun e w' => e = .returned (.bool (rightN l)) ∧ w' = W) := Lib.hid fun W l hl hb => by
      have h := nmdoc_any W (strOf l) (by rw [strOf_size]; omega)
      rwa [ords_strOf hb] at h
    go_enter Try.func5, Try.ntmps5
    repeat (first | go_values | go_skip | go_guarded | go_step)
    refine (nmlives_any w).mono ?_
    rintro e w1 ⟨rfl, hb⟩
    have HB1 := Lib.hid hb
    clear hb
    dsimp only
    go_wp2_with fail
    go_loopw [3, 17] (fun v c wr => ∃ k : Nat, k ≤ s.size ∧ c = .int .i64 (k : Int) ∧ v = .string (strOf (foldN ((ordsOf s).take k))) ∧ Below w.heap.size w wr) (fun _ c _ => s.size - (intOf c).toNat)
    case atStart => exact ⟨0, Nat.zero_le _, rfl, rfl, HB1.out⟩
    case round =>
      obtain ⟨k, hk, rfl, rfl, hbw⟩ := hrel
      have HBW := Lib.hid hbw
      clear hbw
      obtain ⟨xs, hxs⟩ : ∃ xs, xs = foldN ((ordsOf s).take k) := ⟨_, rfl⟩
      rw [← hxs]
      obtain ⟨V, hV⟩ : ∃ V, V = strOf xs := ⟨_, rfl⟩
      obtain ⟨m, hm⟩ : ∃ m, m = xs.length := ⟨_, rfl⟩
      have hVm : V.size = m := by rw [hV, strOf_size, hm]
      have HXS := Lib.hid hxs
      have HV := Lib.hid hV
      have HM := Lib.hid hm
      rw [← hV]
      clear hxs hV hm
      by_cases hk2 : k < s.size
      · have tk : decide ((k : Int) < (s.size : Int)) = true := by simp only [decide_eq_true_eq]; omega
        obtain ⟨d, hd⟩ : ∃ d, d = (ordsOf s).getD k 0 := ⟨_, rfl⟩
        have hd2 : ((s[k]'hk2).toNat : Int) = (d : Int) := by rw [hd, ords_at s k hk2]
        have hd256 : d < 256 := by rw [hd, ords_at s k hk2]; exact (s[k]'hk2).toNat_lt
        obtain ⟨b, hb⟩ : ∃ b, b = smallN d := ⟨_, rfl⟩
        have hb256 : b < 256 := by rw [hb]; exact small_lt hd256
        have HCT : Hid (s.extract k (k + 1) = strOf [d]) := Lib.hid (ords_inj (by
          have hl : k < (ordsOf s).length := by rw [ordsOf_length]; exact hk2
          rw [ords_extract, ords_strOf (by simpa using hd256), hd, List.drop_eq_getElem_cons hl, show k + 1 - k = 1 by omega, show (ordsOf s).getD k 0 = (ordsOf s)[k] by simp [List.getD, List.getElem?_eq_getElem hl]]
          rfl))
        have HST : Hid (foldN ((ordsOf s).take (k + 1)) = if xs.length < 16 ∧ fitN b = true ∧ (xs ≠ [] ∨ letN b = true) then xs ++ [b] else xs) := Lib.hid (by rw [fold_take (by rw [ordsOf_length]; exact hk2), ← HXS.out, ← hd, put_is hb])
        obtain ⟨C, hC⟩ : ∃ C, C = strOf [b] := ⟨_, rfl⟩
        have HC := Lib.hid hC
        have hC1 : C.size = 1 := by rw [hC]; rfl
        obtain ⟨A, hA⟩ : ∃ A, A = strOf [97, b] := ⟨_, rfl⟩
        have eA : (⟨#[97]⟩ : ByteArray) ++ C = A := by rw [hA, hC, show [97, b] = [97] ++ [b] from rfl, strOf_append]; rfl
        have HRA : Hid (∀ W, Calls Try.prog 9 #[.string A] W fun e w' => e = .returned (.bool (fitN b)) ∧ w' = W) := Lib.hid fun W => by
          rw [hA, ← right_two]; exact HRT.out W [97, b] (by simp) (fun x hx => by rcases List.mem_cons.1 hx with rfl | hx; decide; rw [List.mem_singleton.1 hx]; exact hb256)
        have HRC : Hid (∀ W, Calls Try.prog 9 #[.string C] W fun e w' => e = .returned (.bool (letN b)) ∧ w' = W) := Lib.hid fun W => by
          rw [hC, ← right_one]; exact HRT.out W [b] (by simp) (fun x hx => by rw [List.mem_singleton.1 hx]; exact hb256)
        by_cases h65 : 65 ≤ d
        · have t65 : decide ((65 : Int) ≤ (d : Int)) = true := by simp only [decide_eq_true_eq]; omega
          by_cases h90 : d ≤ 90
          · have t90 : decide ((d : Int) ≤ 90) = true := by simp only [decide_eq_true_eq]; omega
            have hbd : b = d + 32 := by rw [hb]; unfold smallN; rw [if_pos ⟨h65, h90⟩]
            obtain ⟨q, hq⟩ : ∃ q, q = d - 65 := ⟨_, rfl⟩
            have e0 : (d : Int) - 65 = (q : Int) := by omega
            have e1 : (q : Int) + 97 = (b : Int) := by omega
            have hq25 : q ≤ 25 := by omega
            have hct : (convert 30 9 (.slice (some ⟨wr.heap.size, 0, none⟩) 1 1)).run Try.prog (wr.alloc (.cells #[.int .u8 (b : Int)] 5)) = .ok (.string C) (wr.alloc (.cells #[.int .u8 (b : Int)] 5)) := by
              rw [hC]; exact one_text wr b rfl _ Try.underlying9
            obtain ⟨D, hD⟩ : ∃ D, D = strOf [d] := ⟨_, rfl⟩
            have eD : s.extract k (k + 1) = D := by rw [hD, HCT.out]
            clear hd hb hC hA hbd hq hD
            have HBA : Hid (Below w.heap.size w (wr.alloc (.cells #[.int .u8 (b : Int)] 5))) := Lib.hid (HBW.out.alloc HBW.out.size _)
            by_cases hm16 : m < 16
            · have tm : decide ((m : Int) < 16) = true := by simp only [decide_eq_true_eq]; omega
              cases hF : fitN b with
              | false =>
                rw [hF] at HRA
                have HN : Hid (foldN ((ordsOf s).take (k + 1)) = xs) := Lib.hid (by rw [HST.out, if_neg (by rw [hF]; simp)])
                clear hF
                repeat (first | go_values | go_skip | go_guarded | go_step)
                refine (HRA.out (wr.alloc (.cells #[.int .u8 (b : Int)] 5))).mono ?_
                rintro e W2 ⟨rfl, rfl⟩
                dsimp only
                repeat (first | go_values | go_skip | go_guarded | go_step | go_upon)
                exact ⟨⟨k + 1, by omega, by go_num, by rw [HN.out, ← HV.out], HBA.out⟩, by simp [intOf]; omega⟩
              | true =>
                rw [hF] at HRA
                by_cases hx0 : xs = []
                · have hV0 : V = ⟨#[]⟩ := by rw [HV.out, hx0]; rfl
                  have tV : V.toList = [] := by rw [hV0]; decide +kernel
                  have HN0 : Hid (foldN ((ordsOf s).take (k + 1)) = if letN b = true then xs ++ [b] else xs) := Lib.hid (by
                    rw [HST.out]
                    by_cases hl : letN b = true
                    · rw [if_pos hl, if_pos ⟨by rw [← HM.out]; exact hm16, hF, .inr hl⟩]
                    · rw [if_neg hl, if_neg (by rw [hx0]; simp [hl])])
                  clear hF hV0 hx0
                  cases hL : letN b with
                  | false =>
                    rw [hL] at HRC HN0
                    have HN : Hid (foldN ((ordsOf s).take (k + 1)) = xs) := Lib.hid HN0.out
                    clear hL HN0
                    repeat (first | go_values | go_skip | go_guarded | go_step)
                    refine (HRA.out (wr.alloc (.cells #[.int .u8 (b : Int)] 5))).mono ?_
                    rintro e W2 ⟨rfl, rfl⟩
                    dsimp only
                    repeat (first | go_values | go_skip | go_guarded | go_step)
                    refine (HRC.out (wr.alloc (.cells #[.int .u8 (b : Int)] 5))).mono ?_
                    rintro e W2 ⟨rfl, rfl⟩
                    dsimp only
                    repeat (first | go_values | go_skip | go_guarded | go_step | go_upon)
                    exact ⟨⟨k + 1, by omega, by go_num, by rw [HN.out, ← HV.out], HBA.out⟩, by simp [intOf]; omega⟩
                  | true =>
                    rw [hL] at HRC HN0
                    have HN : Hid (foldN ((ordsOf s).take (k + 1)) = xs ++ [b]) := Lib.hid HN0.out
                    clear hL HN0
                    repeat (first | go_values | go_skip | go_guarded | go_step)
                    refine (HRA.out (wr.alloc (.cells #[.int .u8 (b : Int)] 5))).mono ?_
                    rintro e W2 ⟨rfl, rfl⟩
                    dsimp only
                    repeat (first | go_values | go_skip | go_guarded | go_step)
                    refine (HRC.out (wr.alloc (.cells #[.int .u8 (b : Int)] 5))).mono ?_
                    rintro e W2 ⟨rfl, rfl⟩
                    dsimp only
                    repeat (first | go_values | go_skip | go_guarded | go_step | go_upon)
                    exact ⟨⟨k + 1, by omega, by go_num, by rw [HN.out, strOf_append, ← HV.out, ← HC.out], HBA.out⟩, by simp [intOf]; omega⟩
                · have tV : ¬ V.toList = [] := fun e => hx0 (strOf_empty.1 (by
                    rw [← HV.out]
                    rw [ByteArray.toList_eq] at e
                    exact ByteArray.ext (Array.toList_eq_nil_iff.1 e)))
                  have HN : Hid (foldN ((ordsOf s).take (k + 1)) = xs ++ [b]) := Lib.hid (by rw [HST.out, if_pos ⟨by rw [← HM.out]; exact hm16, hF, .inl hx0⟩])
                  clear hF hx0
                  repeat (first | go_values | go_skip | go_guarded | go_step)
                  refine (HRA.out (wr.alloc (.cells #[.int .u8 (b : Int)] 5))).mono ?_
                  rintro e W2 ⟨rfl, rfl⟩
                  dsimp only
                  repeat (first | go_values | go_skip | go_guarded | go_step | go_upon)
                  exact ⟨⟨k + 1, by omega, by go_num, by rw [HN.out, strOf_append, ← HV.out, ← HC.out], HBA.out⟩, by simp [intOf]; omega⟩
            · have tm : decide ((m : Int) < 16) = false := by simp only [decide_eq_false_iff_not]; omega
              have HN : Hid (foldN ((ordsOf s).take (k + 1)) = xs) := Lib.hid (by rw [HST.out, if_neg (fun h => hm16 (by rw [HM.out]; exact h.1))])
              repeat (first | go_values | go_skip | go_guarded | go_step | go_upon)
              exact ⟨⟨k + 1, by omega, by go_num, by rw [HN.out, ← HV.out], HBA.out⟩, by simp [intOf]; omega⟩
          · have t90 : decide ((d : Int) ≤ 90) = false := by simp only [decide_eq_false_iff_not]; omega
            have hbd : b = d := by rw [hb]; unfold smallN; rw [if_neg (by omega)]
            have eC : s.extract k (k + 1) = C := by rw [hC, hbd, HCT.out]
            clear hd hb hC hA hbd
            by_cases hm16 : m < 16
            · have tm : decide ((m : Int) < 16) = true := by simp only [decide_eq_true_eq]; omega
              cases hF : fitN b with
              | false =>
                rw [hF] at HRA
                have HN : Hid (foldN ((ordsOf s).take (k + 1)) = xs) := Lib.hid (by rw [HST.out, if_neg (by rw [hF]; simp)])
                clear hF
                repeat (first | go_values | go_skip | go_guarded | go_step)
                refine (HRA.out wr).mono ?_
                rintro e W2 ⟨rfl, hw⟩; replace hw := hw.symm; subst hw
                dsimp only
                repeat (first | go_values | go_skip | go_guarded | go_step | go_upon)
                exact ⟨⟨k + 1, by omega, by go_num, by rw [HN.out, ← HV.out], HBW.out⟩, by simp [intOf]; omega⟩
              | true =>
                rw [hF] at HRA
                by_cases hx0 : xs = []
                · have hV0 : V = ⟨#[]⟩ := by rw [HV.out, hx0]; rfl
                  have tV : V.toList = [] := by rw [hV0]; decide +kernel
                  have HN0 : Hid (foldN ((ordsOf s).take (k + 1)) = if letN b = true then xs ++ [b] else xs) := Lib.hid (by
                    rw [HST.out]
                    by_cases hl : letN b = true
                    · rw [if_pos hl, if_pos ⟨by rw [← HM.out]; exact hm16, hF, .inr hl⟩]
                    · rw [if_neg hl, if_neg (by rw [hx0]; simp [hl])])
                  clear hF hV0 hx0
                  cases hL : letN b with
                  | false =>
                    rw [hL] at HRC HN0
                    have HN : Hid (foldN ((ordsOf s).take (k + 1)) = xs) := Lib.hid HN0.out
                    clear hL HN0
                    repeat (first | go_values | go_skip | go_guarded | go_step)
                    refine (HRA.out wr).mono ?_
                    rintro e W2 ⟨rfl, hw⟩; replace hw := hw.symm; subst hw
                    dsimp only
                    repeat (first | go_values | go_skip | go_guarded | go_step)
                    refine (HRC.out wr).mono ?_
                    rintro e W2 ⟨rfl, hw⟩; replace hw := hw.symm; subst hw
                    dsimp only
                    repeat (first | go_values | go_skip | go_guarded | go_step | go_upon)
                    exact ⟨⟨k + 1, by omega, by go_num, by rw [HN.out, ← HV.out], HBW.out⟩, by simp [intOf]; omega⟩
                  | true =>
                    rw [hL] at HRC HN0
                    have HN : Hid (foldN ((ordsOf s).take (k + 1)) = xs ++ [b]) := Lib.hid HN0.out
                    clear hL HN0
                    repeat (first | go_values | go_skip | go_guarded | go_step)
                    refine (HRA.out wr).mono ?_
                    rintro e W2 ⟨rfl, hw⟩; replace hw := hw.symm; subst hw
                    dsimp only
                    repeat (first | go_values | go_skip | go_guarded | go_step)
                    refine (HRC.out wr).mono ?_
                    rintro e W2 ⟨rfl, hw⟩; replace hw := hw.symm; subst hw
                    dsimp only
                    repeat (first | go_values | go_skip | go_guarded | go_step | go_upon)
                    exact ⟨⟨k + 1, by omega, by go_num, by rw [HN.out, strOf_append, ← HV.out, ← HC.out], HBW.out⟩, by simp [intOf]; omega⟩
                · have tV : ¬ V.toList = [] := fun e => hx0 (strOf_empty.1 (by
                    rw [← HV.out]
                    rw [ByteArray.toList_eq] at e
                    exact ByteArray.ext (Array.toList_eq_nil_iff.1 e)))
                  have HN : Hid (foldN ((ordsOf s).take (k + 1)) = xs ++ [b]) := Lib.hid (by rw [HST.out, if_pos ⟨by rw [← HM.out]; exact hm16, hF, .inl hx0⟩])
                  clear hF hx0
                  repeat (first | go_values | go_skip | go_guarded | go_step)
                  refine (HRA.out wr).mono ?_
                  rintro e W2 ⟨rfl, hw⟩; replace hw := hw.symm; subst hw
                  dsimp only
                  repeat (first | go_values | go_skip | go_guarded | go_step | go_upon)
                  exact ⟨⟨k + 1, by omega, by go_num, by rw [HN.out, strOf_append, ← HV.out, ← HC.out], HBW.out⟩, by simp [intOf]; omega⟩
            · have tm : decide ((m : Int) < 16) = false := by simp only [decide_eq_false_iff_not]; omega
              have HN : Hid (foldN ((ordsOf s).take (k + 1)) = xs) := Lib.hid (by rw [HST.out, if_neg (fun h => hm16 (by rw [HM.out]; exact h.1))])
              repeat (first | go_values | go_skip | go_guarded | go_step | go_upon)
              exact ⟨⟨k + 1, by omega, by go_num, by rw [HN.out, ← HV.out], HBW.out⟩, by simp [intOf]; omega⟩
        · have t65 : decide ((65 : Int) ≤ (d : Int)) = false := by simp only [decide_eq_false_iff_not]; omega
          have hbd : b = d := by rw [hb]; unfold smallN; rw [if_neg (by omega)]
          have eC : s.extract k (k + 1) = C := by rw [hC, hbd, HCT.out]
          clear hd hb hC hA hbd
          by_cases hm16 : m < 16
          · have tm : decide ((m : Int) < 16) = true := by simp only [decide_eq_true_eq]; omega
            cases hF : fitN b with
            | false =>
              rw [hF] at HRA
              have HN : Hid (foldN ((ordsOf s).take (k + 1)) = xs) := Lib.hid (by rw [HST.out, if_neg (by rw [hF]; simp)])
              clear hF
              repeat (first | go_values | go_skip | go_guarded | go_step)
              refine (HRA.out wr).mono ?_
              rintro e W2 ⟨rfl, hw⟩; replace hw := hw.symm; subst hw
              dsimp only
              repeat (first | go_values | go_skip | go_guarded | go_step | go_upon)
              exact ⟨⟨k + 1, by omega, by go_num, by rw [HN.out, ← HV.out], HBW.out⟩, by simp [intOf]; omega⟩
            | true =>
              rw [hF] at HRA
              by_cases hx0 : xs = []
              · have hV0 : V = ⟨#[]⟩ := by rw [HV.out, hx0]; rfl
                have tV : V.toList = [] := by rw [hV0]; decide +kernel
                have HN0 : Hid (foldN ((ordsOf s).take (k + 1)) = if letN b = true then xs ++ [b] else xs) := Lib.hid (by
                  rw [HST.out]
                  by_cases hl : letN b = true
                  · rw [if_pos hl, if_pos ⟨by rw [← HM.out]; exact hm16, hF, .inr hl⟩]
                  · rw [if_neg hl, if_neg (by rw [hx0]; simp [hl])])
                clear hF hV0 hx0
                cases hL : letN b with
                | false =>
                  rw [hL] at HRC HN0
                  have HN : Hid (foldN ((ordsOf s).take (k + 1)) = xs) := Lib.hid HN0.out
                  clear hL HN0
                  repeat (first | go_values | go_skip | go_guarded | go_step)
                  refine (HRA.out wr).mono ?_
                  rintro e W2 ⟨rfl, hw⟩; replace hw := hw.symm; subst hw
                  dsimp only
                  repeat (first | go_values | go_skip | go_guarded | go_step)
                  refine (HRC.out wr).mono ?_
                  rintro e W2 ⟨rfl, hw⟩; replace hw := hw.symm; subst hw
                  dsimp only
                  repeat (first | go_values | go_skip | go_guarded | go_step | go_upon)
                  exact ⟨⟨k + 1, by omega, by go_num, by rw [HN.out, ← HV.out], HBW.out⟩, by simp [intOf]; omega⟩
                | true =>
                  rw [hL] at HRC HN0
                  have HN : Hid (foldN ((ordsOf s).take (k + 1)) = xs ++ [b]) := Lib.hid HN0.out
                  clear hL HN0
                  repeat (first | go_values | go_skip | go_guarded | go_step)
                  refine (HRA.out wr).mono ?_
                  rintro e W2 ⟨rfl, hw⟩; replace hw := hw.symm; subst hw
                  dsimp only
                  repeat (first | go_values | go_skip | go_guarded | go_step)
                  refine (HRC.out wr).mono ?_
                  rintro e W2 ⟨rfl, hw⟩; replace hw := hw.symm; subst hw
                  dsimp only
                  repeat (first | go_values | go_skip | go_guarded | go_step | go_upon)
                  exact ⟨⟨k + 1, by omega, by go_num, by rw [HN.out, strOf_append, ← HV.out, ← HC.out], HBW.out⟩, by simp [intOf]; omega⟩
              · have tV : ¬ V.toList = [] := fun e => hx0 (strOf_empty.1 (by
                  rw [← HV.out]
                  rw [ByteArray.toList_eq] at e
                  exact ByteArray.ext (Array.toList_eq_nil_iff.1 e)))
                have HN : Hid (foldN ((ordsOf s).take (k + 1)) = xs ++ [b]) := Lib.hid (by rw [HST.out, if_pos ⟨by rw [← HM.out]; exact hm16, hF, .inl hx0⟩])
                clear hF hx0
                repeat (first | go_values | go_skip | go_guarded | go_step)
                refine (HRA.out wr).mono ?_
                rintro e W2 ⟨rfl, hw⟩; replace hw := hw.symm; subst hw
                dsimp only
                repeat (first | go_values | go_skip | go_guarded | go_step | go_upon)
                exact ⟨⟨k + 1, by omega, by go_num, by rw [HN.out, strOf_append, ← HV.out, ← HC.out], HBW.out⟩, by simp [intOf]; omega⟩
          · have tm : decide ((m : Int) < 16) = false := by simp only [decide_eq_false_iff_not]; omega
            have HN : Hid (foldN ((ordsOf s).take (k + 1)) = xs) := Lib.hid (by rw [HST.out, if_neg (fun h => hm16 (by rw [HM.out]; exact h.1))])
            repeat (first | go_values | go_skip | go_guarded | go_step | go_upon)
            exact ⟨⟨k + 1, by omega, by go_num, by rw [HN.out, ← HV.out], HBW.out⟩, by simp [intOf]; omega⟩
      · have tk : decide ((k : Int) < (s.size : Int)) = false := by simp only [decide_eq_false_iff_not]; omega
        have HEND : Hid (foldN (ordsOf s) = xs) := Lib.hid (by rw [HXS.out, List.take_of_length_le (by rw [ordsOf_length]; omega)])
        have HFO : Hid (Calls Try.prog 12 #[.string s] wr fun e w' => e = .returned (.string V) ∧ Below wr.heap.size wr w') := Lib.hid (by rw [HV.out, ← HEND.out]; exact nmfold_any wr s (by omega))
        have hV100 : V.size ≤ 16 := by rw [hVm, HM.out, ← HEND.out]; exact fold_len _
        obtain ⟨R, hR⟩ : ∃ R, R = rightN (ordsOf s) := ⟨_, rfl⟩
        have HRS : Hid (∀ W, Calls Try.prog 9 #[.string s] W fun e w' => e = .returned (.bool R) ∧ w' = W) := Lib.hid fun W => by rw [hR]; exact nmdoc_any W s (by omega)
        by_cases hx0 : xs = []
        · have hV0 : V = ⟨#[]⟩ := by rw [HV.out, hx0]; rfl
          have tV : V.toList = [] := by rw [hV0]; decide +kernel
          have hRf : R = false := by
            rw [Bool.eq_false_iff]; intro h
            have h2 := fold_name (hR.symm.trans h)
            rw [HEND.out, hx0] at h2
            rw [← h2] at hR
            rw [hR] at h; cases h
          rw [hRf] at HRS
          clear hR hRf hx0 hV0
          repeat (first | go_values | go_skip | go_guarded | go_step)
          refine HFO.out.mono ?_
          rintro e W2 ⟨rfl, hb⟩
          have HB2 := Lib.hid (HBW.out.trans (hb.mono HBW.out.size))
          clear hb
          dsimp only
          repeat (first | go_values | go_skip | go_guarded | go_step)
          refine (HRS.out W2).mono ?_
          rintro e W3 ⟨rfl, hw⟩; replace hw := hw.symm; subst hw
          dsimp only
          repeat (first | go_values | go_skip | go_guarded | go_step | go_upon)
          go_ret
          exact ⟨rfl, HB2.out⟩
        · have tV : ¬ V.toList = [] := fun e => hx0 (strOf_empty.1 (by
            rw [← HV.out]
            rw [ByteArray.toList_eq] at e
            exact ByteArray.ext (Array.toList_eq_nil_iff.1 e)))
          have tV2 : (V.toList == ([] : List UInt8)) = false := by simpa using tV
          have HRV : Hid (∀ W, Calls Try.prog 9 #[.string V] W fun e w' => e = .returned (.bool true) ∧ w' = W) := Lib.hid fun W => by
            have h := HRT.out W xs (by rw [← HEND.out]; have := fold_len (ordsOf s); omega) (by rw [← HEND.out]; exact fold_lt _)
            rw [← HV.out, show rightN xs = true by rw [← HEND.out]; exact fold_right (by rw [HEND.out]; exact hx0)] at h
            exact h
          cases R with
          | false =>
            clear hR hx0
            repeat (first | go_values | go_skip | go_guarded | go_step)
            refine HFO.out.mono ?_
            rintro e W2 ⟨rfl, hb⟩
            have HB2 := Lib.hid (HBW.out.trans (hb.mono HBW.out.size))
            clear hb
            dsimp only
            repeat (first | go_values | go_skip | go_guarded | go_step)
            refine (HRV.out W2).mono ?_
            rintro e W3 ⟨rfl, hw⟩; replace hw := hw.symm; subst hw
            dsimp only
            repeat (first | go_values | go_skip | go_guarded | go_step)
            refine (HRS.out W2).mono ?_
            rintro e W3 ⟨rfl, hw⟩; replace hw := hw.symm; subst hw
            dsimp only
            repeat (first | go_values | go_skip | go_guarded | go_step | go_upon)
            go_ret
            exact ⟨rfl, HB2.out⟩
          | true =>
            have hVs : V = s := by rw [HV.out, ← HEND.out, fold_name hR.symm, strOf_ords]
            have tVs : (V.toList == s.toList) = true := by rw [hVs]; exact text_eq s
            clear hR hx0 hVs
            repeat (first | go_values | go_skip | go_guarded | go_step)
            refine HFO.out.mono ?_
            rintro e W2 ⟨rfl, hb⟩
            have HB2 := Lib.hid (HBW.out.trans (hb.mono HBW.out.size))
            clear hb
            dsimp only
            repeat (first | go_values | go_skip | go_guarded | go_step)
            refine (HRV.out W2).mono ?_
            rintro e W3 ⟨rfl, hw⟩; replace hw := hw.symm; subst hw
            dsimp only
            repeat (first | go_values | go_skip | go_guarded | go_step)
            refine (HRS.out W2).mono ?_
            rintro e W3 ⟨rfl, hw⟩; replace hw := hw.symm; subst hw
            dsimp only
            repeat (first | go_values | go_skip | go_guarded | go_step | go_upon)
            go_ret
            exact ⟨rfl, HB2.out⟩
  · have t1 : decide ((100 : Int) < (s.size : Int)) = true := by simp only [decide_eq_true_eq]; omega
    go_enter Try.func5, Try.ntmps5
    repeat (first | go_values | go_skip | go_guarded | go_step)
    refine (nmlives_any w).mono ?_
    rintro e w1 ⟨rfl, hb⟩
    have HB1 := Lib.hid hb
    clear hb
    dsimp only
    repeat (first | go_values | go_skip | go_guarded | go_step)
    refine (nmlives_any w1).mono ?_
    rintro e w2 ⟨rfl, hb⟩
    have HB2 := Lib.hid (HB1.out.trans (hb.mono HB1.out.size))
    clear hb
    dsimp only
    repeat (first | go_values | go_skip | go_guarded | go_step | go_upon)
    go_ret
    exact ⟨rfl, HB2.out⟩
end Go.Proofs.Ytnaepipdlcineaa
