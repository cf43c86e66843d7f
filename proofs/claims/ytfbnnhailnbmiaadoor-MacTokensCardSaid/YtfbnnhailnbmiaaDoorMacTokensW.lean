/- MacTokens, walked. -/
import Derived.Test.YtfbnnhailnbmiaaDoorMaLives
import Derived.Test.YtfbnnhailnbmiaaDoorHaTabs
import Derived.Test.YtfbnnhailnbmiaaDoorMaLaw
import Derived.WalkSmall
namespace Go.Proofs.YtfbnnhailnbmiaaDoor
open Go.RowKit

theorem hex_cuts : ∀ p, p < 16 → (hexT.extract p (p + 1)).data.toList.map UInt8.toNat = [signB p] := by decide +kernel
theorem hex_cut (p : Nat) (h : p < 16) : hexT.extract p (p + 1) = strOf [signB p] := by
  apply ords_inj
  rw [ords_strOf (fun x hx => by rw [List.mem_singleton.1 hx]; exact (sign_lt h).1)]
  exact hex_cuts p h

set_option maxHeartbeats 8000000 in
set_option maxRecDepth 1000000 in
theorem macTokens_walk {w : World} {v0 : Value} {key : List Nat} (hv0 : Lies w v0 key) (hf0 : Fits v0) (hb0 : ∀ x ∈ key, x < 256) (_hm0 : key.length ≤ maxLen) (name : ByteArray) (_hnm : name.size ≤ maxLen) (other : ByteArray) (_hom : other.size ≤ maxLen) (h0 : WordsLaid w) (h1 : RootsLaid w) :
    Calls Tryd.prog 4 #[v0, .string name, .string other] w fun e w' => e = .returned (.bool true) ∧ Below w.heap.size w w' := by
  obtain ⟨a0, c0, rfl⟩ := lies_len hv0
  obtain ⟨n, hn⟩ : ∃ n, n = key.length := ⟨_, rfl⟩
  have HT : Hid (Tabs w) := Lib.hid ⟨h1, h0⟩
  have HV0 := Lib.hid hv0
  have HF0 := Lib.hid hf0
  have HB0 := Lib.hid hb0
  rw [← hn]
  clear hv0 hf0 hb0 h0 h1
  by_cases h1 : n ≤ 100
  · have tn : decide (100 < (n : Int)) = false := by simp only [decide_eq_false_iff_not]; omega
    by_cases h2 : name.size ≤ 100
    · have tm : decide (100 < (name.size : Int)) = false := by simp only [decide_eq_false_iff_not]; omega
      by_cases h3 : 200 < other.size
      · have to : decide (200 < (other.size : Int)) = true := by simp only [decide_eq_true_eq]; omega
        clear hn HV0 HF0 HB0
        go_enter Tryd.func4, Tryd.ntmps4
        repeat (first | go_values | go_skip | go_guarded | go_step | go_upon)
        refine (lives_any w HT.out).mono ?_
        rintro e W1 ⟨rfl, hw1⟩
        dsimp only
        repeat (first | go_values | go_skip | go_guarded | go_step | go_upon)
        refine (lives_any W1 (HT.out.keep hw1)).mono ?_
        rintro e W2 ⟨rfl, hw2⟩
        have HB := Lib.hid (hw1.trans (hw2.mono hw1.size))
        clear hw1 hw2
        dsimp only
        repeat (first | go_values | go_skip | go_guarded | go_step | go_upon)
        go_ret
        exact ⟨rfl, HB.out⟩
      have to : decide (200 < (other.size : Int)) = false := by simp only [decide_eq_false_iff_not]; omega
      obtain ⟨nm, hnm⟩ : ∃ l, l = ordsOf name := ⟨_, rfl⟩
      have hnl : nm.length = name.size := by rw [hnm, ordsOf_length]
      obtain ⟨l, hl⟩ : ∃ l, l = tokenB key nm := ⟨_, rfl⟩
      obtain ⟨C, hC⟩ : ∃ C, C = codeB key nm := ⟨_, rfl⟩
      obtain ⟨L, hL⟩ : ∃ L, L = u8s C := ⟨_, rfl⟩
      have hCl : C.length = 32 := by rw [hC, codeB_len]
      have hLz : L.toArray.size = 32 := by rw [hL]; simp [u8s_length, hCl]
      have HI32 : Hid ((Tryd.prog.info? 24).map (·.size) = some L.toArray.size) := Lib.hid (by rw [hLz]; kernel_rfl)
      have HAL32 : Hid (L.toArray.all (·.oneCell') = true) := Lib.hid (by rw [hL]; exact all_one (u8s_one _))
      have HSZ32 : Hid ((u8s (List.replicate 32 0)).toArray.size = L.toArray.size) := Lib.hid (by rw [hLz]; rfl)
      have HLC := Lib.hid hL
      have HCL := Lib.hid hCl
      have HCB : Hid (∀ x ∈ C, x < 256) := Lib.hid (by rw [hC]; exact codeB_lt _ _)
      have HNB : ∀ x ∈ nm, x < 256 := by rw [hnm]; exact ordsOf_lt name
      have HOL : Hid (ordsOf (strOf l) = l) := Lib.hid (by rw [hl]; exact ords_token HNB)
      have HEND : Hid (strOf (nm ++ 46 :: signsB (C.take 16)) = strOf l) := Lib.hid (by rw [hl, hC]; rfl)
      have HST0 : Hid (name ++ ⟨#[46]⟩ = strOf (nm ++ 46 :: signsB (C.take 0))) := Lib.hid (by rw [hnm, List.take_zero]; have h := token_str name []; rw [strOf_nil] at h; rw [show signsB [] = [] from rfl, ← h]; apply ByteArray.ext; simp)
      have HSTZ : Hid (∀ i, (strOf (nm ++ 46 :: signsB (C.take i))).size ≤ name.size + 65) := Lib.hid fun i => by rw [strOf_size, List.length_append, List.length_cons, signsB_len, List.length_take, hnl, hCl]; omega
      have HTK : Hid (∀ W (m : ByteArray), m.size < 100000000 → Below w.heap.size w W → Calls Tryd.prog 10 #[.slice a0 n c0, .string m] W fun e w' => e = .returned (.string (strOf (tokenB key (ordsOf m)))) ∧ Below W.heap.size W w') := Lib.hid fun W m hm hW => by
        rw [hn]; exact token_text (lies_keep HV0.out hW) HF0.out HB0.out (by omega) hm (HT.out.keep hW)
      have HCK : Hid (∀ W (m : ByteArray), m.size < 100000000 → Below w.heap.size w W → Calls Tryd.prog 11 #[.slice a0 n c0, .string m] W fun e w' => (∃ n' ok, e = .returned (.tuple #[.string n', .bool ok]) ∧ CheckIs key m n' ok) ∧ Below W.heap.size W w') := Lib.hid fun W m hm hW => by
        rw [hn]; exact check_text (lies_keep HV0.out hW) HF0.out HB0.out (by omega) hm (HT.out.keep hW)
      have HLA : Hid (∀ W v, Below w.heap.size w W → Lies W v nm → Calls Tryd.prog 9 #[.slice a0 n c0, v] W fun e w' => e = .returned (.agg L.toArray) ∧ Below W.heap.size W w') := Lib.hid fun W v hW hv => by
        rw [hL, hC, hn]; exact lcode_any (lies_keep HV0.out hW) HB0.out (by omega) hv HNB (by omega)
      have HLN := Lib.hid (show l = tokenB key (ordsOf name) by rw [hl, hnm])
      have HLZ : Hid ((strOf l).size = name.size + 33) := Lib.hid (by rw [strOf_size, hl, tokenB_len, hnl])
      have HNM := Lib.hid hnm
      clear hnm hnl hl hC hL hCl hLz HNB hn HV0 HF0 HB0
      go_enter Tryd.func4, Tryd.ntmps4
      repeat (first | go_values | go_skip | go_guarded | go_step | go_upon)
      refine (lives_any w HT.out).mono ?_
      rintro e W1 ⟨rfl, hw1⟩
      have HBW1 := Lib.hid hw1
      clear hw1
      dsimp only
      repeat (first | go_values | go_skip | go_guarded | go_step | go_upon)
      refine (HTK.out W1 name (by omega) HBW1.out).mono ?_
      rw [← HLN.out]
      rintro e W2 ⟨rfl, hw2⟩
      have HBW2 := Lib.hid (HBW1.out.trans (hw2.mono HBW1.out.size))
      clear hw2
      obtain ⟨W3, g, cap, hrun, hcap, hb3, hby⟩ := text_bytes W2 name
      have HBW3 := Lib.hid (HBW2.out.trans (hb3.mono HBW2.out.size))
      have HLI3 := Lib.hid (show Lies W3 (.slice (some ⟨g, 0, none⟩) name.size cap) nm by rw [HNM.out, ← ordsOf_length]; exact .inr (.inr ⟨g, 0, cap, rfl, hby⟩))
      clear hb3 hby hcap
      dsimp only
      repeat (first | go_values | go_skip | go_guarded | go_step | go_upon)
      refine (HLA.out W3 _ HBW3.out HLI3.out).mono ?_
      rintro e W4 ⟨rfl, hw4⟩
      have HBW4 := Lib.hid (HBW3.out.trans (hw4.mono HBW3.out.size))
      clear hw4 hrun HLI3
      dsimp only
      repeat (first | (refine wpList_alloc_zero rfl 24 rfl (u8s (List.replicate 32 0)) (by kernel_rfl) ?_) | (refine wpList_store_row rfl 24 (.tmp 8) (.tmp 38) rfl W4.heap.size L.toArray (by rfl) (by rfl) 24 (u8s (List.replicate 32 0)).toArray (arr_new W4 _ (u8s (List.replicate 32 0))) HI32.out HSZ32.out HAL32.out ?_; refine wpList_name ?_; intro W5 hW5; have HA5 := Lib.hid (show Arr W5 W4.heap.size 24 L by rw [hW5.out]; exact Arr.stored (arr_new W4 _ (u8s (List.replicate 32 0)))); have HBW5 := Lib.hid (show Below w.heap.size w W5 by rw [hW5.out]; exact below_setRow (HBW4.out.trans ((Below.refl W4.heap.size W4).alloc (Nat.le_refl _) _ |>.mono HBW4.out.size)) HBW4.out.size _); clear hW5) | go_values | go_skip | go_guarded | go_step | go_upon)
      rw [HST0.out]
      go_loopw [9, 43] (fun v9 c wr => ∃ i : Nat, i ≤ 16 ∧ c = .int .i64 i ∧ v9 = .string (strOf (nm ++ 46 :: signsB (C.take i))) ∧ Below W5.heap.size W5 wr) (fun _ c _ => 16 - (intOf c).toNat)
      case atStart => exact ⟨0, by omega, rfl, rfl, Below.refl _ _⟩
      case round =>
        obtain ⟨i, hi, rfl, rfl, hbw⟩ := hrel
        have HB := Lib.hid hbw
        obtain ⟨want, hwant⟩ : ∃ s, s = strOf (nm ++ 46 :: signsB (C.take i)) := ⟨_, rfl⟩
        have hwz : want.size ≤ name.size + 65 := by rw [hwant]; exact HSTZ.out i
        have HW := Lib.hid hwant
        rw [← hwant]
        clear hbw hwant
        by_cases hlt : i < 16
        · have t3 : decide ((i : Int) < 16) = true := by simp only [decide_eq_true_eq]; omega
          have hti : (i : Int) < 16 := by omega
          obtain ⟨x, hx⟩ : ∃ x, x = C.getD i 0 := ⟨_, rfl⟩
          have hx256 : x < 256 := by rw [hx]; exact getD_byte HCB.out i
          have d1 : wr.cell? ⟨W4.heap.size, i, none⟩ = some (.int .u8 (x : Int)) := by
            have h := HA5.out.cell (i := i) (u := .int .u8 (x : Int)) (by rw [HLC.out, hx]; exact u8s_getD C i (by rw [HCL.out]; omega))
            rw [← h]
            exact HB.out.cell (p := ⟨W4.heap.size, i, none⟩) HA5.out.lt
          obtain ⟨p, hp⟩ : ∃ p, p = x / 16 := ⟨_, rfl⟩
          obtain ⟨q, hq⟩ : ∃ q, q = x % 16 := ⟨_, rfl⟩
          have e0 : Int.tdiv (x : Int) 16 = (p : Int) := by rw [Int.tdiv_eq_ediv_of_nonneg (by omega)]; omega
          have e1 : Int.tmod (x : Int) 16 = (q : Int) := by rw [Int.tmod_eq_emod_of_nonneg (by omega)]; omega
          have hp16 : p < 16 := by omega
          have hq16 : q < 16 := by omega
          have hxp : (⟨#[48, 49, 50, 51, 52, 53, 54, 55, 56, 57, 97, 98, 99, 100, 101, 102]⟩ : ByteArray).extract p (p + 1) = strOf [signB p] := hex_cut p hp16
          have hxq : (⟨#[48, 49, 50, 51, 52, 53, 54, 55, 56, 57, 97, 98, 99, 100, 101, 102]⟩ : ByteArray).extract q (q + 1) = strOf [signB q] := hex_cut q hq16
          have z1 : ∀ y, (strOf [signB y]).size = 1 := fun y => by rw [strOf_size]; rfl
          have HNX : Hid (want ++ (strOf [signB p] ++ strOf [signB q]) = strOf (nm ++ 46 :: signsB (C.take (i + 1)))) := Lib.hid (by
            have hl : i < C.length := by rw [HCL.out]; omega
            have hx2 : C[i] = x := by rw [hx]; simp [List.getD, hl]
            rw [List.take_succ_eq_append_getElem hl, signsB_snoc, hx2, ← hp, ← hq, HW.out, ← strOf_append, ← strOf_append]
            congr 1
            simp)
          clear hx hp hq
          repeat (first | go_values | go_skip | go_guarded | go_step)
          go_quiet (fail)
          repeat (first | go_values | go_skip | go_guarded | go_step | go_upon)
          exact ⟨⟨i + 1, by omega, by go_num, congrArg Value.string HNX.out, below_drewN HB.out _⟩, by simp [intOf]; omega⟩
        · have t3 : decide ((i : Int) < 16) = false := by simp only [decide_eq_false_iff_not]; omega
          obtain rfl : i = 16 := by omega
          obtain rfl : want = strOf l := by rw [HW.out, HEND.out]
          have HBR := Lib.hid (HBW5.out.trans (HB.out.mono HBW5.out.size))
          clear HB HW
          repeat (first | go_values | go_skip | go_guarded | go_step | go_upon)
          refine (HCK.out wr (strOf l) (by rw [HLZ.out]; omega) HBR.out).mono ?_
          rintro e W6 ⟨⟨n1, ok1, rfl, hc⟩, hw6⟩
          obtain ⟨hn1, rfl⟩ := check_own hc (m := name) (by rw [HOL.out]; exact HLN.out)
          rw [hn1]
          have HB6 := Lib.hid (HBR.out.trans (hw6.mono HBR.out.size))
          clear hc hn1 hw6 HBR
          dsimp only
          by_cases ho : other = strOf l
          · subst ho
            repeat (first | go_values | go_skip | go_guarded | go_step | go_upon)
            go_ret
            exact ⟨rfl, HB6.out⟩
          · have te : (other.toList == (strOf l).toList) = false := by rw [text_beq]; exact decide_eq_false ho
            have HO : Hid (¬ other = strOf l) := Lib.hid ho
            clear ho
            repeat (first | go_values | go_skip | go_guarded | go_step | go_upon)
            refine (HCK.out W6 other (by omega) HB6.out).mono ?_
            rintro e W7 ⟨⟨n2, ok2, rfl, hc⟩, hw7⟩
            have HB7 := Lib.hid (HB6.out.trans (hw7.mono HB6.out.size))
            clear hw7
            dsimp only
            rcases hc with ⟨rfl, hc⟩ | ⟨rfl, rfl, hc⟩
            · have hne : (n2.toList == name.toList) = false := by
                rw [text_beq]
                exact decide_eq_false fun e => HO.out (by apply ords_inj; rw [hc, e, HOL.out, HLN.out])
              have hot : strOf (tokenB key (ordsOf n2)) = other := by rw [← hc, strOf_ords]
              have hn2 : n2.size < 100000000 := by
                have h := congrArg List.length hc
                rw [ordsOf_length, tokenB_len, ordsOf_length] at h; omega
              have HTK2 := Lib.hid (HTK.out W7 n2 hn2 HB7.out)
              rw [hot] at HTK2
              clear hc hot hn2
              repeat (first | go_values | go_skip | go_guarded | go_step | go_upon)
              refine HTK2.out.mono ?_
              rintro e W8 ⟨rfl, hw8⟩
              have HB8 := Lib.hid (HB7.out.trans (hw8.mono HB7.out.size))
              clear hw8
              dsimp only
              repeat (first | go_values | go_skip | go_guarded | go_step | go_upon)
              go_ret
              exact ⟨rfl, HB8.out⟩
            · clear hc
              repeat (first | go_values | go_skip | go_guarded | go_step | go_upon)
              go_ret
              exact ⟨rfl, HB7.out⟩
    · have tm : decide (100 < (name.size : Int)) = true := by simp only [decide_eq_true_eq]; omega
      clear hn HV0 HF0 HB0
      go_enter Tryd.func4, Tryd.ntmps4
      repeat (first | go_values | go_skip | go_guarded | go_step | go_upon)
      refine (lives_any w HT.out).mono ?_
      rintro e W1 ⟨rfl, hw1⟩
      dsimp only
      repeat (first | go_values | go_skip | go_guarded | go_step | go_upon)
      refine (lives_any W1 (HT.out.keep hw1)).mono ?_
      rintro e W2 ⟨rfl, hw2⟩
      have HB := Lib.hid (hw1.trans (hw2.mono hw1.size))
      clear hw1 hw2
      dsimp only
      repeat (first | go_values | go_skip | go_guarded | go_step | go_upon)
      go_ret
      exact ⟨rfl, HB.out⟩
  · have tn : decide (100 < (n : Int)) = true := by simp only [decide_eq_true_eq]; omega
    clear hn HV0 HF0 HB0
    go_enter Tryd.func4, Tryd.ntmps4
    repeat (first | go_values | go_skip | go_guarded | go_step | go_upon)
    refine (lives_any w HT.out).mono ?_
    rintro e W1 ⟨rfl, hw1⟩
    dsimp only
    repeat (first | go_values | go_skip | go_guarded | go_step | go_upon)
    refine (lives_any W1 (HT.out.keep hw1)).mono ?_
    rintro e W2 ⟨rfl, hw2⟩
    have HB := Lib.hid (hw1.trans (hw2.mono hw1.size))
    clear hw1 hw2
    dsimp only
    repeat (first | go_values | go_skip | go_guarded | go_step | go_upon)
    go_ret
    exact ⟨rfl, HB.out⟩
end Go.Proofs.YtfbnnhailnbmiaaDoor
