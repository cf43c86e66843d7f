/- MacCodes, walked. -/
import Derived.Test.YtfbnnhailnbmiaaDoorMaLives
import Derived.Test.YtfbnnhailnbmiaaDoorHaTabs
import Derived.Test.YtfbnnhailnbmiaaDoorMaLaw
import Derived.WalkSmall
namespace Go.Proofs.YtfbnnhailnbmiaaDoor
open Go.RowKit

set_option maxHeartbeats 8000000 in
set_option maxRecDepth 1000000 in
theorem macCodes_walk {w : World} {v0 v1 : Value} {xs ys : List Nat} (hv0 : Lies w v0 xs) (hf0 : Fits v0) (hb0 : ∀ x ∈ xs, x < 256) (_hm0 : xs.length ≤ maxLen) (hv1 : Lies w v1 ys) (hf1 : Fits v1) (hb1 : ∀ x ∈ ys, x < 256) (_hm1 : ys.length ≤ maxLen) (h0 : WordsLaid w) (h1 : RootsLaid w) :
    Calls Tryd.prog 3 #[v0, v1] w fun e w' => e = .returned (.bool true) ∧ Below w.heap.size w w' := by
  obtain ⟨a0, c0, rfl⟩ := lies_len hv0
  obtain ⟨a1, c1, rfl⟩ := lies_len hv1
  obtain ⟨n, hn⟩ : ∃ n, n = xs.length := ⟨_, rfl⟩
  obtain ⟨m, hm⟩ : ∃ m, m = ys.length := ⟨_, rfl⟩
  have HT : Hid (Tabs w) := Lib.hid ⟨h1, h0⟩
  have HV0 := Lib.hid hv0
  have HV1 := Lib.hid hv1
  have HF0 := Lib.hid hf0
  have HF1 := Lib.hid hf1
  have HB0 := Lib.hid hb0
  have HB1 := Lib.hid hb1
  rw [← hn, ← hm]
  clear hv0 hv1 hf0 hf1 hb0 hb1 h0 h1
  by_cases h1 : n ≤ 200
  · by_cases h2 : m ≤ 200
    · have tn : decide (200 < (n : Int)) = false := by simp only [decide_eq_false_iff_not]; omega
      have tm : decide (200 < (m : Int)) = false := by simp only [decide_eq_false_iff_not]; omega
      obtain ⟨C, hC⟩ : ∃ C, C = codeB xs ys := ⟨_, rfl⟩
      obtain ⟨L, hL⟩ : ∃ L, L = u8s C := ⟨_, rfl⟩
      have hCl : C.length = 32 := by rw [hC, codeB_len]
      have hLz : L.toArray.size = 32 := by rw [hL]; simp [u8s_length, hCl]
      have HI5 : Hid ((Tryd.prog.info? 25).map (·.size) = some L.toArray.size) := Lib.hid (by rw [hLz]; kernel_rfl)
      have HI6 : Hid ((Tryd.prog.info? 24).map (·.size) = some L.toArray.size) := Lib.hid (by rw [hLz]; kernel_rfl)
      have HAL32 : Hid (L.toArray.all (·.oneCell') = true) := Lib.hid (by rw [hL]; exact all_one (u8s_one _))
      have HSZ32 : Hid ((u8s (List.replicate 32 0)).toArray.size = L.toArray.size) := Lib.hid (by rw [hLz]; rfl)
      have HLC := Lib.hid hL
      have HCL := Lib.hid hCl
      have HCO : Hid (∀ W, Below w.heap.size w W → Calls Tryd.prog 8 #[.slice a0 n c0, .slice a1 m c1] W fun e w' => e = .returned (.agg L.toArray) ∧ Below W.heap.size W w') := Lib.hid fun W hW => by
        rw [hL, hC, hn, hm]; exact code_any (lies_keep HV0.out hW) HF0.out HB0.out (by omega) (lies_keep HV1.out hW) HF1.out HB1.out (by omega) (HT.out.keep hW)
      have HLA : Hid (∀ W, Below w.heap.size w W → Calls Tryd.prog 9 #[.slice a0 n c0, .slice a1 m c1] W fun e w' => e = .returned (.agg L.toArray) ∧ Below W.heap.size W w') := Lib.hid fun W hW => by
        rw [hL, hC, hn, hm]; exact lcode_any (lies_keep HV0.out hW) HB0.out (by omega) (lies_keep HV1.out hW) HB1.out (by omega)
      clear hn hm HV0 HV1 HF0 HF1 HB0 HB1 hL hC hCl hLz
      go_enter Tryd.func3, Tryd.ntmps3
      repeat (first | go_values | go_skip | go_guarded | go_step | go_upon)
      refine (lives_any w HT.out).mono ?_
      rintro e W1 ⟨rfl, hw1⟩
      have HBW1 := Lib.hid hw1
      clear hw1
      dsimp only
      repeat (first | go_values | go_skip | go_guarded | go_step | go_upon)
      refine (HCO.out W1 HBW1.out).mono ?_
      rintro e W2 ⟨rfl, hw2⟩
      have HBW2 := Lib.hid (HBW1.out.trans (hw2.mono HBW1.out.size))
      clear hw2
      dsimp only
      repeat (first | (refine wpList_alloc_zero rfl 25 rfl (u8s (List.replicate 32 0)) (by kernel_rfl) ?_) | (refine wpList_store_row rfl 25 (.tmp 5) (.tmp 22) rfl W2.heap.size L.toArray (by rfl) (by rfl) 25 (u8s (List.replicate 32 0)).toArray (arr_new W2 _ (u8s (List.replicate 32 0))) HI5.out HSZ32.out HAL32.out ?_; refine wpList_name ?_; intro W3 hW3; have HAW3 := Lib.hid (show Arr W3 W2.heap.size 25 (u8s C) by rw [hW3.out, ← HLC.out]; exact Arr.stored (arr_new W2 _ (u8s (List.replicate 32 0)))); have HBW3x := Lib.hid (show Below W2.heap.size W2 W3 by rw [hW3.out]; exact below_setRow ((Below.refl W2.heap.size W2).alloc (Nat.le_refl _) _) (Nat.le_refl _) _); have HBW3 := Lib.hid (HBW2.out.trans (HBW3x.out.mono HBW2.out.size)); clear hW3) | go_values | go_skip | go_guarded | go_step | go_upon)
      refine (HLA.out W3 HBW3.out).mono ?_
      rintro e W4 ⟨rfl, hw4⟩
      have HBW4 := Lib.hid (HBW3.out.trans (hw4.mono HBW3.out.size))
      have HA4 := Lib.hid (HAW3.out.only (only_beyond (S := fun _ => False) hw4) (fun h => h))
      clear hw4
      dsimp only
      repeat (first | (refine wpList_alloc_zero rfl 24 rfl (u8s (List.replicate 32 0)) (by kernel_rfl) ?_) | (refine wpList_store_row rfl 24 (.tmp 6) (.tmp 25) rfl W4.heap.size L.toArray (by rfl) (by rfl) 24 (u8s (List.replicate 32 0)).toArray (arr_new W4 _ (u8s (List.replicate 32 0))) HI6.out HSZ32.out HAL32.out ?_; refine wpList_name ?_; intro W5 hW5; have HAW5 := Lib.hid (show Arr W5 W4.heap.size 24 (u8s C) by rw [hW5.out, ← HLC.out]; exact Arr.stored (arr_new W4 _ (u8s (List.replicate 32 0)))); have HBW5x := Lib.hid (show Below W4.heap.size W4 W5 by rw [hW5.out]; exact below_setRow ((Below.refl W4.heap.size W4).alloc (Nat.le_refl _) _) (Nat.le_refl _) _); have HBW5 := Lib.hid (HBW4.out.trans (HBW5x.out.mono HBW4.out.size)); clear hW5) | go_values | go_skip | go_guarded | go_step)
      have HA5 := Lib.hid (HA4.out.only (only_beyond (S := fun _ => False) HBW5x.out) (fun h => h))
      have hc0 : ∀ k, (convert 22 9 (.slice (some ⟨W2.heap.size, 0, none⟩) 32 32)).run Tryd.prog (W5.drewN k) = .ok (.string (strOf C)) (W5.drewN k) := fun k => by
        have h := text_of (lies_arr (c := 32) (show Arr (W5.drewN k) W2.heap.size 25 (u8s C) from HA5.out)) _ Tryd.underlying9
        rw [HCL.out] at h; exact h
      have hc1 : ∀ k, (convert 22 9 (.slice (some ⟨W4.heap.size, 0, none⟩) 32 32)).run Tryd.prog (W5.drewN k) = .ok (.string (strOf C)) (W5.drewN k) := fun k => by
        have h := text_of (lies_arr (c := 32) (show Arr (W5.drewN k) W4.heap.size 24 (u8s C) from HAW5.out)) _ Tryd.underlying9
        rw [HCL.out] at h; exact h
      go_quiet (fail)
      go_wp2
      go_ret
      exact ⟨rfl, below_drewN HBW5.out _⟩
    · clear hn hm HV0 HV1 HF0 HF1 HB0 HB1
      have tn : decide (200 < (n : Int)) = false := by simp only [decide_eq_false_iff_not]; omega
      have tm : decide (200 < (m : Int)) = true := by simp only [decide_eq_true_eq]; omega
      go_enter Tryd.func3, Tryd.ntmps3
      repeat (first | go_values | go_skip | go_guarded | go_step | go_upon)
      refine (lives_any w HT.out).mono ?_
      rintro e W1 ⟨rfl, hw1⟩
      dsimp only
      repeat (first | go_values | go_skip | go_guarded | go_step | go_upon)
      refine (lives_any W1 (HT.out.keep hw1)).mono ?_
      rintro e W2 ⟨rfl, hw2⟩
      have HB := Lib.hid (hw1.trans (hw2.mono hw1.size))
      clear hw1 hw2
      dsimp only
      repeat (first | go_values | go_skip | go_guarded | go_step | go_upon)
      go_ret
      exact ⟨rfl, HB.out⟩
  · clear hn hm HV0 HV1 HF0 HF1 HB0 HB1
    have tn : decide (200 < (n : Int)) = true := by simp only [decide_eq_true_eq]; omega
    go_enter Tryd.func3, Tryd.ntmps3
    repeat (first | go_values | go_skip | go_guarded | go_step | go_upon)
    refine (lives_any w HT.out).mono ?_
    rintro e W1 ⟨rfl, hw1⟩
    dsimp only
    repeat (first | go_values | go_skip | go_guarded | go_step | go_upon)
    refine (lives_any W1 (HT.out.keep hw1)).mono ?_
    rintro e W2 ⟨rfl, hw2⟩
    have HB := Lib.hid (hw1.trans (hw2.mono hw1.size))
    clear hw1 hw2
    dsimp only
    repeat (first | go_values | go_skip | go_guarded | go_step | go_upon)
    go_ret
    exact ⟨rfl, HB.out⟩
end Go.Proofs.YtfbnnhailnbmiaaDoor
