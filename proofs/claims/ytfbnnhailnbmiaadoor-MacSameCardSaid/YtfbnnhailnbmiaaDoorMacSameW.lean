/- MacSame, walked. -/
import Derived.Test.YtfbnnhailnbmiaaDoorMaLives
import Derived.Test.YtfbnnhailnbmiaaDoorHaTabs
import Derived.WalkSmall
namespace Go.Proofs.YtfbnnhailnbmiaaDoor
open Go.RowKit

set_option maxHeartbeats 8000000 in
set_option maxRecDepth 1000000 in
theorem macSame_walk {w : World} {v0 v1 : Value} {xs ys : List Nat} (hv0 : Lies w v0 xs) (hf0 : Fits v0) (hb0 : ∀ x ∈ xs, x < 256) (_hm0 : xs.length ≤ maxLen) (hv1 : Lies w v1 ys) (hf1 : Fits v1) (hb1 : ∀ x ∈ ys, x < 256) (_hm1 : ys.length ≤ maxLen) (h0 : WordsLaid w) (h1 : RootsLaid w) :
    Calls Tryd.prog 6 #[v0, v1] w fun e w' => e = .returned (.bool true) ∧ Below w.heap.size w w' := by
  obtain ⟨a0, c0, rfl⟩ := lies_len hv0
  obtain ⟨a1, c1, rfl⟩ := lies_len hv1
  obtain ⟨n, hn⟩ : ∃ n, n = xs.length := ⟨_, rfl⟩
  obtain ⟨m, hm⟩ : ∃ m, m = ys.length := ⟨_, rfl⟩
  have HT : Hid (Tabs w) := Lib.hid ⟨h1, h0⟩
  have HV0 := Lib.hid hv0
  have HV1 := Lib.hid hv1
  have HF0 := Lib.hid hf0
  have HF1 := Lib.hid hf1
  have HB0 := Lib.hid hb0
  have HB1 := Lib.hid hb1
  rw [← hn, ← hm]
  clear hv0 hv1 hf0 hf1 hb0 hb1 h0 h1
  by_cases h1 : n ≤ 300
  · by_cases h2 : m ≤ 300
    · have tn : decide (300 < (n : Int)) = false := by simp only [decide_eq_false_iff_not]; omega
      have tm : decide (300 < (m : Int)) = false := by simp only [decide_eq_false_iff_not]; omega
      have HSA : Hid (∀ W, Below w.heap.size w W → Calls Tryd.prog 12 #[.slice a0 n c0, .slice a1 m c1] W fun e w' => e = .returned (.bool (decide (xs = ys))) ∧ w' = W) := Lib.hid fun W hW => by
        rw [hn, hm]; exact same_any (lies_keep HV0.out hW) (lies_keep HV1.out hW) HB0.out HB1.out (by omega) (by omega)
      have HSS : Hid (∀ W, Below w.heap.size w W → Calls Tryd.prog 12 #[.slice a0 n c0, .slice a0 n c0] W fun e w' => e = .returned (.bool true) ∧ w' = W) := Lib.hid fun W hW => by
        rw [hn]; have h := same_any (lies_keep HV0.out hW) (lies_keep HV0.out hW) HB0.out HB0.out (by omega) (by omega); simpa using h
      have HX0 : Hid (∀ W, Below w.heap.size w W → (convert 22 9 (.slice a0 n c0)).run Tryd.prog W = .ok (.string (strOf xs)) W) := Lib.hid fun W hW => by
        rw [hn]; exact text_of (lies_keep HV0.out hW) _ Tryd.underlying9
      have HX1 : Hid (∀ W, Below w.heap.size w W → (convert 22 9 (.slice a1 m c1)).run Tryd.prog W = .ok (.string (strOf ys)) W) := Lib.hid fun W hW => by
        rw [hm]; exact text_of (lies_keep HV1.out hW) _ Tryd.underlying9
      obtain ⟨S, hS⟩ : ∃ s, s = strOf xs := ⟨_, rfl⟩
      obtain ⟨T, hT⟩ : ∃ s, s = strOf ys := ⟨_, rfl⟩
      obtain ⟨Q, hQ⟩ : ∃ q : Bool, q = decide (xs = ys) := ⟨_, rfl⟩
      have HST : Hid (Q = true → S = T) := Lib.hid fun h => by rw [hS, hT, of_decide_eq_true (hQ.symm.trans h)]
      have HQ : Hid ((S.toList == T.toList) = Q) := Lib.hid (by
        rw [hQ, hS, hT, text_beq]
        by_cases he : xs = ys
        · rw [he]; simp
        · rw [decide_eq_false he]
          exact decide_eq_false fun h => he (by rw [← ords_strOf HB0.out, ← ords_strOf HB1.out, h]))
      rw [← hQ] at HSA
      rw [← hS] at HX0
      rw [← hT] at HX1
      clear hn hm HV0 HV1 HF0 HF1 HB0 HB1 hS hT hQ
      go_enter Tryd.func6, Tryd.ntmps6
      repeat (first | go_values | go_skip | go_guarded | go_step | go_upon)
      refine (lives_any w HT.out).mono ?_
      rintro e W1 ⟨rfl, hw1⟩
      have HB := Lib.hid hw1
      clear hw1
      dsimp only
      repeat (first | go_values | go_skip | go_guarded | go_step)
      have hc0 : ∀ k, (convert 22 9 (.slice a0 n c0)).run Tryd.prog (W1.drewN k) = .ok (.string S) (W1.drewN k) := fun k => HX0.out _ (below_drewN HB.out k)
      have hc1 : ∀ k, (convert 22 9 (.slice a1 m c1)).run Tryd.prog (W1.drewN k) = .ok (.string T) (W1.drewN k) := fun k => HX1.out _ (below_drewN HB.out k)
      cases Q with
      | true =>
        obtain rfl := HST.out rfl
        go_quiet (first | (go_at_call 12; first | (with_reducible refine Calls.quiet_of_same (HSA.out _ (below_drewN HB.out _))) | (with_reducible refine Calls.quiet_of_same (HSS.out _ (below_drewN HB.out _)))))
        go_wp2
        go_ret
        exact ⟨rfl, below_drewN HB.out _⟩
      | false =>
        have hq := HQ.out
        go_quiet (first | (go_at_call 12; first | (with_reducible refine Calls.quiet_of_same (HSA.out _ (below_drewN HB.out _))) | (with_reducible refine Calls.quiet_of_same (HSS.out _ (below_drewN HB.out _)))))
        go_wp2
        go_ret
        exact ⟨rfl, below_drewN HB.out _⟩
    · clear hn hm HV0 HV1 HF0 HF1 HB0 HB1
      have tn : decide (300 < (n : Int)) = false := by simp only [decide_eq_false_iff_not]; omega
      have tm : decide (300 < (m : Int)) = true := by simp only [decide_eq_true_eq]; omega
      go_enter Tryd.func6, Tryd.ntmps6
      repeat (first | go_values | go_skip | go_guarded | go_step | go_upon)
      refine (lives_any w HT.out).mono ?_
      rintro e W1 ⟨rfl, hw1⟩
      dsimp only
      repeat (first | go_values | go_skip | go_guarded | go_step | go_upon)
      refine (lives_any W1 (HT.out.keep hw1)).mono ?_
      rintro e W2 ⟨rfl, hw2⟩
      have HB := Lib.hid (hw1.trans (hw2.mono hw1.size))
      clear hw1 hw2
      dsimp only
      repeat (first | go_values | go_skip | go_guarded | go_step | go_upon)
      go_ret
      exact ⟨rfl, HB.out⟩
  · clear hn hm HV0 HV1 HF0 HF1 HB0 HB1
    have tn : decide (300 < (n : Int)) = true := by simp only [decide_eq_true_eq]; omega
    go_enter Tryd.func6, Tryd.ntmps6
    repeat (first | go_values | go_skip | go_guarded | go_step | go_upon)
    refine (lives_any w HT.out).mono ?_
    rintro e W1 ⟨rfl, hw1⟩
    dsimp only
    repeat (first | go_values | go_skip | go_guarded | go_step | go_upon)
    refine (lives_any W1 (HT.out.keep hw1)).mono ?_
    rintro e W2 ⟨rfl, hw2⟩
    have HB := Lib.hid (hw1.trans (hw2.mono hw1.size))
    clear hw1 hw2
    dsimp only
    repeat (first | go_values | go_skip | go_guarded | go_step | go_upon)
    go_ret
    exact ⟨rfl, HB.out⟩
end Go.Proofs.YtfbnnhailnbmiaaDoor
