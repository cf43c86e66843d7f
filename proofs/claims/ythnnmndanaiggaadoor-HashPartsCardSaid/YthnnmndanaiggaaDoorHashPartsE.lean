/- HashParts, for every input. -/
import Derived.Test.YthnnmndanaiggaaDoorHashPartsW
namespace Go.Proofs.YthnnmndanaiggaaDoor
open Go.RowKit

set_option maxHeartbeats 4000000 in
set_option maxRecDepth 1000000 in
theorem hashParts_walk {w : World} {v0 v1 : Value} {bs cs : List Nat} (hv0 : Lies w v0 bs) (hf0 : Fits v0) (hb0 : ∀ x ∈ bs, x < 256) (_hm0 : bs.length ≤ maxLen) (hv1 : Lies w v1 cs) (_hf1 : Fits v1) (hb1 : ∀ x ∈ cs, x < 256) (_hm1 : cs.length ≤ maxLen) (h0 : WordsLaid w) (h1 : RootsLaid w) :
    Calls Tryd.prog 4 #[v0, v1] w fun e w' => e = .returned (.bool true) ∧ Below w.heap.size w w' := by
  obtain ⟨a0, c0, rfl⟩ := lies_len hv0
  obtain ⟨a1, c1, rfl⟩ := lies_len hv1
  obtain ⟨n, hn⟩ : ∃ n, n = bs.length := ⟨_, rfl⟩
  obtain ⟨m, hm⟩ : ∃ m, m = cs.length := ⟨_, rfl⟩
  by_cases hn1 : n ≤ 1000
  · by_cases hm2 : m ≤ 200
    · have h := hashParts_main hv0 (hf0 _ _ _ rfl) hb0 hv1 hb1 hn hm hn1 hm2 ⟨h1, h0⟩
      rw [hn, hm] at h
      exact h
    · have HT : Hid (Tabs w) := Lib.hid ⟨h1, h0⟩
      rw [← hn, ← hm]
      clear hv0 hf0 hb0 hv1 hb1 hn hm h0 h1
      have t1 : decide (1000 < (n : Int)) = false := by simp only [decide_eq_false_iff_not]; omega
      have t2 : decide (200 < (m : Int)) = true := by simp only [decide_eq_true_eq]; omega
      go_enter Tryd.func4, Tryd.ntmps4
      repeat (first | go_values | go_skip | go_guarded | go_step | go_upon)
      refine (lives_any w HT.out).mono ?_
      rintro e W1 ⟨rfl, hw1⟩
      dsimp only
      repeat (first | go_values | go_skip | go_guarded | go_step | go_upon)
      refine (lives_any W1 (HT.out.keep hw1)).mono ?_
      rintro e W2 ⟨rfl, hw2⟩
      have HB := Lib.hid (hw1.trans (hw2.mono hw1.size))
      clear hw1 hw2
      dsimp only
      repeat (first | go_values | go_skip | go_guarded | go_step | go_upon)
      go_ret
      exact ⟨rfl, HB.out⟩
  · have HT : Hid (Tabs w) := Lib.hid ⟨h1, h0⟩
    rw [← hn, ← hm]
    clear hv0 hf0 hb0 hv1 hb1 hn hm h0 h1
    have t1 : decide (1000 < (n : Int)) = true := by simp only [decide_eq_true_eq]; omega
    go_enter Tryd.func4, Tryd.ntmps4
    repeat (first | go_values | go_skip | go_guarded | go_step | go_upon)
    refine (lives_any w HT.out).mono ?_
    rintro e W1 ⟨rfl, hw1⟩
    dsimp only
    repeat (first | go_values | go_skip | go_guarded | go_step | go_upon)
    refine (lives_any W1 (HT.out.keep hw1)).mono ?_
    rintro e W2 ⟨rfl, hw2⟩
    have HB := Lib.hid (hw1.trans (hw2.mono hw1.size))
    clear hw1 hw2
    dsimp only
    repeat (first | go_values | go_skip | go_guarded | go_step | go_upon)
    go_ret
    exact ⟨rfl, HB.out⟩
end Go.Proofs.YthnnmndanaiggaaDoor
