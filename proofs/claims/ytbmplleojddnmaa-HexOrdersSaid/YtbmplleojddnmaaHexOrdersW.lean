/- HexOrders, walked. -/
import Derived.Test.YtbmplleojddnmaaHxLives
namespace Go.Proofs.Ytbmplleojddnmaa
open Go.RowKit

set_option maxHeartbeats 8000000 in
set_option maxRecDepth 1000000 in
theorem hexOrders_walk {w : World} {v0 v1 : Value} {xs ys : List Nat} (hv0 : Lies w v0 xs) (_hf0 : Fits v0) (hb0 : ∀ x ∈ xs, x < 256) (_hm0 : xs.length ≤ maxLen) (hv1 : Lies w v1 ys) (_hf1 : Fits v1) (hb1 : ∀ x ∈ ys, x < 256) (_hm1 : ys.length ≤ maxLen) :
    Calls Try.prog 5 #[v0, v1] w fun e w' => e = .returned (.bool true) ∧ Below w.heap.size w w' := by
  obtain ⟨a0, c0, rfl⟩ := lies_len hv0
  obtain ⟨a1, c1, rfl⟩ := lies_len hv1
  obtain ⟨n, hn⟩ : ∃ n, n = xs.length := ⟨_, rfl⟩
  obtain ⟨m, hm⟩ : ∃ m, m = ys.length := ⟨_, rfl⟩
  have HV0 := Lib.hid hv0
  have HV1 := Lib.hid hv1
  have HB0 := Lib.hid hb0
  have HB1 := Lib.hid hb1
  rw [← hn, ← hm]
  clear hv0 hb0 hv1 hb1
  by_cases h1 : n ≤ 100
  · have tn : decide (100 < (n : Int)) = false := by simp only [decide_eq_false_iff_not]; omega
    by_cases h2 : m ≤ 100
    · have tm : decide (100 < (m : Int)) = false := by simp only [decide_eq_false_iff_not]; omega
      obtain ⟨iU, hiU, hzU, hsU, hbU⟩ := info_u8
      obtain ⟨X, hX⟩ : ∃ X, X = strOf (signsB xs) := ⟨_, rfl⟩
      obtain ⟨Y, hY⟩ : ∃ Y, Y = strOf (signsB ys) := ⟨_, rfl⟩
      have hXz : X.size ≤ 200 := by rw [hX, strOf_size, signsB_len]; omega
      have hYz : Y.size ≤ 200 := by rw [hY, strOf_size, signsB_len]; omega
      obtain ⟨A, hA⟩ : ∃ A, A = strOf xs := ⟨_, rfl⟩
      obtain ⟨B, hB⟩ : ∃ B, B = strOf ys := ⟨_, rfl⟩
      have HLE : Hid (n = m → Op.bytesLess X.toList Y.toList = Op.bytesLess A.toList B.toList) := Lib.hid fun h => by
        rw [hX, hY, hA, hB]; exact less_signs HB0.out HB1.out (by rw [← hn, ← hm, h])
      have HTX : Hid (∀ W, Below w.heap.size w W → Calls Try.prog 9 #[.slice a0 n c0] W fun e w' => e = .returned (.string X) ∧ Below W.heap.size W w') := Lib.hid fun W hW => by
        rw [hX, hn]; exact hxtext_any (lies_keep HV0.out hW) HB0.out (by omega)
      have HTY : Hid (∀ W, Below w.heap.size w W → Calls Try.prog 9 #[.slice a1 m c1] W fun e w' => e = .returned (.string Y) ∧ Below W.heap.size W w') := Lib.hid fun W hW => by
        rw [hY, hm]; exact hxtext_any (lies_keep HV1.out hW) HB1.out (by omega)
      have HXY : Hid (∀ W v, Lies W v (xs ++ ys) → Calls Try.prog 9 #[v] W fun e w' => e = .returned (.string (X ++ Y)) ∧ Below W.heap.size W w') := Lib.hid fun W v hl => by
        rw [hX, hY, ← strOf_append, ← signsB_append]
        exact hxtext_any hl (fun x hx => by rcases List.mem_append.1 hx with h | h; exact HB0.out x h; exact HB1.out x h) (by rw [List.length_append]; omega)
      have HC0 : Hid (∀ W, Below w.heap.size w W → ∀ dst, Try.prog.underlying dst = some .string → (convert 22 dst (.slice a0 n c0)).run Try.prog W = .ok (.string A) W) := Lib.hid fun W hW => by
        rw [hn, hA]; exact text_of (lies_keep HV0.out hW)
      have HC1 : Hid (∀ W, Below w.heap.size w W → ∀ dst, Try.prog.underlying dst = some .string → (convert 22 dst (.slice a1 m c1)).run Try.prog W = .ok (.string B) W) := Lib.hid fun W hW => by
        rw [hm, hB]; exact text_of (lies_keep HV1.out hW)
      have HL0 : Hid (∀ W, Below w.heap.size w W → Lies W (.slice a0 n c0) xs) := Lib.hid fun W hW => by rw [hn]; exact lies_keep HV0.out hW
      have HL1 : Hid (∀ W, Below w.heap.size w W → Lies W (.slice a1 m c1) ys) := Lib.hid fun W hW => by rw [hm]; exact lies_keep HV1.out hW
      have HN := Lib.hid hn
      have HM := Lib.hid hm
      clear hn hm hX hY hA hB HV0 HV1 HB0 HB1
      go_enter Try.func5, Try.ntmps5
      repeat (first | go_values | go_skip | go_guarded | go_step | go_upon)
      refine (hxlives_any w).mono ?_
      rintro e W1 ⟨rfl, hw1⟩
      have HBW1 := Lib.hid hw1
      clear hw1
      dsimp only
      repeat (first | go_values | go_skip | go_guarded | go_step | go_upon)
      refine (HTX.out W1 HBW1.out).mono ?_
      rintro e W2 ⟨rfl, hw2⟩
      have HBW2 := Lib.hid (HBW1.out.trans (hw2.mono HBW1.out.size))
      clear hw2
      dsimp only
      repeat (first | go_values | go_skip | go_guarded | go_step | go_upon)
      refine (HTY.out W2 HBW2.out).mono ?_
      rintro e W3 ⟨rfl, hw3⟩
      have HBW3 := Lib.hid (HBW2.out.trans (hw3.mono HBW2.out.size))
      clear hw3
      dsimp only
      have HOE : Hid ((W3.alloc (.cells #[] 5)).ownsRow w.heap.size 5 1 (.slice (some ⟨W3.heap.size, 0, none⟩) 0 0) 0 (u8s [])) := Lib.hid (row_base (own_empty W3) HBW3.out.size)
      have HBE : Hid (Below w.heap.size w (W3.alloc (.cells #[] 5))) := Lib.hid (HBW3.out.alloc HBW3.out.size _)
      have HLX := Lib.hid (HL0.out _ HBE.out)
      repeat (first | (refine wpList_append_bytes (W3.alloc (.cells #[] 5)) rfl (.tmp 24) (.tmp 25) 22 rfl w.heap.size 5 iU Try.underlying22 hiU hzU hsU hbU (.slice (some ⟨W3.heap.size, 0, none⟩) 0 0) 0 (u8s []) rfl HOE.out (.slice a0 n c0) xs rfl HLX.out (by have := HN.out; omega) HBE.out.size ?_; intro v4 W4 hown4 hg4 _; have HO4 := Lib.hid (show W4.ownsRow w.heap.size 5 1 v4 (0 + xs.length) (u8s ([] ++ xs)) by rw [u8s_append]; exact hown4); have HB4 : Hid (Below w.heap.size w W4) := Lib.hid (HBE.out.grown hg4 HBE.out.size (fun k hk => (HOE.out.lt k hk).1)); have HLY := Lib.hid (HL1.out _ HB4.out); clear hown4 hg4) | (refine wpList_append_bytes W4 rfl (.tmp 26) (.tmp 27) 22 rfl w.heap.size 5 iU Try.underlying22 hiU hzU hsU hbU v4 (0 + xs.length) (u8s ([] ++ xs)) rfl HO4.out (.slice a1 m c1) ys rfl HLY.out (by have := HN.out; have := HM.out; omega) HB4.out.size ?_; intro v5 W5 hown5 hg5 _; have HO5 := Lib.hid (show W5.ownsRow w.heap.size 5 1 v5 (0 + xs.length + ys.length) (u8s (xs ++ ys)) by rw [u8s_append]; exact hown5); have HB5 : Hid (Below w.heap.size w W5) := Lib.hid (HB4.out.grown hg5 HB4.out.size (fun k hk => (HO4.out.lt k hk).1)); clear hown5 hg5 HLY HO4 HLX HOE) | go_values | go_skip | go_guarded | go_step)
      refine (HXY.out W5 _ (ownsRow_lies HO5.out)).mono ?_
      rintro e W6 ⟨rfl, hw6⟩
      have HBW6 := Lib.hid (HB5.out.trans (hw6.mono HB5.out.size))
      clear hw6
      dsimp only
      have hc0 := HC0.out W6 HBW6.out 9 Try.underlying9
      have hc1 := HC1.out W6 HBW6.out 9 Try.underlying9
      by_cases hnm : n = m
      · have t5 : ((n : Int) != (m : Int)) = false := by simp; omega
        obtain ⟨r, hr⟩ : ∃ r, r = Op.bytesLess A.toList B.toList := ⟨_, rfl⟩
        have er1 : Op.bytesLess A.toList B.toList = r := hr.symm
        have er2 : Op.bytesLess X.toList Y.toList = r := by rw [HLE.out hnm, hr]
        clear hr hnm
        repeat (first | go_values | go_skip | go_guarded | go_step | go_upon)
        go_ret
        exact ⟨rfl, HBW6.out⟩
      · have t5 : ((n : Int) != (m : Int)) = true := by simp; omega
        clear hnm
        repeat (first | go_values | go_skip | go_guarded | go_step | go_upon)
        go_ret
        exact ⟨rfl, HBW6.out⟩
    · have tm : decide (100 < (m : Int)) = true := by simp only [decide_eq_true_eq]; omega
      clear hn hm HV0 HV1 HB0 HB1
      go_enter Try.func5, Try.ntmps5
      repeat (first | go_values | go_skip | go_guarded | go_step | go_upon)
      refine (hxlives_any w).mono ?_
      rintro e W1 ⟨rfl, hw1⟩
      have HBW1 := Lib.hid hw1
      clear hw1
      dsimp only
      repeat (first | go_values | go_skip | go_guarded | go_step | go_upon)
      refine (hxlives_any W1).mono ?_
      rintro e W2 ⟨rfl, hw2⟩
      have HB := Lib.hid (HBW1.out.trans (hw2.mono HBW1.out.size))
      clear hw2 HBW1
      dsimp only
      repeat (first | go_values | go_skip | go_guarded | go_step | go_upon)
      go_ret
      exact ⟨rfl, HB.out⟩
  · have tn : decide (100 < (n : Int)) = true := by simp only [decide_eq_true_eq]; omega
    clear hn hm HV0 HV1 HB0 HB1
    go_enter Try.func5, Try.ntmps5
    repeat (first | go_values | go_skip | go_guarded | go_step | go_upon)
    refine (hxlives_any w).mono ?_
    rintro e W1 ⟨rfl, hw1⟩
    have HBW1 := Lib.hid hw1
    clear hw1
    dsimp only
    repeat (first | go_values | go_skip | go_guarded | go_step | go_upon)
    refine (hxlives_any W1).mono ?_
    rintro e W2 ⟨rfl, hw2⟩
    have HB := Lib.hid (HBW1.out.trans (hw2.mono HBW1.out.size))
    clear hw2 HBW1
    dsimp only
    repeat (first | go_values | go_skip | go_guarded | go_step | go_upon)
    go_ret
    exact ⟨rfl, HB.out⟩
end Go.Proofs.Ytbmplleojddnmaa
