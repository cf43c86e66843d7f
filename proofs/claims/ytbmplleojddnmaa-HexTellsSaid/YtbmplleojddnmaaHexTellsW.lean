/- HexTells, walked. -/
import Derived.Test.YtbmplleojddnmaaHxLives
import Derived.Test.YtbmplleojddnmaaHxSigns
import Derived.Test.YtbmplleojddnmaaHxParse
namespace Go.Proofs.Ytbmplleojddnmaa
open Go.RowKit

set_option maxHeartbeats 8000000 in
set_option maxRecDepth 1000000 in
theorem hexTells_walk {w : World} {v0 : Value} {bs : List Nat} (hv0 : Lies w v0 bs) (_hf0 : Fits v0) (hb0 : ∀ x ∈ bs, x < 256) (_hm0 : bs.length ≤ maxLen) :
    Calls Try.prog 3 #[v0] w fun e w' => e = .returned (.bool true) ∧ Below w.heap.size w w' := by
  obtain ⟨a0, c0, rfl⟩ := lies_len hv0
  obtain ⟨n, hn⟩ : ∃ n, n = bs.length := ⟨_, rfl⟩
  have HV0 := Lib.hid hv0
  have HB0 := Lib.hid hb0
  rw [← hn]
  clear hv0 hb0
  by_cases h1 : n ≤ 200
  · have tn : decide (200 < (n : Int)) = false := by simp only [decide_eq_false_iff_not]; omega
    obtain ⟨T, hT⟩ : ∃ T, T = strOf (signsB bs) := ⟨_, rfl⟩
    have hTz : T.size ≤ 400 := by rw [hT, strOf_size, signsB_len]; omega
    have HSG : Hid (∀ W, Below w.heap.size w W → Calls Try.prog 8 #[.slice a0 n c0] W fun e w' => e = .returned (.string T) ∧ Below W.heap.size W w') := Lib.hid fun W hW => by
      rw [hT, hn]; exact lsigns_any (lies_keep HV0.out hW) HB0.out (by omega)
    have HTX : Hid (∀ W, Below w.heap.size w W → Calls Try.prog 9 #[.slice a0 n c0] W fun e w' => e = .returned (.string T) ∧ Below W.heap.size W w') := Lib.hid fun W hW => by
      rw [hT, hn]; exact hxtext_any (lies_keep HV0.out hW) HB0.out (by omega)
    have HPA : Hid (∀ W, Calls Try.prog 7 #[.string T] W fun e w' => (∃ v, e = .returned (.tuple #[v, .int .i64 0]) ∧ w'.ownsRow W.heap.size 5 1 v n (u8s bs)) ∧ Below W.heap.size W w') := Lib.hid fun W => by
      refine (hxparse_any (s := T) (by omega)).mono ?_
      rintro e w' ⟨⟨v, m, rfl, hp⟩, hb⟩
      rw [hT] at hp
      obtain ⟨rfl, hr⟩ := parse_own HB0.out hp
      exact ⟨⟨v, rfl, by rw [hn]; exact hr⟩, hb⟩
    have HC0 : Hid (∀ W, Below w.heap.size w W → ∀ dst, Try.prog.underlying dst = some .string → (convert 22 dst (.slice a0 n c0)).run Try.prog W = .ok (.string (strOf bs)) W) := Lib.hid fun W hW => by
      rw [hn]; exact text_of (lies_keep HV0.out hW)
    obtain ⟨B, hB⟩ : ∃ B, B = strOf bs := ⟨_, rfl⟩
    rw [← hB] at HC0
    have HBQ := Lib.hid hB
    clear hn hT hB HV0 HB0
    go_enter Try.func3, Try.ntmps3
    repeat (first | go_values | go_skip | go_guarded | go_step | go_upon)
    refine (hxlives_any w).mono ?_
    rintro e W1 ⟨rfl, hw1⟩
    have HBW1 := Lib.hid hw1
    clear hw1
    dsimp only
    repeat (first | go_values | go_skip | go_guarded | go_step | go_upon)
    refine (HSG.out W1 HBW1.out).mono ?_
    rintro e W2 ⟨rfl, hw2⟩
    have HBW2 := Lib.hid (HBW1.out.trans (hw2.mono HBW1.out.size))
    clear hw2
    dsimp only
    repeat (first | go_values | go_skip | go_guarded | go_step | go_upon)
    refine (HPA.out W2).mono ?_
    rintro e W3 ⟨⟨v, rfl, hown⟩, hw3⟩
    have HBW3 := Lib.hid (HBW2.out.trans (hw3.mono HBW2.out.size))
    have HO3 := Lib.hid hown
    clear hw3 hown
    dsimp only
    repeat (first | go_values | go_skip | go_guarded | go_step | go_upon)
    refine (HTX.out W3 HBW3.out).mono ?_
    rintro e W4 ⟨rfl, hw4⟩
    have HBW4 := Lib.hid (HBW3.out.trans (hw4.mono HBW3.out.size))
    have HO4 := Lib.hid (ownsRow_beyond HO3.out hw4)
    clear hw4 HO3
    dsimp only
    repeat (first | go_values | go_skip | go_guarded | go_step | go_upon)
    refine (HSG.out W4 HBW4.out).mono ?_
    rintro e W5 ⟨rfl, hw5⟩
    have HBW5 := Lib.hid (HBW4.out.trans (hw5.mono HBW4.out.size))
    have hc1 := text_of (ownsRow_lies (ownsRow_beyond HO4.out hw5)) 9 Try.underlying9
    rw [← HBQ.out] at hc1
    have hc0 := HC0.out W5 HBW5.out 9 Try.underlying9
    clear hw5 HO4
    dsimp only
    repeat (first | go_values | go_skip | go_guarded | go_step | go_upon)
    go_ret
    exact ⟨rfl, HBW5.out⟩
  · have tn : decide (200 < (n : Int)) = true := by simp only [decide_eq_true_eq]; omega
    clear hn HV0 HB0
    go_enter Try.func3, Try.ntmps3
    repeat (first | go_values | go_skip | go_guarded | go_step | go_upon)
    refine (hxlives_any w).mono ?_
    rintro e W1 ⟨rfl, hw1⟩
    have HBW1 := Lib.hid hw1
    clear hw1
    dsimp only
    repeat (first | go_values | go_skip | go_guarded | go_step | go_upon)
    refine (hxlives_any W1).mono ?_
    rintro e W2 ⟨rfl, hw2⟩
    have HB := Lib.hid (HBW1.out.trans (hw2.mono HBW1.out.size))
    clear hw2 HBW1
    dsimp only
    repeat (first | go_values | go_skip | go_guarded | go_step | go_upon)
    go_ret
    exact ⟨rfl, HB.out⟩
end Go.Proofs.Ytbmplleojddnmaa
