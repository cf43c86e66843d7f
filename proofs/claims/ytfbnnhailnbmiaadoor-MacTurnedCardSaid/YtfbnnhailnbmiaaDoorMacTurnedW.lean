/- MacTurned, walked. -/
import Derived.Test.YtfbnnhailnbmiaaDoorMaLives
import Derived.Test.YtfbnnhailnbmiaaDoorHaTabs
import Derived.Test.YtfbnnhailnbmiaaDoorMaRow
import Derived.WalkSmall
namespace Go.Proofs.YtfbnnhailnbmiaaDoor
open Go.RowKit

set_option maxHeartbeats 8000000 in
set_option maxRecDepth 1000000 in
theorem macTurned_walk {w : World} {v0 : Value} {key : List Nat} (hv0 : Lies w v0 key) (hf0 : Fits v0) (hb0 : ∀ x ∈ key, x < 256) (_hm0 : key.length ≤ maxLen) (name : ByteArray) (_hnm : name.size ≤ maxLen) {at' by' : Int} (ha0 : 0 ≤ at') (ha1 : at' ≤ 255) (hy0 : 0 ≤ by') (hy1 : by' ≤ 255) (h0 : WordsLaid w) (h1 : RootsLaid w) :
    Calls Tryd.prog 5 #[v0, .string name, .int .u8 at', .int .u8 by'] w fun e w' => e = .returned (.bool true) ∧ Below w.heap.size w w' := by
  obtain ⟨a0, c0, rfl⟩ := lies_len hv0
  obtain ⟨n, hn⟩ : ∃ n, n = key.length := ⟨_, rfl⟩
  obtain ⟨a, rfl⟩ := Int.eq_ofNat_of_zero_le ha0
  obtain ⟨b, rfl⟩ := Int.eq_ofNat_of_zero_le hy0
  have hb256 : b < 256 := by omega
  have ha256 : a < 256 := by omega
  have HT : Hid (Tabs w) := Lib.hid ⟨h1, h0⟩
  have HV0 := Lib.hid hv0
  have HF0 := Lib.hid hf0
  have HB0 := Lib.hid hb0
  rw [← hn]
  clear hv0 hf0 hb0 h0 h1 ha0 ha1 hy0 hy1
  by_cases h1 : n ≤ 100
  · have tn : decide (100 < (n : Int)) = false := by simp only [decide_eq_false_iff_not]; omega
    by_cases h2 : name.size ≤ 60
    · have tm : decide (60 < (name.size : Int)) = false := by simp only [decide_eq_false_iff_not]; omega
      by_cases hby : b = 0
      · subst hby
        clear hn HV0 HF0 HB0
        go_enter Tryd.func5, Tryd.ntmps5
        repeat (first | go_values | go_skip | go_guarded | go_step | go_upon)
        refine (lives_any w HT.out).mono ?_
        rintro e W1 ⟨rfl, hw1⟩
        dsimp only
        repeat (first | go_values | go_skip | go_guarded | go_step | go_upon)
        refine (lives_any W1 (HT.out.keep hw1)).mono ?_
        rintro e W2 ⟨rfl, hw2⟩
        have HB := Lib.hid (hw1.trans (hw2.mono hw1.size))
        clear hw1 hw2
        dsimp only
        repeat (first | go_values | go_skip | go_guarded | go_step | go_upon)
        go_ret
        exact ⟨rfl, HB.out⟩
      · have tb : ((b : Int) == 0) = false := by simpa using hby
        obtain ⟨nm, hnm⟩ : ∃ l, l = ordsOf name := ⟨_, rfl⟩
        obtain ⟨k, hk⟩ : ∃ k, k = a % 32 := ⟨_, rfl⟩
        have hk32 : k < 32 := by omega
        have hnl : nm.length = name.size := by rw [hnm, ordsOf_length]
        obtain ⟨i, hi⟩ : ∃ i, i = nm.length + 1 + k := ⟨_, rfl⟩
        obtain ⟨l, hl⟩ : ∃ l, l = tokenB key nm := ⟨_, rfl⟩
        have hll : l.length = name.size + 33 := by rw [hl, tokenB_len, hnl]
        have hil : i < l.length := by omega
        have hlb : ∀ x ∈ l, x < 256 := by
          have h := ords_token (key := key) (name := nm) (by rw [hnm]; exact ordsOf_lt name)
          intro x hx; rw [hl, ← h] at hx; exact ordsOf_lt _ x hx
        obtain ⟨x, hx⟩ : ∃ x, x = l.getD i 0 := ⟨_, rfl⟩
        have hx256 : x < 256 := by rw [hx]; exact getD_byte hlb i
        obtain ⟨z, hz⟩ : ∃ z, z = x ^^^ b := ⟨_, rfl⟩
        have hz256 : z < 256 := by rw [hz]; exact Nat.xor_lt_two_pow (n := 8) hx256 hb256
        have x1 : bits .xor .u8 (x : Int) (b : Int) = (z : Int) := by rw [u8_xor_nat x b hx256 hb256, hz]
        have hzx : z ≠ x := fun e => hby (by
          have h : x ^^^ (x ^^^ b) = b := by rw [← Nat.xor_assoc, Nat.xor_self, Nat.zero_xor]
          rw [← hz, e, Nat.xor_self] at h; exact h.symm)
        have HNO : Hid (z ≠ 46 → ∀ m, l.set i z ≠ tokenB key m) := Lib.hid fun h46 m => by
          rw [hl, hi]; exact turned_none hk32 (by rw [← token_at (key := key) (nm := nm), ← hi, ← hl, ← hx]; exact hzx) h46 m
        have HSB : Hid (∀ y ∈ l.set i z, y < 256) := Lib.hid fun y hy => by
          rcases List.mem_or_eq_of_mem_set hy with h | h
          · exact hlb y h
          · rw [h]; exact hz256
        have HTK : Hid (∀ W, Below w.heap.size w W → Calls Tryd.prog 10 #[.slice a0 n c0, .string name] W fun e w' => e = .returned (.string (strOf l)) ∧ Below W.heap.size W w') := Lib.hid fun W hW => by
          rw [hl, hn, hnm]; exact token_text (lies_keep HV0.out hW) HF0.out HB0.out (by omega) (by omega) (HT.out.keep hW)
        have HCK : Hid (z ≠ 46 → ∀ W, Below w.heap.size w W → Calls Tryd.prog 11 #[.slice a0 n c0, .string (strOf (l.set i z))] W fun e w' => e = .returned (.tuple #[.string ⟨#[]⟩, .bool false]) ∧ Below W.heap.size W w') := Lib.hid fun h46 W hW => by
          rw [hn]
          refine (check_text (s := strOf (l.set i z)) (lies_keep HV0.out hW) HF0.out HB0.out (by omega) (by rw [strOf_size, List.length_set]; omega) (HT.out.keep hW)).mono ?_
          rintro e w' ⟨⟨n', ok, rfl, hc⟩, hb⟩
          rcases hc with ⟨_, h⟩ | ⟨rfl, rfl, _⟩
          · rw [ords_strOf HSB.out] at h
            exact absurd h (HNO.out h46 _)
          · exact ⟨rfl, hb⟩
        have HLB : Hid (ordsOf (strOf l) = l) := Lib.hid (ords_strOf hlb)
        have HLL := Lib.hid hll
        have HX := Lib.hid hx
        have HIL := Lib.hid hil
        have e1 : Int.tmod (a : Int) 32 = (k : Int) := by rw [Int.tmod_eq_emod_of_nonneg (by omega)]; omega
        have e2 : (name.size : Int) + 1 + (k : Int) = (i : Int) := by omega
        have hii : i < name.size + 33 := by omega
        have hn60 : name.size ≤ 60 := by omega
        clear hnm hk hi hl hll hlb hx hz hzx hn HV0 HF0 HB0 hil hnl
        go_enter Tryd.func5, Tryd.ntmps5
        repeat (first | go_values | go_skip | go_guarded | go_step | go_upon)
        refine (lives_any w HT.out).mono ?_
        rintro e W1 ⟨rfl, hw1⟩
        have HBW1 := Lib.hid hw1
        clear hw1
        dsimp only
        repeat (first | go_values | go_skip | go_guarded | go_step | go_upon)
        refine (HTK.out W1 HBW1.out).mono ?_
        rintro e W2 ⟨rfl, hw2⟩
        have HBW2 := Lib.hid (HBW1.out.trans (hw2.mono HBW1.out.size))
        clear hw2
        obtain ⟨W3, g, cap, hrun, hcap, hb3, hg3, hrow⟩ := text_row W2 (strOf l)
        rw [HLB.out] at hrow
        rw [strOf_size, HLL.out] at hrun hcap
        have HR3 := Lib.hid hrow
        have HBW3 := Lib.hid (HBW2.out.trans (hb3.mono HBW2.out.size))
        have hgw : w.heap.size ≤ g := Nat.le_trans HBW2.out.size hg3
        clear hrow hb3 hg3
        dsimp only
        have d1 := HR3.out.cell HIL.out
        have q1 := HR3.out.free HIL.out
        rw [← HX.out] at d1
        have HBS : Hid (Below w.heap.size w (W3.setCell ⟨g, i, none⟩ (.int .u8 (z : Int)))) := Lib.hid (HBW3.out.trans ((Only.setCell (S := fun k => k = g) W3 (p := ⟨g, i, none⟩) rfl _).below HBW3.out.size (fun k hk => by omega)))
        by_cases hz46 : z = 46
        · have tz : ((z : Int) == 46) = true := by rw [hz46]; rfl
          clear hz46
          repeat (first | go_values | go_skip | go_guarded | go_step | go_upon)
          go_ret
          exact ⟨rfl, HBS.out⟩
        · have tz : ((z : Int) == 46) = false := by simp; omega
          have hcv : (convert 22 9 (.slice (some ⟨g, 0, none⟩) (name.size + 33) cap)).run Tryd.prog (W3.setCell ⟨g, i, none⟩ (.int .u8 (z : Int))) = .ok (.string (strOf (l.set i z))) (W3.setCell ⟨g, i, none⟩ (.int .u8 (z : Int))) := by
            have h := text_of ((HR3.out.set i z).lies (cap := cap)) _ Tryd.underlying9
            rw [List.length_set, HLL.out] at h; exact h
          have HCK2 := Lib.hid (HCK.out hz46)
          clear hz46
          repeat (first | go_values | go_skip | go_guarded | go_step | go_upon)
          refine (HCK2.out _ HBS.out).mono ?_
          rintro e W4 ⟨rfl, hw4⟩
          have HBW4 := Lib.hid (HBS.out.trans (hw4.mono HBS.out.size))
          clear hw4
          dsimp only
          repeat (first | go_values | go_skip | go_guarded | go_step | go_upon)
          go_ret
          exact ⟨rfl, HBW4.out⟩
    · have tm : decide (60 < (name.size : Int)) = true := by simp only [decide_eq_true_eq]; omega
      clear hn HV0 HF0 HB0
      go_enter Tryd.func5, Tryd.ntmps5
      repeat (first | go_values | go_skip | go_guarded | go_step | go_upon)
      refine (lives_any w HT.out).mono ?_
      rintro e W1 ⟨rfl, hw1⟩
      dsimp only
      repeat (first | go_values | go_skip | go_guarded | go_step | go_upon)
      refine (lives_any W1 (HT.out.keep hw1)).mono ?_
      rintro e W2 ⟨rfl, hw2⟩
      have HB := Lib.hid (hw1.trans (hw2.mono hw1.size))
      clear hw1 hw2
      dsimp only
      repeat (first | go_values | go_skip | go_guarded | go_step | go_upon)
      go_ret
      exact ⟨rfl, HB.out⟩
  · have tn : decide (100 < (n : Int)) = true := by simp only [decide_eq_true_eq]; omega
    clear hn HV0 HF0 HB0
    go_enter Tryd.func5, Tryd.ntmps5
    repeat (first | go_values | go_skip | go_guarded | go_step | go_upon)
    refine (lives_any w HT.out).mono ?_
    rintro e W1 ⟨rfl, hw1⟩
    dsimp only
    repeat (first | go_values | go_skip | go_guarded | go_step | go_upon)
    refine (lives_any W1 (HT.out.keep hw1)).mono ?_
    rintro e W2 ⟨rfl, hw2⟩
    have HB := Lib.hid (hw1.trans (hw2.mono hw1.size))
    clear hw1 hw2
    dsimp only
    repeat (first | go_values | go_skip | go_guarded | go_step | go_upon)
    go_ret
    exact ⟨rfl, HB.out⟩
end Go.Proofs.YtfbnnhailnbmiaaDoor
