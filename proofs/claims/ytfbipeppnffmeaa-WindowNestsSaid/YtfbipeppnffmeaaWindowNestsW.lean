/- WindowNests, walked. Written by py/window-nests.py. -/
import Derived.Test.YtfbipeppnffmeaaWiLives
namespace Go.Proofs.Ytfbipeppnffmeaa
open Go.RowKit

/-- the law's own 'in' -/
theorem lnest_any (w : World) (a b c d : Int) :
    Calls Try.prog 19 #[.agg #[.int .i64 a, .int .i64 b], .agg #[.int .i64 c, .int .i64 d]] w fun e w' => e = .returned (.bool (decide (c ≤ a) && decide (b ≤ d))) ∧ Below w.heap.size w w' := by
  have HW : Hid (Below w.heap.size w ((w.alloc (.cells #[.int .i64 a, .int .i64 b] 25)).alloc (.cells #[.int .i64 c, .int .i64 d] 25))) := Lib.hid (((Below.refl _ _).alloc (Nat.le_refl _) _).alloc (by simp) _)
  by_cases h : c ≤ a
  · have t0 : decide (c ≤ a) = true := decide_eq_true h
    clear h
    go_enter Try.func19, Try.ntmps19
    repeat (first | go_values | go_skip | go_guarded | go_step | go_upon)
    go_ret
    exact ⟨by rw [t0]; rfl, HW.out⟩
  · have t0 : decide (c ≤ a) = false := decide_eq_false h
    clear h
    go_enter Try.func19, Try.ntmps19
    repeat (first | go_values | go_skip | go_guarded | go_step | go_upon)
    go_ret
    exact ⟨by rw [t0]; rfl, HW.out⟩
set_option maxHeartbeats 16000000 in
set_option maxRecDepth 1000000 in
theorem windowNests_walk {a : Int} (h2 : -9223372036854775808 ≤ a) (h3 : a ≤ 9223372036854775807) (w : World) :
    Calls Try.prog 6 #[.int .i64 a] w fun e w' => e = .returned (.bool true) ∧ Below w.heap.size w w' := by
  have HLI : Hid (∀ W, Calls Try.prog 7 #[] W fun e w' => e = .returned (.bool true) ∧ Below W.heap.size W w') := Lib.hid fun W => wilives_any W
  by_cases h0 : a < 0
  · have t0 : decide (a < 0) = true := decide_eq_true h0
    clear h0
    go_enter Try.func6, Try.ntmps6
    repeat (first | go_values | go_skip | go_guarded | go_step)
    refine (wilives_any w).mono ?_
    rintro e W1 ⟨rfl, hb⟩
    have HB1 := Lib.hid hb
    clear hb
    dsimp only
    repeat (first | go_values | go_skip | go_guarded | go_step)
    refine (HLI.out W1).mono ?_
    rintro e W2 ⟨rfl, hb⟩
    have HB2 := Lib.hid (HB1.out.trans (hb.mono HB1.out.size))
    clear hb HB1
    dsimp only
    repeat (first | go_values | go_skip | go_guarded | go_step | go_upon)
    go_ret
    exact ⟨rfl, HB2.out⟩
  have t0 : decide (a < 0) = false := decide_eq_false h0
  by_cases h62 : 4611686018427387904 ≤ a
  · have t62 : decide (4611686018427387904 ≤ a) = true := decide_eq_true h62
    clear h62 h0
    go_enter Try.func6, Try.ntmps6
    repeat (first | go_values | go_skip | go_guarded | go_step)
    refine (wilives_any w).mono ?_
    rintro e W1 ⟨rfl, hb⟩
    have HB1 := Lib.hid hb
    clear hb
    dsimp only
    repeat (first | go_values | go_skip | go_guarded | go_step)
    refine (HLI.out W1).mono ?_
    rintro e W2 ⟨rfl, hb⟩
    have HB2 := Lib.hid (HB1.out.trans (hb.mono HB1.out.size))
    clear hb HB1
    dsimp only
    repeat (first | go_values | go_skip | go_guarded | go_step | go_upon)
    go_ret
    exact ⟨rfl, HB2.out⟩
  have t62 : decide (4611686018427387904 ≤ a) = false := decide_eq_false h62
  obtain ⟨S, hS⟩ : ∃ S, S = a - a % 300 := ⟨_, rfl⟩
  obtain ⟨L, hL⟩ : ∃ L, L = a - a % 3600 := ⟨_, rfl⟩
  have HO0 : Hid (∀ W, Calls Try.prog 9 #[.int .i64 0, .int .i64 a] W fun e w' => e = .returned (.agg #[.int .i64 a, .int .i64 (a + 1)]) ∧ Below W.heap.size W w') := Lib.hid fun W => by
    have h := wiof_any W 0 a (by decide) (by decide) h2 h3
    rw [show startW 0 a = a by rw [start_at (by omega)]; simp [widthW], show endW 0 a = a + 1 by unfold endW; rw [if_pos (has_iff.2 ⟨by decide, by omega⟩), start_at (by omega)]; simp [widthW]; omega] at h
    exact h
  have HO1 : Hid (∀ W, Calls Try.prog 9 #[.int .i64 1, .int .i64 a] W fun e w' => e = .returned (.agg #[.int .i64 S, .int .i64 (S + 300)]) ∧ Below W.heap.size W w') := Lib.hid fun W => by
    have h := wiof_any W 1 a (by decide) (by decide) h2 h3
    rw [show startW 1 a = S by rw [start_at (by omega), hS]; simp [widthW], show endW 1 a = S + 300 by unfold endW; rw [if_pos (has_iff.2 ⟨by decide, by omega⟩), start_at (by omega), hS]; simp [widthW]; omega] at h
    exact h
  have HO2 : Hid (∀ W, Calls Try.prog 9 #[.int .i64 2, .int .i64 a] W fun e w' => e = .returned (.agg #[.int .i64 L, .int .i64 (L + 3600)]) ∧ Below W.heap.size W w') := Lib.hid fun W => by
    have h := wiof_any W 2 a (by decide) (by decide) h2 h3
    rw [show startW 2 a = L by rw [start_at (by omega), hL]; simp [widthW], show endW 2 a = L + 3600 by unfold endW; rw [if_pos (has_iff.2 ⟨by decide, by omega⟩), start_at (by omega), hL]; simp [widthW]; omega] at h
    exact h
  have s1 : S ≤ a ∧ a < S + 300 ∧ L ≤ S ∧ S + 300 ≤ L + 3600 ∧ 0 ≤ L := by omega
  have HI0 : Hid (∀ W, Calls Try.prog 19 #[.agg #[.int .i64 a, .int .i64 (a + 1)], .agg #[.int .i64 S, .int .i64 (S + 300)]] W fun e w' => e = .returned (.bool true) ∧ Below W.heap.size W w') := Lib.hid fun W => by
    have h := lnest_any W a (a + 1) S (S + 300)
    rw [decide_eq_true (show S ≤ a by omega), decide_eq_true (show a + 1 ≤ S + 300 by omega)] at h
    exact h
  have HI1 : Hid (∀ W, Calls Try.prog 19 #[.agg #[.int .i64 S, .int .i64 (S + 300)], .agg #[.int .i64 L, .int .i64 (L + 3600)]] W fun e w' => e = .returned (.bool true) ∧ Below W.heap.size W w') := Lib.hid fun W => by
    have h := lnest_any W S (S + 300) L (L + 3600)
    rw [decide_eq_true (show L ≤ S by omega), decide_eq_true (show S + 300 ≤ L + 3600 by omega)] at h
    exact h
  have HIN : Hid (∀ W, Calls Try.prog 15 #[.agg #[.int .i64 a, .int .i64 (a + 1)], .int .i64 a] W fun e w' => e = .returned (.bool true) ∧ Below W.heap.size W w') := Lib.hid fun W => by
    have h := wiin_any W a (a + 1) a
    rw [show inR a (a + 1) a = true by unfold inR; simp; omega] at h
    exact h
  have hm : meetsR S (S + 300) L (L + 3600) = true := by unfold meetsR; simp only [decide_eq_true_eq]; omega
  have HBO : Hid (∀ W, Calls Try.prog 16 #[.agg #[.int .i64 S, .int .i64 (S + 300)], .agg #[.int .i64 L, .int .i64 (L + 3600)]] W fun e w' => e = .returned (.tuple #[.agg #[.int .i64 S, .int .i64 (S + 300)], .bool true]) ∧ Below W.heap.size W w') := Lib.hid fun W => by
    have h := wiboth_any W S (S + 300) L (L + 3600)
    rw [hm, show bothR S (S + 300) L (L + 3600) = (S, S + 300) by unfold bothR; rw [if_pos hm]; congr 1 <;> omega] at h
    exact h
  have HCU : Hid (∀ W, Calls Try.prog 18 #[.agg #[.int .i64 S, .int .i64 (S + 300)], .agg #[.int .i64 L, .int .i64 (L + 3600)]] W fun e w' => (∃ b c, e = .returned (.slice b 0 c)) ∧ Below W.heap.size W w') := Lib.hid fun W => by
    refine (wicut_any W S (S + 300) L (L + 3600)).mono ?_
    rintro e w' ⟨v, rfl, hr, hb⟩
    rw [cut_meets hm, show partR S L = [] by unfold partR; rw [if_neg (by omega)], show partR (L + 3600) (S + 300) = [] by unfold partR; rw [if_neg (by omega)]] at hr
    obtain ⟨b, c, rfl⟩ := hr.len
    exact ⟨⟨b, c, rfl⟩, hb⟩
  have e1 : wrap64 (L + 3600 - L) = 3600 := by unfold wrap64; omega
  have e2 : wrap64 (S + 300 - S) = 300 := by unfold wrap64; omega
  clear hS hL h2 h3 h0 h62 hm s1
  go_enter Try.func6, Try.ntmps6
  repeat (first | go_values | go_skip | go_guarded | go_step)
  refine (wilives_any w).mono ?_
  rintro e W1 ⟨rfl, hb⟩
  have HB1 := Lib.hid hb
  clear hb
  dsimp only
  repeat (first | go_values | go_skip | go_guarded | go_step)
  refine (HO0.out W1).mono ?_
  rintro e W2 ⟨rfl, hb⟩
  have HB2 := Lib.hid (HB1.out.trans (hb.mono HB1.out.size))
  clear hb HB1
  dsimp only
  repeat (first | go_values | go_skip | go_guarded | go_step)
  refine (HO1.out W2).mono ?_
  rintro e W3 ⟨rfl, hb⟩
  have HB3 := Lib.hid (HB2.out.trans (hb.mono HB2.out.size))
  clear hb HB2
  dsimp only
  repeat (first | go_values | go_skip | go_guarded | go_step)
  refine (HO2.out W3).mono ?_
  rintro e W4 ⟨rfl, hb⟩
  have HB4 := Lib.hid (HB3.out.trans (hb.mono HB3.out.size))
  clear hb HB3
  dsimp only
  go_upto_region 4 with fail
  refine wp_name fun W5 hW5 => ?_
  obtain ⟨P, hP⟩ : ∃ P, P = W4.heap.size := ⟨_, rfl⟩
  have f1 : (W4.alloc (.cells #[.int .i64 a, .int .i64 (a + 1)] 25)).heap.size = P + 1 := by rw [hP]; simp
  have f2 : ((W4.alloc (.cells #[.int .i64 a, .int .i64 (a + 1)] 25)).alloc (.cells #[.int .i64 S, .int .i64 (S + 300)] 25)).heap.size = P + 1 + 1 := by rw [hP]; simp
  have HA5 : Hid (RgAt W5 P a (a + 1)) := Lib.hid (by rw [hW5.out, hP]; exact ((RgAt.new W4 _ _).old _).old _)
  have HR5 : Hid (RgAt W5 (P + 1) S (S + 300)) := Lib.hid (by rw [hW5.out, ← f1]; exact (RgAt.new _ _ _).old _)
  have HC5 : Hid (RgAt W5 (P + 1 + 1) L (L + 3600)) := Lib.hid (by rw [hW5.out, ← f2]; exact RgAt.new _ _ _)
  have HB5 : Hid (Below w.heap.size w W5) := Lib.hid (HB4.out.trans ((show Below W4.heap.size W4 W5 by rw [hW5.out]; exact (((Below.refl _ _).alloc (Nat.le_refl _) _).alloc (by simp) _).alloc (by simp; omega) _).mono HB4.out.size))
  rw [← hP]
  clear hW5 hP f1 f2 HB4
  obtain ⟨a0, a1, -, -⟩ := HA5.out.cells
  obtain ⟨b0, b1, -, -⟩ := HR5.out.cells
  obtain ⟨c0, c1, -, -⟩ := HC5.out.cells
  repeat (first | go_values | go_skip | go_guarded | go_step)
  refine (HI0.out W5).mono ?_
  rintro e W6 ⟨rfl, hb⟩
  have HA6 := Lib.hid (HA5.out.keep hb)
  have HR6 := Lib.hid (HR5.out.keep hb)
  have HC6 := Lib.hid (HC5.out.keep hb)
  have HB6 := Lib.hid (HB5.out.trans (hb.mono HB5.out.size))
  clear hb a0 a1 b0 b1 c0 c1 HA5 HR5 HC5 HB5 HI0
  dsimp only
  obtain ⟨a0, a1, -, -⟩ := HA6.out.cells
  obtain ⟨b0, b1, -, -⟩ := HR6.out.cells
  obtain ⟨c0, c1, -, -⟩ := HC6.out.cells
  repeat (first | go_values | go_skip | go_guarded | go_step)
  refine (HI1.out W6).mono ?_
  rintro e W7 ⟨rfl, hb⟩
  have HA7 := Lib.hid (HA6.out.keep hb)
  have HR7 := Lib.hid (HR6.out.keep hb)
  have HC7 := Lib.hid (HC6.out.keep hb)
  have HB7 := Lib.hid (HB6.out.trans (hb.mono HB6.out.size))
  clear hb a0 a1 b0 b1 c0 c1 HA6 HR6 HC6 HB6 HI1
  dsimp only
  obtain ⟨a0, a1, -, -⟩ := HA7.out.cells
  obtain ⟨b0, b1, -, -⟩ := HR7.out.cells
  obtain ⟨c0, c1, -, -⟩ := HC7.out.cells
  repeat (first | go_values | go_skip | go_guarded | go_step)
  refine (HIN.out W7).mono ?_
  rintro e W8 ⟨rfl, hb⟩
  have HA8 := Lib.hid (HA7.out.keep hb)
  have HR8 := Lib.hid (HR7.out.keep hb)
  have HC8 := Lib.hid (HC7.out.keep hb)
  have HB8 := Lib.hid (HB7.out.trans (hb.mono HB7.out.size))
  clear hb a0 a1 b0 b1 c0 c1 HA7 HR7 HC7 HB7 HIN
  dsimp only
  obtain ⟨a0, a1, -, -⟩ := HA8.out.cells
  obtain ⟨b0, b1, -, -⟩ := HR8.out.cells
  obtain ⟨c0, c1, -, -⟩ := HC8.out.cells
  repeat (first | go_values | go_skip | go_guarded | go_step)
  refine (HBO.out W8).mono ?_
  rintro e W9 ⟨rfl, hb⟩
  have HA9 := Lib.hid (HA8.out.keep hb)
  have HR9 := Lib.hid (HR8.out.keep hb)
  have HC9 := Lib.hid (HC8.out.keep hb)
  have HB9 := Lib.hid (HB8.out.trans (hb.mono HB8.out.size))
  clear hb a0 a1 b0 b1 c0 c1 HA8 HR8 HC8 HB8 HBO
  dsimp only
  obtain ⟨a0, a1, -, -⟩ := HA9.out.cells
  obtain ⟨b0, b1, -, -⟩ := HR9.out.cells
  obtain ⟨c0, c1, -, -⟩ := HC9.out.cells
  go_upto_region 8 with fail
  refine wp_name fun W10 hW10 => ?_
  obtain ⟨Q, hQ⟩ : ∃ Q, Q = W9.heap.size := ⟨_, rfl⟩
  have HX10 : Hid (RgAt W10 Q S (S + 300)) := Lib.hid (by rw [hW10.out, hQ]; exact RgAt.new W9 _ _)
  have hb : Below W9.heap.size W9 W10 := by rw [hW10.out]; exact (Below.refl _ W9).alloc (Nat.le_refl _) _
  have HA10 := Lib.hid (HA9.out.keep hb)
  have HR10 := Lib.hid (HR9.out.keep hb)
  have HC10 := Lib.hid (HC9.out.keep hb)
  have HB10 := Lib.hid (HB9.out.trans (hb.mono HB9.out.size))
  rw [← hQ]
  clear hb a0 a1 b0 b1 c0 c1 HA9 HR9 HC9 HB9 hW10 hQ
  obtain ⟨x0, x1, -, -⟩ := HX10.out.cells
  obtain ⟨a0, a1, -, -⟩ := HA10.out.cells
  obtain ⟨b0, b1, -, -⟩ := HR10.out.cells
  obtain ⟨c0, c1, -, -⟩ := HC10.out.cells
  repeat (first | go_values | go_skip | go_guarded | go_step)
  refine (HCU.out W10).mono ?_
  rintro e W11 ⟨⟨b, c, rfl⟩, hb⟩
  have HB11 := Lib.hid (HB10.out.trans (hb.mono HB10.out.size))
  clear hb HB10 HCU
  dsimp only
  repeat (first | go_values | go_skip | go_guarded | go_step | go_upon)
  go_ret
  exact ⟨rfl, HB11.out⟩
end Go.Proofs.Ytfbipeppnffmeaa
