/- NameOrders, walked. Written by py/name-orders.py. -/
import Derived.Test.YtnaepipdlcineaaNmLives
import Derived.Test.YtnaepipdlcineaaNmLess
import Derived.Test.YtnaepipdlcineaaOpenKey
namespace Go.Proofs.Ytnaepipdlcineaa
open Go.RowKit

theorem cmpK_first {a0 a1 b0 b1 : ByteArray} {x : Int} (h : cmpT a0 b0 = x) (hx : x ≠ 0) : cmpK a0 a1 b0 b1 = x := by unfold cmpK; rw [if_neg (by rw [h]; exact hx), h]
theorem cmpK_second {a0 a1 b0 b1 : ByteArray} {x : Int} (h : cmpT a0 b0 = 0) (k : cmpT a1 b1 = x) : cmpK a0 a1 b0 b1 = x := by unfold cmpK; rw [if_pos h, k]
set_option maxHeartbeats 16000000 in
set_option maxRecDepth 1000000 in
theorem nameOrders_walk {a0 a1 b0 b1 c0 c1 : ByteArray} (_h0 : a0.size ≤ maxLen) (_h1 : a1.size ≤ maxLen) (_h2 : b0.size ≤ maxLen) (_h3 : b1.size ≤ maxLen) (_h4 : c0.size ≤ maxLen) (_h5 : c1.size ≤ maxLen) (w : World) :
    Calls Try.prog 6 #[.agg #[.string a0, .string a1], .agg #[.string b0, .string b1], .agg #[.string c0, .string c1]] w fun e w' => e = .returned (.bool true) ∧ Below w.heap.size w w' := by
  obtain ⟨y, hy⟩ : ∃ y, y = cmpK b0 b1 c0 c1 := ⟨_, rfl⟩
  obtain ⟨z, hz⟩ : ∃ z, z = cmpK a0 a1 c0 c1 := ⟨_, rfl⟩
  have HBC : Hid (∀ W, Calls Try.prog 13 #[.agg #[.string b0, .string b1], .agg #[.string c0, .string c1]] W fun e w' => e = .returned (.int .i64 y) ∧ Below W.heap.size W w') := Lib.hid fun W => by rw [hy]; exact nmless_any W b0 b1 c0 c1
  have HAC : Hid (∀ W, Calls Try.prog 13 #[.agg #[.string a0, .string a1], .agg #[.string c0, .string c1]] W fun e w' => e = .returned (.int .i64 z) ∧ Below W.heap.size W w') := Lib.hid fun W => by rw [hz]; exact nmless_any W a0 a1 c0 c1
  have HTR : Hid (cmpK a0 a1 b0 b1 ≤ 0 → y ≤ 0 → z ≤ 0) := Lib.hid fun h k => by rw [hz]; exact cmpK_trans h (by rw [← hy]; exact k)
  clear hy hz
  obtain ⟨S, hS⟩ : ∃ S, S = wrap64 (wrap64 (wrap64 (wrap64 (wrap64 ((a0.size : Int) + (a1.size : Int)) + (b0.size : Int)) + (b1.size : Int)) + (c0.size : Int)) + (c1.size : Int)) := ⟨_, rfl⟩
  have eS := hS.symm
  clear hS
  have T := cmpT_three a0 b0
  have U := cmpT_three a1 b1
  go_enter Try.func6, Try.ntmps6
  repeat (first | go_values | go_skip | go_guarded | go_step)
  refine calls_name ?_
  intro W0 hW0
  obtain ⟨P, hP⟩ : ∃ P, P = w.heap.size := ⟨_, rfl⟩
  have e1 : (w.alloc (.cells #[.string a0, .string a1] 25)).heap.size = P + 1 := by rw [hP]; simp
  have e2 : ((w.alloc (.cells #[.string a0, .string a1] 25)).alloc (.cells #[.string b0, .string b1] 25)).heap.size = P + 1 + 1 := by rw [hP]; simp
  have HKA0 : Hid (KeyAt W0 P a0 a1) := Lib.hid (by rw [hW0.out, hP]; exact ((KeyAt.new w a0 a1).old _).old _)
  have HKB0 : Hid (KeyAt W0 (P + 1) b0 b1) := Lib.hid (by rw [hW0.out, ← e1]; exact (KeyAt.new _ b0 b1).old _)
  have HKC0 : Hid (KeyAt W0 (P + 1 + 1) c0 c1) := Lib.hid (by rw [hW0.out, ← e2]; exact KeyAt.new _ c0 c1)
  have HB0 : Hid (Below w.heap.size w W0) := Lib.hid (by rw [hW0.out]; exact (((Below.refl _ _).alloc (Nat.le_refl _) _).alloc (by simp) _).alloc (by simp; omega) _)
  rw [← hP]
  clear hW0 hP e1 e2
  refine (nmlives_any W0).mono ?_
  rintro e W1 ⟨rfl, hb⟩
  have HKA1 := Lib.hid (HKA0.out.keep hb)
  have HKB1 := Lib.hid (HKB0.out.keep hb)
  have HKC1 := Lib.hid (HKC0.out.keep hb)
  have HB1 := Lib.hid (HB0.out.trans (hb.mono HB0.out.size))
  clear hb HKA0 HKB0 HKC0 HB0
  dsimp only
  obtain ⟨a0c, a1c⟩ := HKA1.out.cells; obtain ⟨b0c, b1c⟩ := HKB1.out.cells; obtain ⟨c0c, c1c⟩ := HKC1.out.cells
  by_cases h600 : 600 < S
  · have t600 : decide (600 < S) = true := decide_eq_true h600
    clear h600 T U
    repeat (first | go_values | go_skip | go_guarded | go_step)
    refine (nmlives_any W1).mono ?_
    rintro e W2 ⟨rfl, hb⟩
    have HB2 := Lib.hid (HB1.out.trans (hb.mono HB1.out.size))
    clear hb
    dsimp only
    repeat (first | go_values | go_skip | go_guarded | go_step | go_upon)
    go_ret
    exact ⟨rfl, HB2.out⟩
  have t600 : decide (600 < S) = false := decide_eq_false h600
  clear h600
  rcases T with ⟨x1, -, L0, E0, -⟩ | ⟨x1, -, L0, E0, -⟩ | ⟨x1, -, L0, E0, -⟩
  · clear U
    have HX : Hid (cmpK a0 a1 b0 b1 = -1) := Lib.hid (cmpK_first x1 (by decide))
    have HAB : Hid (∀ W, Calls Try.prog 13 #[.agg #[.string a0, .string a1], .agg #[.string b0, .string b1]] W fun e w' => e = .returned (.int .i64 (-1)) ∧ Below W.heap.size W w') := Lib.hid fun W => by have h := nmless_any W a0 a1 b0 b1; rw [HX.out] at h; exact h
    have HBA : Hid (∀ W, Calls Try.prog 13 #[.agg #[.string b0, .string b1], .agg #[.string a0, .string a1]] W fun e w' => e = .returned (.int .i64 (1)) ∧ Below W.heap.size W w') := Lib.hid fun W => by have h := nmless_any W b0 b1 a0 a1; rw [(cmpK_one a0 a1 b0 b1).2, HX.out] at h; exact h
    by_cases hy : 0 < y
    · have ty : decide (0 < y) = true := decide_eq_true hy
      clear hy
      repeat (first | go_values | go_skip | go_guarded | go_step)
      refine (HAB.out W1).mono ?_
      rintro e W2 ⟨rfl, hb⟩
      have HKA2 := Lib.hid (HKA1.out.keep hb)
      have HKB2 := Lib.hid (HKB1.out.keep hb)
      have HKC2 := Lib.hid (HKC1.out.keep hb)
      have HB2 := Lib.hid (HB1.out.trans (hb.mono HB1.out.size))
      clear hb HKA1 HKB1 HKC1 HB1 a0c a1c b0c b1c c0c c1c
      dsimp only
      obtain ⟨a0c, a1c⟩ := HKA2.out.cells; obtain ⟨b0c, b1c⟩ := HKB2.out.cells; obtain ⟨c0c, c1c⟩ := HKC2.out.cells
      repeat (first | go_values | go_skip | go_guarded | go_step)
      refine (HBA.out W2).mono ?_
      rintro e W3 ⟨rfl, hb⟩
      have HKA3 := Lib.hid (HKA2.out.keep hb)
      have HKB3 := Lib.hid (HKB2.out.keep hb)
      have HKC3 := Lib.hid (HKC2.out.keep hb)
      have HB3 := Lib.hid (HB2.out.trans (hb.mono HB2.out.size))
      clear hb HKA2 HKB2 HKC2 HB2 a0c a1c b0c b1c c0c c1c
      dsimp only
      obtain ⟨a0c, a1c⟩ := HKA3.out.cells; obtain ⟨b0c, b1c⟩ := HKB3.out.cells; obtain ⟨c0c, c1c⟩ := HKC3.out.cells
      repeat (first | go_values | go_skip | go_guarded | go_step)
      refine (HAB.out W3).mono ?_
      rintro e W4 ⟨rfl, hb⟩
      have HKA4 := Lib.hid (HKA3.out.keep hb)
      have HKB4 := Lib.hid (HKB3.out.keep hb)
      have HKC4 := Lib.hid (HKC3.out.keep hb)
      have HB4 := Lib.hid (HB3.out.trans (hb.mono HB3.out.size))
      clear hb HKA3 HKB3 HKC3 HB3 a0c a1c b0c b1c c0c c1c
      dsimp only
      obtain ⟨a0c, a1c⟩ := HKA4.out.cells; obtain ⟨b0c, b1c⟩ := HKB4.out.cells; obtain ⟨c0c, c1c⟩ := HKC4.out.cells
      repeat (first | go_values | go_skip | go_guarded | go_step)
      refine (HBC.out W4).mono ?_
      rintro e W5 ⟨rfl, hb⟩
      have HKA5 := Lib.hid (HKA4.out.keep hb)
      have HKB5 := Lib.hid (HKB4.out.keep hb)
      have HKC5 := Lib.hid (HKC4.out.keep hb)
      have HB5 := Lib.hid (HB4.out.trans (hb.mono HB4.out.size))
      clear hb HKA4 HKB4 HKC4 HB4 a0c a1c b0c b1c c0c c1c
      dsimp only
      obtain ⟨a0c, a1c⟩ := HKA5.out.cells; obtain ⟨b0c, b1c⟩ := HKB5.out.cells; obtain ⟨c0c, c1c⟩ := HKC5.out.cells
      repeat (first | go_values | go_skip | go_guarded | go_step | go_upon)
      go_ret
      exact ⟨rfl, HB5.out⟩
    · have ty : decide (0 < y) = false := decide_eq_false hy
      have tz : decide (z ≤ 0) = true := decide_eq_true (HTR.out (by rw [HX.out]; decide) (by omega))
      clear hy
      repeat (first | go_values | go_skip | go_guarded | go_step)
      refine (HAB.out W1).mono ?_
      rintro e W2 ⟨rfl, hb⟩
      have HKA2 := Lib.hid (HKA1.out.keep hb)
      have HKB2 := Lib.hid (HKB1.out.keep hb)
      have HKC2 := Lib.hid (HKC1.out.keep hb)
      have HB2 := Lib.hid (HB1.out.trans (hb.mono HB1.out.size))
      clear hb HKA1 HKB1 HKC1 HB1 a0c a1c b0c b1c c0c c1c
      dsimp only
      obtain ⟨a0c, a1c⟩ := HKA2.out.cells; obtain ⟨b0c, b1c⟩ := HKB2.out.cells; obtain ⟨c0c, c1c⟩ := HKC2.out.cells
      repeat (first | go_values | go_skip | go_guarded | go_step)
      refine (HBA.out W2).mono ?_
      rintro e W3 ⟨rfl, hb⟩
      have HKA3 := Lib.hid (HKA2.out.keep hb)
      have HKB3 := Lib.hid (HKB2.out.keep hb)
      have HKC3 := Lib.hid (HKC2.out.keep hb)
      have HB3 := Lib.hid (HB2.out.trans (hb.mono HB2.out.size))
      clear hb HKA2 HKB2 HKC2 HB2 a0c a1c b0c b1c c0c c1c
      dsimp only
      obtain ⟨a0c, a1c⟩ := HKA3.out.cells; obtain ⟨b0c, b1c⟩ := HKB3.out.cells; obtain ⟨c0c, c1c⟩ := HKC3.out.cells
      repeat (first | go_values | go_skip | go_guarded | go_step)
      refine (HAB.out W3).mono ?_
      rintro e W4 ⟨rfl, hb⟩
      have HKA4 := Lib.hid (HKA3.out.keep hb)
      have HKB4 := Lib.hid (HKB3.out.keep hb)
      have HKC4 := Lib.hid (HKC3.out.keep hb)
      have HB4 := Lib.hid (HB3.out.trans (hb.mono HB3.out.size))
      clear hb HKA3 HKB3 HKC3 HB3 a0c a1c b0c b1c c0c c1c
      dsimp only
      obtain ⟨a0c, a1c⟩ := HKA4.out.cells; obtain ⟨b0c, b1c⟩ := HKB4.out.cells; obtain ⟨c0c, c1c⟩ := HKC4.out.cells
      repeat (first | go_values | go_skip | go_guarded | go_step)
      refine (HBC.out W4).mono ?_
      rintro e W5 ⟨rfl, hb⟩
      have HKA5 := Lib.hid (HKA4.out.keep hb)
      have HKB5 := Lib.hid (HKB4.out.keep hb)
      have HKC5 := Lib.hid (HKC4.out.keep hb)
      have HB5 := Lib.hid (HB4.out.trans (hb.mono HB4.out.size))
      clear hb HKA4 HKB4 HKC4 HB4 a0c a1c b0c b1c c0c c1c
      dsimp only
      obtain ⟨a0c, a1c⟩ := HKA5.out.cells; obtain ⟨b0c, b1c⟩ := HKB5.out.cells; obtain ⟨c0c, c1c⟩ := HKC5.out.cells
      repeat (first | go_values | go_skip | go_guarded | go_step)
      refine (HAC.out W5).mono ?_
      rintro e W6 ⟨rfl, hb⟩
      have HKA6 := Lib.hid (HKA5.out.keep hb)
      have HKB6 := Lib.hid (HKB5.out.keep hb)
      have HKC6 := Lib.hid (HKC5.out.keep hb)
      have HB6 := Lib.hid (HB5.out.trans (hb.mono HB5.out.size))
      clear hb HKA5 HKB5 HKC5 HB5 a0c a1c b0c b1c c0c c1c
      dsimp only
      obtain ⟨a0c, a1c⟩ := HKA6.out.cells; obtain ⟨b0c, b1c⟩ := HKB6.out.cells; obtain ⟨c0c, c1c⟩ := HKC6.out.cells
      repeat (first | go_values | go_skip | go_guarded | go_step | go_upon)
      go_ret
      exact ⟨rfl, HB6.out⟩
  · rcases U with ⟨y1, -, L1, E1, -⟩ | ⟨y1, -, L1, E1, -⟩ | ⟨y1, -, L1, E1, -⟩
    · have HX : Hid (cmpK a0 a1 b0 b1 = -1) := Lib.hid (cmpK_second x1 y1)
      have HAB : Hid (∀ W, Calls Try.prog 13 #[.agg #[.string a0, .string a1], .agg #[.string b0, .string b1]] W fun e w' => e = .returned (.int .i64 (-1)) ∧ Below W.heap.size W w') := Lib.hid fun W => by have h := nmless_any W a0 a1 b0 b1; rw [HX.out] at h; exact h
      have HBA : Hid (∀ W, Calls Try.prog 13 #[.agg #[.string b0, .string b1], .agg #[.string a0, .string a1]] W fun e w' => e = .returned (.int .i64 (1)) ∧ Below W.heap.size W w') := Lib.hid fun W => by have h := nmless_any W b0 b1 a0 a1; rw [(cmpK_one a0 a1 b0 b1).2, HX.out] at h; exact h
      by_cases hy : 0 < y
      · have ty : decide (0 < y) = true := decide_eq_true hy
        clear hy
        repeat (first | go_values | go_skip | go_guarded | go_step)
        refine (HAB.out W1).mono ?_
        rintro e W2 ⟨rfl, hb⟩
        have HKA2 := Lib.hid (HKA1.out.keep hb)
        have HKB2 := Lib.hid (HKB1.out.keep hb)
        have HKC2 := Lib.hid (HKC1.out.keep hb)
        have HB2 := Lib.hid (HB1.out.trans (hb.mono HB1.out.size))
        clear hb HKA1 HKB1 HKC1 HB1 a0c a1c b0c b1c c0c c1c
        dsimp only
        obtain ⟨a0c, a1c⟩ := HKA2.out.cells; obtain ⟨b0c, b1c⟩ := HKB2.out.cells; obtain ⟨c0c, c1c⟩ := HKC2.out.cells
        repeat (first | go_values | go_skip | go_guarded | go_step)
        refine (HBA.out W2).mono ?_
        rintro e W3 ⟨rfl, hb⟩
        have HKA3 := Lib.hid (HKA2.out.keep hb)
        have HKB3 := Lib.hid (HKB2.out.keep hb)
        have HKC3 := Lib.hid (HKC2.out.keep hb)
        have HB3 := Lib.hid (HB2.out.trans (hb.mono HB2.out.size))
        clear hb HKA2 HKB2 HKC2 HB2 a0c a1c b0c b1c c0c c1c
        dsimp only
        obtain ⟨a0c, a1c⟩ := HKA3.out.cells; obtain ⟨b0c, b1c⟩ := HKB3.out.cells; obtain ⟨c0c, c1c⟩ := HKC3.out.cells
        repeat (first | go_values | go_skip | go_guarded | go_step)
        refine (HAB.out W3).mono ?_
        rintro e W4 ⟨rfl, hb⟩
        have HKA4 := Lib.hid (HKA3.out.keep hb)
        have HKB4 := Lib.hid (HKB3.out.keep hb)
        have HKC4 := Lib.hid (HKC3.out.keep hb)
        have HB4 := Lib.hid (HB3.out.trans (hb.mono HB3.out.size))
        clear hb HKA3 HKB3 HKC3 HB3 a0c a1c b0c b1c c0c c1c
        dsimp only
        obtain ⟨a0c, a1c⟩ := HKA4.out.cells; obtain ⟨b0c, b1c⟩ := HKB4.out.cells; obtain ⟨c0c, c1c⟩ := HKC4.out.cells
        repeat (first | go_values | go_skip | go_guarded | go_step)
        refine (HBC.out W4).mono ?_
        rintro e W5 ⟨rfl, hb⟩
        have HKA5 := Lib.hid (HKA4.out.keep hb)
        have HKB5 := Lib.hid (HKB4.out.keep hb)
        have HKC5 := Lib.hid (HKC4.out.keep hb)
        have HB5 := Lib.hid (HB4.out.trans (hb.mono HB4.out.size))
        clear hb HKA4 HKB4 HKC4 HB4 a0c a1c b0c b1c c0c c1c
        dsimp only
        obtain ⟨a0c, a1c⟩ := HKA5.out.cells; obtain ⟨b0c, b1c⟩ := HKB5.out.cells; obtain ⟨c0c, c1c⟩ := HKC5.out.cells
        repeat (first | go_values | go_skip | go_guarded | go_step | go_upon)
        go_ret
        exact ⟨rfl, HB5.out⟩
      · have ty : decide (0 < y) = false := decide_eq_false hy
        have tz : decide (z ≤ 0) = true := decide_eq_true (HTR.out (by rw [HX.out]; decide) (by omega))
        clear hy
        repeat (first | go_values | go_skip | go_guarded | go_step)
        refine (HAB.out W1).mono ?_
        rintro e W2 ⟨rfl, hb⟩
        have HKA2 := Lib.hid (HKA1.out.keep hb)
        have HKB2 := Lib.hid (HKB1.out.keep hb)
        have HKC2 := Lib.hid (HKC1.out.keep hb)
        have HB2 := Lib.hid (HB1.out.trans (hb.mono HB1.out.size))
        clear hb HKA1 HKB1 HKC1 HB1 a0c a1c b0c b1c c0c c1c
        dsimp only
        obtain ⟨a0c, a1c⟩ := HKA2.out.cells; obtain ⟨b0c, b1c⟩ := HKB2.out.cells; obtain ⟨c0c, c1c⟩ := HKC2.out.cells
        repeat (first | go_values | go_skip | go_guarded | go_step)
        refine (HBA.out W2).mono ?_
        rintro e W3 ⟨rfl, hb⟩
        have HKA3 := Lib.hid (HKA2.out.keep hb)
        have HKB3 := Lib.hid (HKB2.out.keep hb)
        have HKC3 := Lib.hid (HKC2.out.keep hb)
        have HB3 := Lib.hid (HB2.out.trans (hb.mono HB2.out.size))
        clear hb HKA2 HKB2 HKC2 HB2 a0c a1c b0c b1c c0c c1c
        dsimp only
        obtain ⟨a0c, a1c⟩ := HKA3.out.cells; obtain ⟨b0c, b1c⟩ := HKB3.out.cells; obtain ⟨c0c, c1c⟩ := HKC3.out.cells
        repeat (first | go_values | go_skip | go_guarded | go_step)
        refine (HAB.out W3).mono ?_
        rintro e W4 ⟨rfl, hb⟩
        have HKA4 := Lib.hid (HKA3.out.keep hb)
        have HKB4 := Lib.hid (HKB3.out.keep hb)
        have HKC4 := Lib.hid (HKC3.out.keep hb)
        have HB4 := Lib.hid (HB3.out.trans (hb.mono HB3.out.size))
        clear hb HKA3 HKB3 HKC3 HB3 a0c a1c b0c b1c c0c c1c
        dsimp only
        obtain ⟨a0c, a1c⟩ := HKA4.out.cells; obtain ⟨b0c, b1c⟩ := HKB4.out.cells; obtain ⟨c0c, c1c⟩ := HKC4.out.cells
        repeat (first | go_values | go_skip | go_guarded | go_step)
        refine (HBC.out W4).mono ?_
        rintro e W5 ⟨rfl, hb⟩
        have HKA5 := Lib.hid (HKA4.out.keep hb)
        have HKB5 := Lib.hid (HKB4.out.keep hb)
        have HKC5 := Lib.hid (HKC4.out.keep hb)
        have HB5 := Lib.hid (HB4.out.trans (hb.mono HB4.out.size))
        clear hb HKA4 HKB4 HKC4 HB4 a0c a1c b0c b1c c0c c1c
        dsimp only
        obtain ⟨a0c, a1c⟩ := HKA5.out.cells; obtain ⟨b0c, b1c⟩ := HKB5.out.cells; obtain ⟨c0c, c1c⟩ := HKC5.out.cells
        repeat (first | go_values | go_skip | go_guarded | go_step)
        refine (HAC.out W5).mono ?_
        rintro e W6 ⟨rfl, hb⟩
        have HKA6 := Lib.hid (HKA5.out.keep hb)
        have HKB6 := Lib.hid (HKB5.out.keep hb)
        have HKC6 := Lib.hid (HKC5.out.keep hb)
        have HB6 := Lib.hid (HB5.out.trans (hb.mono HB5.out.size))
        clear hb HKA5 HKB5 HKC5 HB5 a0c a1c b0c b1c c0c c1c
        dsimp only
        obtain ⟨a0c, a1c⟩ := HKA6.out.cells; obtain ⟨b0c, b1c⟩ := HKB6.out.cells; obtain ⟨c0c, c1c⟩ := HKC6.out.cells
        repeat (first | go_values | go_skip | go_guarded | go_step | go_upon)
        go_ret
        exact ⟨rfl, HB6.out⟩
    · have HX : Hid (cmpK a0 a1 b0 b1 = 0) := Lib.hid (cmpK_second x1 y1)
      have HAB : Hid (∀ W, Calls Try.prog 13 #[.agg #[.string a0, .string a1], .agg #[.string b0, .string b1]] W fun e w' => e = .returned (.int .i64 (0)) ∧ Below W.heap.size W w') := Lib.hid fun W => by have h := nmless_any W a0 a1 b0 b1; rw [HX.out] at h; exact h
      have HBA : Hid (∀ W, Calls Try.prog 13 #[.agg #[.string b0, .string b1], .agg #[.string a0, .string a1]] W fun e w' => e = .returned (.int .i64 (0)) ∧ Below W.heap.size W w') := Lib.hid fun W => by have h := nmless_any W b0 b1 a0 a1; rw [(cmpK_one a0 a1 b0 b1).2, HX.out] at h; exact h
      by_cases hy : 0 < y
      · have ty : decide (0 < y) = true := decide_eq_true hy
        clear hy
        repeat (first | go_values | go_skip | go_guarded | go_step)
        refine (HAB.out W1).mono ?_
        rintro e W2 ⟨rfl, hb⟩
        have HKA2 := Lib.hid (HKA1.out.keep hb)
        have HKB2 := Lib.hid (HKB1.out.keep hb)
        have HKC2 := Lib.hid (HKC1.out.keep hb)
        have HB2 := Lib.hid (HB1.out.trans (hb.mono HB1.out.size))
        clear hb HKA1 HKB1 HKC1 HB1 a0c a1c b0c b1c c0c c1c
        dsimp only
        obtain ⟨a0c, a1c⟩ := HKA2.out.cells; obtain ⟨b0c, b1c⟩ := HKB2.out.cells; obtain ⟨c0c, c1c⟩ := HKC2.out.cells
        repeat (first | go_values | go_skip | go_guarded | go_step)
        refine (HBA.out W2).mono ?_
        rintro e W3 ⟨rfl, hb⟩
        have HKA3 := Lib.hid (HKA2.out.keep hb)
        have HKB3 := Lib.hid (HKB2.out.keep hb)
        have HKC3 := Lib.hid (HKC2.out.keep hb)
        have HB3 := Lib.hid (HB2.out.trans (hb.mono HB2.out.size))
        clear hb HKA2 HKB2 HKC2 HB2 a0c a1c b0c b1c c0c c1c
        dsimp only
        obtain ⟨a0c, a1c⟩ := HKA3.out.cells; obtain ⟨b0c, b1c⟩ := HKB3.out.cells; obtain ⟨c0c, c1c⟩ := HKC3.out.cells
        repeat (first | go_values | go_skip | go_guarded | go_step)
        refine (HAB.out W3).mono ?_
        rintro e W4 ⟨rfl, hb⟩
        have HKA4 := Lib.hid (HKA3.out.keep hb)
        have HKB4 := Lib.hid (HKB3.out.keep hb)
        have HKC4 := Lib.hid (HKC3.out.keep hb)
        have HB4 := Lib.hid (HB3.out.trans (hb.mono HB3.out.size))
        clear hb HKA3 HKB3 HKC3 HB3 a0c a1c b0c b1c c0c c1c
        dsimp only
        obtain ⟨a0c, a1c⟩ := HKA4.out.cells; obtain ⟨b0c, b1c⟩ := HKB4.out.cells; obtain ⟨c0c, c1c⟩ := HKC4.out.cells
        repeat (first | go_values | go_skip | go_guarded | go_step)
        refine (HBC.out W4).mono ?_
        rintro e W5 ⟨rfl, hb⟩
        have HKA5 := Lib.hid (HKA4.out.keep hb)
        have HKB5 := Lib.hid (HKB4.out.keep hb)
        have HKC5 := Lib.hid (HKC4.out.keep hb)
        have HB5 := Lib.hid (HB4.out.trans (hb.mono HB4.out.size))
        clear hb HKA4 HKB4 HKC4 HB4 a0c a1c b0c b1c c0c c1c
        dsimp only
        obtain ⟨a0c, a1c⟩ := HKA5.out.cells; obtain ⟨b0c, b1c⟩ := HKB5.out.cells; obtain ⟨c0c, c1c⟩ := HKC5.out.cells
        repeat (first | go_values | go_skip | go_guarded | go_step | go_upon)
        go_ret
        exact ⟨rfl, HB5.out⟩
      · have ty : decide (0 < y) = false := decide_eq_false hy
        have tz : decide (z ≤ 0) = true := decide_eq_true (HTR.out (by rw [HX.out]; decide) (by omega))
        clear hy
        repeat (first | go_values | go_skip | go_guarded | go_step)
        refine (HAB.out W1).mono ?_
        rintro e W2 ⟨rfl, hb⟩
        have HKA2 := Lib.hid (HKA1.out.keep hb)
        have HKB2 := Lib.hid (HKB1.out.keep hb)
        have HKC2 := Lib.hid (HKC1.out.keep hb)
        have HB2 := Lib.hid (HB1.out.trans (hb.mono HB1.out.size))
        clear hb HKA1 HKB1 HKC1 HB1 a0c a1c b0c b1c c0c c1c
        dsimp only
        obtain ⟨a0c, a1c⟩ := HKA2.out.cells; obtain ⟨b0c, b1c⟩ := HKB2.out.cells; obtain ⟨c0c, c1c⟩ := HKC2.out.cells
        repeat (first | go_values | go_skip | go_guarded | go_step)
        refine (HBA.out W2).mono ?_
        rintro e W3 ⟨rfl, hb⟩
        have HKA3 := Lib.hid (HKA2.out.keep hb)
        have HKB3 := Lib.hid (HKB2.out.keep hb)
        have HKC3 := Lib.hid (HKC2.out.keep hb)
        have HB3 := Lib.hid (HB2.out.trans (hb.mono HB2.out.size))
        clear hb HKA2 HKB2 HKC2 HB2 a0c a1c b0c b1c c0c c1c
        dsimp only
        obtain ⟨a0c, a1c⟩ := HKA3.out.cells; obtain ⟨b0c, b1c⟩ := HKB3.out.cells; obtain ⟨c0c, c1c⟩ := HKC3.out.cells
        repeat (first | go_values | go_skip | go_guarded | go_step)
        refine (HAB.out W3).mono ?_
        rintro e W4 ⟨rfl, hb⟩
        have HKA4 := Lib.hid (HKA3.out.keep hb)
        have HKB4 := Lib.hid (HKB3.out.keep hb)
        have HKC4 := Lib.hid (HKC3.out.keep hb)
        have HB4 := Lib.hid (HB3.out.trans (hb.mono HB3.out.size))
        clear hb HKA3 HKB3 HKC3 HB3 a0c a1c b0c b1c c0c c1c
        dsimp only
        obtain ⟨a0c, a1c⟩ := HKA4.out.cells; obtain ⟨b0c, b1c⟩ := HKB4.out.cells; obtain ⟨c0c, c1c⟩ := HKC4.out.cells
        repeat (first | go_values | go_skip | go_guarded | go_step)
        refine (HBC.out W4).mono ?_
        rintro e W5 ⟨rfl, hb⟩
        have HKA5 := Lib.hid (HKA4.out.keep hb)
        have HKB5 := Lib.hid (HKB4.out.keep hb)
        have HKC5 := Lib.hid (HKC4.out.keep hb)
        have HB5 := Lib.hid (HB4.out.trans (hb.mono HB4.out.size))
        clear hb HKA4 HKB4 HKC4 HB4 a0c a1c b0c b1c c0c c1c
        dsimp only
        obtain ⟨a0c, a1c⟩ := HKA5.out.cells; obtain ⟨b0c, b1c⟩ := HKB5.out.cells; obtain ⟨c0c, c1c⟩ := HKC5.out.cells
        repeat (first | go_values | go_skip | go_guarded | go_step)
        refine (HAC.out W5).mono ?_
        rintro e W6 ⟨rfl, hb⟩
        have HKA6 := Lib.hid (HKA5.out.keep hb)
        have HKB6 := Lib.hid (HKB5.out.keep hb)
        have HKC6 := Lib.hid (HKC5.out.keep hb)
        have HB6 := Lib.hid (HB5.out.trans (hb.mono HB5.out.size))
        clear hb HKA5 HKB5 HKC5 HB5 a0c a1c b0c b1c c0c c1c
        dsimp only
        obtain ⟨a0c, a1c⟩ := HKA6.out.cells; obtain ⟨b0c, b1c⟩ := HKB6.out.cells; obtain ⟨c0c, c1c⟩ := HKC6.out.cells
        repeat (first | go_values | go_skip | go_guarded | go_step | go_upon)
        go_ret
        exact ⟨rfl, HB6.out⟩
    · have HX : Hid (cmpK a0 a1 b0 b1 = 1) := Lib.hid (cmpK_second x1 y1)
      have HAB : Hid (∀ W, Calls Try.prog 13 #[.agg #[.string a0, .string a1], .agg #[.string b0, .string b1]] W fun e w' => e = .returned (.int .i64 (1)) ∧ Below W.heap.size W w') := Lib.hid fun W => by have h := nmless_any W a0 a1 b0 b1; rw [HX.out] at h; exact h
      have HBA : Hid (∀ W, Calls Try.prog 13 #[.agg #[.string b0, .string b1], .agg #[.string a0, .string a1]] W fun e w' => e = .returned (.int .i64 (-1)) ∧ Below W.heap.size W w') := Lib.hid fun W => by have h := nmless_any W b0 b1 a0 a1; rw [(cmpK_one a0 a1 b0 b1).2, HX.out] at h; exact h
      repeat (first | go_values | go_skip | go_guarded | go_step)
      refine (HAB.out W1).mono ?_
      rintro e W2 ⟨rfl, hb⟩
      have HKA2 := Lib.hid (HKA1.out.keep hb)
      have HKB2 := Lib.hid (HKB1.out.keep hb)
      have HKC2 := Lib.hid (HKC1.out.keep hb)
      have HB2 := Lib.hid (HB1.out.trans (hb.mono HB1.out.size))
      clear hb HKA1 HKB1 HKC1 HB1 a0c a1c b0c b1c c0c c1c
      dsimp only
      obtain ⟨a0c, a1c⟩ := HKA2.out.cells; obtain ⟨b0c, b1c⟩ := HKB2.out.cells; obtain ⟨c0c, c1c⟩ := HKC2.out.cells
      repeat (first | go_values | go_skip | go_guarded | go_step)
      refine (HBA.out W2).mono ?_
      rintro e W3 ⟨rfl, hb⟩
      have HKA3 := Lib.hid (HKA2.out.keep hb)
      have HKB3 := Lib.hid (HKB2.out.keep hb)
      have HKC3 := Lib.hid (HKC2.out.keep hb)
      have HB3 := Lib.hid (HB2.out.trans (hb.mono HB2.out.size))
      clear hb HKA2 HKB2 HKC2 HB2 a0c a1c b0c b1c c0c c1c
      dsimp only
      obtain ⟨a0c, a1c⟩ := HKA3.out.cells; obtain ⟨b0c, b1c⟩ := HKB3.out.cells; obtain ⟨c0c, c1c⟩ := HKC3.out.cells
      repeat (first | go_values | go_skip | go_guarded | go_step)
      refine (HAB.out W3).mono ?_
      rintro e W4 ⟨rfl, hb⟩
      have HKA4 := Lib.hid (HKA3.out.keep hb)
      have HKB4 := Lib.hid (HKB3.out.keep hb)
      have HKC4 := Lib.hid (HKC3.out.keep hb)
      have HB4 := Lib.hid (HB3.out.trans (hb.mono HB3.out.size))
      clear hb HKA3 HKB3 HKC3 HB3 a0c a1c b0c b1c c0c c1c
      dsimp only
      obtain ⟨a0c, a1c⟩ := HKA4.out.cells; obtain ⟨b0c, b1c⟩ := HKB4.out.cells; obtain ⟨c0c, c1c⟩ := HKC4.out.cells
      repeat (first | go_values | go_skip | go_guarded | go_step | go_upon)
      go_ret
      exact ⟨rfl, HB4.out⟩
  · clear U
    have HX : Hid (cmpK a0 a1 b0 b1 = 1) := Lib.hid (cmpK_first x1 (by decide))
    have HAB : Hid (∀ W, Calls Try.prog 13 #[.agg #[.string a0, .string a1], .agg #[.string b0, .string b1]] W fun e w' => e = .returned (.int .i64 (1)) ∧ Below W.heap.size W w') := Lib.hid fun W => by have h := nmless_any W a0 a1 b0 b1; rw [HX.out] at h; exact h
    have HBA : Hid (∀ W, Calls Try.prog 13 #[.agg #[.string b0, .string b1], .agg #[.string a0, .string a1]] W fun e w' => e = .returned (.int .i64 (-1)) ∧ Below W.heap.size W w') := Lib.hid fun W => by have h := nmless_any W b0 b1 a0 a1; rw [(cmpK_one a0 a1 b0 b1).2, HX.out] at h; exact h
    repeat (first | go_values | go_skip | go_guarded | go_step)
    refine (HAB.out W1).mono ?_
    rintro e W2 ⟨rfl, hb⟩
    have HKA2 := Lib.hid (HKA1.out.keep hb)
    have HKB2 := Lib.hid (HKB1.out.keep hb)
    have HKC2 := Lib.hid (HKC1.out.keep hb)
    have HB2 := Lib.hid (HB1.out.trans (hb.mono HB1.out.size))
    clear hb HKA1 HKB1 HKC1 HB1 a0c a1c b0c b1c c0c c1c
    dsimp only
    obtain ⟨a0c, a1c⟩ := HKA2.out.cells; obtain ⟨b0c, b1c⟩ := HKB2.out.cells; obtain ⟨c0c, c1c⟩ := HKC2.out.cells
    repeat (first | go_values | go_skip | go_guarded | go_step)
    refine (HBA.out W2).mono ?_
    rintro e W3 ⟨rfl, hb⟩
    have HKA3 := Lib.hid (HKA2.out.keep hb)
    have HKB3 := Lib.hid (HKB2.out.keep hb)
    have HKC3 := Lib.hid (HKC2.out.keep hb)
    have HB3 := Lib.hid (HB2.out.trans (hb.mono HB2.out.size))
    clear hb HKA2 HKB2 HKC2 HB2 a0c a1c b0c b1c c0c c1c
    dsimp only
    obtain ⟨a0c, a1c⟩ := HKA3.out.cells; obtain ⟨b0c, b1c⟩ := HKB3.out.cells; obtain ⟨c0c, c1c⟩ := HKC3.out.cells
    repeat (first | go_values | go_skip | go_guarded | go_step)
    refine (HAB.out W3).mono ?_
    rintro e W4 ⟨rfl, hb⟩
    have HKA4 := Lib.hid (HKA3.out.keep hb)
    have HKB4 := Lib.hid (HKB3.out.keep hb)
    have HKC4 := Lib.hid (HKC3.out.keep hb)
    have HB4 := Lib.hid (HB3.out.trans (hb.mono HB3.out.size))
    clear hb HKA3 HKB3 HKC3 HB3 a0c a1c b0c b1c c0c c1c
    dsimp only
    obtain ⟨a0c, a1c⟩ := HKA4.out.cells; obtain ⟨b0c, b1c⟩ := HKB4.out.cells; obtain ⟨c0c, c1c⟩ := HKC4.out.cells
    repeat (first | go_values | go_skip | go_guarded | go_step | go_upon)
    go_ret
    exact ⟨rfl, HB4.out⟩
end Go.Proofs.Ytnaepipdlcineaa
