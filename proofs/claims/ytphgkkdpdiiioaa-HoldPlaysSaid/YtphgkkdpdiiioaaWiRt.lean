/- Package window: which ranges are right, what is in them. -/
import Derived.Test.YtphgkkdpdiiioaaWiL
import Derived.Test.YtphgkkdpdiiioaaRgAt
import Derived.Test.YtphgkkdpdiiioaaGenOpC
namespace Go.Proofs.Ytphgkkdpdiiioaa
open Go.RowKit

set_option maxHeartbeats 4000000 in
theorem wifilled_any (w : World) (a b : Int) :
    Calls Try.prog 37 #[.agg #[.int .i64 a, .int .i64 b]] w fun e w' => e = .returned (.bool (decide (a < b))) ∧ Below w.heap.size w w' := by
  go_enter Try.func37, Try.ntmps37
  go_wp2
  go_ret
  exact ⟨rfl, (Below.refl _ _).alloc (Nat.le_refl _) _⟩
set_option maxHeartbeats 4000000 in
theorem wiright_any (w : World) (a b : Int) :
    Calls Try.prog 20 #[.agg #[.int .i64 a, .int .i64 b]] w fun e w' => e = .returned (.bool (rightR a b)) ∧ Below w.heap.size w w' := by
  have HF : Hid (∀ W, Calls Try.prog 37 #[.agg #[.int .i64 a, .int .i64 b]] W fun e w' => e = .returned (.bool (decide (a < b))) ∧ Below W.heap.size W w') := Lib.hid fun W => wifilled_any W a b
  have HR : Hid (rightR a b = (decide (0 ≤ a) && decide (a < b) && decide (b ≤ 1099511627777))) := Lib.hid rfl
  by_cases h0 : 0 ≤ a
  · have t0 : decide (0 ≤ a) = true := decide_eq_true h0
    clear h0
    by_cases h1 : a < b
    · have t1 : decide (a < b) = true := decide_eq_true h1
      clear h1
      rw [t1] at HF
      go_enter Try.func20, Try.ntmps20
      repeat (first | go_values | go_skip | go_guarded | go_step)
      refine calls_name ?_
      intro W1 hW1
      obtain ⟨P, hP⟩ : ∃ P, P = w.heap.size := ⟨_, rfl⟩
      have HP : Hid (RgAt W1 P a b) := Lib.hid (by rw [hW1.out, hP]; exact RgAt.new w a b)
      have HB : Hid (Below w.heap.size w W1) := Lib.hid (by rw [hW1.out]; exact (Below.refl _ _).alloc (Nat.le_refl _) _)
      rw [← hP]
      clear hW1 hP
      refine (HF.out W1).mono ?_
      rintro e W2 ⟨rfl, hb⟩
      have HP2 := Lib.hid (HP.out.keep hb)
      have HB2 := Lib.hid (HB.out.trans (hb.mono HB.out.size))
      clear hb HP HB
      dsimp only
      obtain ⟨c0, c1, -, -⟩ := HP2.out.cells
      repeat (first | go_values | go_skip | go_guarded | go_step | go_upon)
      go_ret
      exact ⟨by rw [HR.out, t0, t1]; rfl, HB2.out⟩
    · have t1 : decide (a < b) = false := decide_eq_false h1
      clear h1
      rw [t1] at HF
      go_enter Try.func20, Try.ntmps20
      repeat (first | go_values | go_skip | go_guarded | go_step)
      refine calls_name ?_
      intro W1 hW1
      obtain ⟨P, hP⟩ : ∃ P, P = w.heap.size := ⟨_, rfl⟩
      have HP : Hid (RgAt W1 P a b) := Lib.hid (by rw [hW1.out, hP]; exact RgAt.new w a b)
      have HB : Hid (Below w.heap.size w W1) := Lib.hid (by rw [hW1.out]; exact (Below.refl _ _).alloc (Nat.le_refl _) _)
      rw [← hP]
      clear hW1 hP
      refine (HF.out W1).mono ?_
      rintro e W2 ⟨rfl, hb⟩
      have HP2 := Lib.hid (HP.out.keep hb)
      have HB2 := Lib.hid (HB.out.trans (hb.mono HB.out.size))
      clear hb HP HB
      dsimp only
      obtain ⟨c0, c1, -, -⟩ := HP2.out.cells
      repeat (first | go_values | go_skip | go_guarded | go_step | go_upon)
      go_ret
      exact ⟨by rw [HR.out, t0, t1]; rfl, HB2.out⟩
  · have t0 : decide (0 ≤ a) = false := decide_eq_false h0
    clear h0
    go_enter Try.func20, Try.ntmps20
    repeat (first | go_values | go_skip | go_guarded | go_step | go_upon)
    go_ret
    exact ⟨by rw [HR.out, t0]; rfl, (Below.refl _ _).alloc (Nat.le_refl _) _⟩
set_option maxHeartbeats 4000000 in
theorem wiin_any (w : World) (a b x : Int) :
    Calls Try.prog 27 #[.agg #[.int .i64 a, .int .i64 b], .int .i64 x] w fun e w' => e = .returned (.bool (inR a b x)) ∧ Below w.heap.size w w' := by
  have HR : Hid (inR a b x = (decide (a ≤ x) && decide (x < b))) := Lib.hid rfl
  by_cases h0 : a ≤ x
  · have t0 : decide (a ≤ x) = true := decide_eq_true h0
    clear h0
    go_enter Try.func27, Try.ntmps27
    repeat (first | go_values | go_skip | go_guarded | go_step | go_upon)
    go_ret
    exact ⟨by rw [HR.out, t0]; rfl, (Below.refl _ _).alloc (Nat.le_refl _) _⟩
  · have t0 : decide (a ≤ x) = false := decide_eq_false h0
    clear h0
    go_enter Try.func27, Try.ntmps27
    repeat (first | go_values | go_skip | go_guarded | go_step | go_upon)
    go_ret
    exact ⟨by rw [HR.out, t0]; rfl, (Below.refl _ _).alloc (Nat.le_refl _) _⟩
end Go.Proofs.Ytphgkkdpdiiioaa
