/- The narrowings of nums, walked: a number as one of fewer bits, just if that type has it. -/
import Derived.Test.YtfblnijoojhkeaaDoorNumAdd
namespace Go.Proofs.YtfblnijoojhkeaaDoor
open Go.RowKit

theorem ret_pair {k : IntKind} {a b : Int} {p q : Bool} (h : a = b) (h' : p = q) : Ending.returned (.tuple #[.int k a, .bool p]) = .returned (.tuple #[.int k b, .bool q]) := by rw [h, h']

/-- what a narrowing tells of a number: itself, and true, or 0, and false -/
def Nar (k : IntKind) (lo hi : Int) (a : Int) (w : World) (e : Ending) (w' : World) : Prop :=
  e = .returned (.tuple #[.int k (if lo ≤ a ∧ a ≤ hi then a else 0), .bool (decide (lo ≤ a ∧ a ≤ hi))]) ∧ w = w'

theorem i8_yes {a : Int} (h : (-128) ≤ a) (h' : a ≤ 127) : IntKind.i8.wrap a = a := by simp [IntKind.wrap, IntKind.bits, IntKind.signed]; omega
theorem i8_no {a : Int} (h : ¬((-128) ≤ a ∧ a ≤ 127)) : (wrap64 (IntKind.i8.wrap a) != a) = true := by
  rw [bne_iff_ne]; unfold wrap64; simp [IntKind.wrap, IntKind.bits, IntKind.signed]; omega
set_option maxHeartbeats 400000 in
theorem nar_i8 {a : Int} (ha : -9223372036854775808 ≤ a) (ha' : a ≤ 9223372036854775807) (w : World) :
    Calls Tryd.prog 27 #[.int .i64 a] w (Nar .i8 (-128) 127 a w) := by
  by_cases hin : (-128) ≤ a ∧ a ≤ 127
  · have ht : (wrap64 (IntKind.i8.wrap a) != a) = false := by rw [i8_yes hin.1 hin.2, bne_eq_false_iff_eq]; unfold wrap64; omega
    go_enter Tryd.func27, Tryd.ntmps27
    go_wp2
    all_goals
      go_ret2
      exact ⟨ret_pair (by first | rfl | exact i8_yes hin.1 hin.2 | (rw [if_pos hin] <;> exact i8_yes hin.1 hin.2)) (by first | rfl | (simp; done) | (simp; omega)), rfl⟩
  · have ht := i8_no hin
    go_enter Tryd.func27, Tryd.ntmps27
    go_wp2
    all_goals
      go_ret2
      exact ⟨ret_pair (by first | rfl | rw [if_neg hin]) (by first | rfl | (simp; done) | (simp; omega)), rfl⟩
set_option maxHeartbeats 400000 in
theorem to_i8 {a : Int} (ha : -9223372036854775808 ≤ a) (ha' : a ≤ 9223372036854775807) (w : World) :
    Calls Tryd.prog 16 #[.int .i64 a] w (Nar .i8 (-128) 127 a w) := by
  go_enter Tryd.func16, Tryd.ntmps16
  go_wp2_with (go_at_call 27; refine (nar_i8 ha ha' _).mono ?_; rintro e w' ⟨rfl, rfl⟩)
  all_goals
    go_ret2
    exact ⟨ret_pair (by first | rfl | (split <;> omega) | omega) (by first | rfl | (simp; done) | (simp; omega)), rfl⟩

theorem i16_yes {a : Int} (h : (-32768) ≤ a) (h' : a ≤ 32767) : IntKind.i16.wrap a = a := by simp [IntKind.wrap, IntKind.bits, IntKind.signed]; omega
theorem i16_no {a : Int} (h : ¬((-32768) ≤ a ∧ a ≤ 32767)) : (wrap64 (IntKind.i16.wrap a) != a) = true := by
  rw [bne_iff_ne]; unfold wrap64; simp [IntKind.wrap, IntKind.bits, IntKind.signed]; omega
set_option maxHeartbeats 400000 in
theorem nar_i16 {a : Int} (ha : -9223372036854775808 ≤ a) (ha' : a ≤ 9223372036854775807) (w : World) :
    Calls Tryd.prog 28 #[.int .i64 a] w (Nar .i16 (-32768) 32767 a w) := by
  by_cases hin : (-32768) ≤ a ∧ a ≤ 32767
  · have ht : (wrap64 (IntKind.i16.wrap a) != a) = false := by rw [i16_yes hin.1 hin.2, bne_eq_false_iff_eq]; unfold wrap64; omega
    go_enter Tryd.func28, Tryd.ntmps28
    go_wp2
    all_goals
      go_ret2
      exact ⟨ret_pair (by first | rfl | exact i16_yes hin.1 hin.2 | (rw [if_pos hin] <;> exact i16_yes hin.1 hin.2)) (by first | rfl | (simp; done) | (simp; omega)), rfl⟩
  · have ht := i16_no hin
    go_enter Tryd.func28, Tryd.ntmps28
    go_wp2
    all_goals
      go_ret2
      exact ⟨ret_pair (by first | rfl | rw [if_neg hin]) (by first | rfl | (simp; done) | (simp; omega)), rfl⟩
set_option maxHeartbeats 400000 in
theorem to_i16 {a : Int} (ha : -9223372036854775808 ≤ a) (ha' : a ≤ 9223372036854775807) (w : World) :
    Calls Tryd.prog 17 #[.int .i64 a] w (Nar .i16 (-32768) 32767 a w) := by
  go_enter Tryd.func17, Tryd.ntmps17
  go_wp2_with (go_at_call 28; refine (nar_i16 ha ha' _).mono ?_; rintro e w' ⟨rfl, rfl⟩)
  all_goals
    go_ret2
    exact ⟨ret_pair (by first | rfl | (split <;> omega) | omega) (by first | rfl | (simp; done) | (simp; omega)), rfl⟩

theorem i32_yes {a : Int} (h : (-2147483648) ≤ a) (h' : a ≤ 2147483647) : wrap32 a = a := by unfold wrap32; omega
theorem i32_no {a : Int} (h : ¬((-2147483648) ≤ a ∧ a ≤ 2147483647)) : (wrap64 (wrap32 a) != a) = true := by
  rw [bne_iff_ne]; unfold wrap64 wrap32; omega
set_option maxHeartbeats 400000 in
theorem nar_i32 {a : Int} (ha : -9223372036854775808 ≤ a) (ha' : a ≤ 9223372036854775807) (w : World) :
    Calls Tryd.prog 29 #[.int .i64 a] w (Nar .i32 (-2147483648) 2147483647 a w) := by
  by_cases hin : (-2147483648) ≤ a ∧ a ≤ 2147483647
  · have ht : (wrap64 (wrap32 a) != a) = false := by rw [i32_yes hin.1 hin.2, bne_eq_false_iff_eq]; unfold wrap64; omega
    go_enter Tryd.func29, Tryd.ntmps29
    go_wp2
    all_goals
      go_ret2
      exact ⟨ret_pair (by first | rfl | exact i32_yes hin.1 hin.2 | (rw [if_pos hin] <;> exact i32_yes hin.1 hin.2)) (by first | rfl | (simp; done) | (simp; omega)), rfl⟩
  · have ht := i32_no hin
    go_enter Tryd.func29, Tryd.ntmps29
    go_wp2
    all_goals
      go_ret2
      exact ⟨ret_pair (by first | rfl | rw [if_neg hin]) (by first | rfl | (simp; done) | (simp; omega)), rfl⟩
set_option maxHeartbeats 400000 in
theorem to_i32 {a : Int} (ha : -9223372036854775808 ≤ a) (ha' : a ≤ 9223372036854775807) (w : World) :
    Calls Tryd.prog 18 #[.int .i64 a] w (Nar .i32 (-2147483648) 2147483647 a w) := by
  go_enter Tryd.func18, Tryd.ntmps18
  go_wp2_with (go_at_call 29; refine (nar_i32 ha ha' _).mono ?_; rintro e w' ⟨rfl, rfl⟩)
  all_goals
    go_ret2
    exact ⟨ret_pair (by first | rfl | (split <;> omega) | omega) (by first | rfl | (simp; done) | (simp; omega)), rfl⟩

theorem u8_yes {a : Int} (h : 0 ≤ a) (h' : a ≤ 255) : IntKind.u8.wrap a = a := by simp [IntKind.wrap, IntKind.bits, IntKind.signed]; omega
theorem u8_no {a : Int} (h : ¬(0 ≤ a ∧ a ≤ 255)) : (wrap64 (IntKind.u8.wrap a) != a) = true := by
  rw [bne_iff_ne]; unfold wrap64; simp [IntKind.wrap, IntKind.bits, IntKind.signed]; omega
set_option maxHeartbeats 400000 in
theorem nar_u8 {a : Int} (ha : -9223372036854775808 ≤ a) (ha' : a ≤ 9223372036854775807) (w : World) :
    Calls Tryd.prog 30 #[.int .i64 a] w (Nar .u8 0 255 a w) := by
  by_cases hin : 0 ≤ a ∧ a ≤ 255
  · have ht : (wrap64 (IntKind.u8.wrap a) != a) = false := by rw [u8_yes hin.1 hin.2, bne_eq_false_iff_eq]; unfold wrap64; omega
    go_enter Tryd.func30, Tryd.ntmps30
    go_wp2
    all_goals
      go_ret2
      exact ⟨ret_pair (by first | rfl | exact u8_yes hin.1 hin.2 | (rw [if_pos hin] <;> exact u8_yes hin.1 hin.2)) (by first | rfl | (simp; done) | (simp; omega)), rfl⟩
  · have ht := u8_no hin
    go_enter Tryd.func30, Tryd.ntmps30
    go_wp2
    all_goals
      go_ret2
      exact ⟨ret_pair (by first | rfl | rw [if_neg hin]) (by first | rfl | (simp; done) | (simp; omega)), rfl⟩
set_option maxHeartbeats 400000 in
theorem to_u8 {a : Int} (ha : -9223372036854775808 ≤ a) (ha' : a ≤ 9223372036854775807) (w : World) :
    Calls Tryd.prog 19 #[.int .i64 a] w (Nar .u8 0 255 a w) := by
  go_enter Tryd.func19, Tryd.ntmps19
  go_wp2_with (go_at_call 30; refine (nar_u8 ha ha' _).mono ?_; rintro e w' ⟨rfl, rfl⟩)
  all_goals
    go_ret2
    exact ⟨ret_pair (by first | rfl | (split <;> omega) | omega) (by first | rfl | (simp; done) | (simp; omega)), rfl⟩

theorem u16_yes {a : Int} (h : 0 ≤ a) (h' : a ≤ 65535) : IntKind.u16.wrap a = a := by simp [IntKind.wrap, IntKind.bits, IntKind.signed]; omega
theorem u16_no {a : Int} (h : ¬(0 ≤ a ∧ a ≤ 65535)) : (wrap64 (IntKind.u16.wrap a) != a) = true := by
  rw [bne_iff_ne]; unfold wrap64; simp [IntKind.wrap, IntKind.bits, IntKind.signed]; omega
set_option maxHeartbeats 400000 in
theorem nar_u16 {a : Int} (ha : -9223372036854775808 ≤ a) (ha' : a ≤ 9223372036854775807) (w : World) :
    Calls Tryd.prog 31 #[.int .i64 a] w (Nar .u16 0 65535 a w) := by
  by_cases hin : 0 ≤ a ∧ a ≤ 65535
  · have ht : (wrap64 (IntKind.u16.wrap a) != a) = false := by rw [u16_yes hin.1 hin.2, bne_eq_false_iff_eq]; unfold wrap64; omega
    go_enter Tryd.func31, Tryd.ntmps31
    go_wp2
    all_goals
      go_ret2
      exact ⟨ret_pair (by first | rfl | exact u16_yes hin.1 hin.2 | (rw [if_pos hin] <;> exact u16_yes hin.1 hin.2)) (by first | rfl | (simp; done) | (simp; omega)), rfl⟩
  · have ht := u16_no hin
    go_enter Tryd.func31, Tryd.ntmps31
    go_wp2
    all_goals
      go_ret2
      exact ⟨ret_pair (by first | rfl | rw [if_neg hin]) (by first | rfl | (simp; done) | (simp; omega)), rfl⟩
set_option maxHeartbeats 400000 in
theorem to_u16 {a : Int} (ha : -9223372036854775808 ≤ a) (ha' : a ≤ 9223372036854775807) (w : World) :
    Calls Tryd.prog 20 #[.int .i64 a] w (Nar .u16 0 65535 a w) := by
  go_enter Tryd.func20, Tryd.ntmps20
  go_wp2_with (go_at_call 31; refine (nar_u16 ha ha' _).mono ?_; rintro e w' ⟨rfl, rfl⟩)
  all_goals
    go_ret2
    exact ⟨ret_pair (by first | rfl | (split <;> omega) | omega) (by first | rfl | (simp; done) | (simp; omega)), rfl⟩

theorem u32_yes {a : Int} (h : 0 ≤ a) (h' : a ≤ 4294967295) : IntKind.u32.wrap a = a := by simp [IntKind.wrap, IntKind.bits, IntKind.signed]; omega
theorem u32_no {a : Int} (h : ¬(0 ≤ a ∧ a ≤ 4294967295)) : (wrap64 (IntKind.u32.wrap a) != a) = true := by
  rw [bne_iff_ne]; unfold wrap64; simp [IntKind.wrap, IntKind.bits, IntKind.signed]; omega
set_option maxHeartbeats 400000 in
theorem nar_u32 {a : Int} (ha : -9223372036854775808 ≤ a) (ha' : a ≤ 9223372036854775807) (w : World) :
    Calls Tryd.prog 32 #[.int .i64 a] w (Nar .u32 0 4294967295 a w) := by
  by_cases hin : 0 ≤ a ∧ a ≤ 4294967295
  · have ht : (wrap64 (IntKind.u32.wrap a) != a) = false := by rw [u32_yes hin.1 hin.2, bne_eq_false_iff_eq]; unfold wrap64; omega
    go_enter Tryd.func32, Tryd.ntmps32
    go_wp2
    all_goals
      go_ret2
      exact ⟨ret_pair (by first | rfl | exact u32_yes hin.1 hin.2 | (rw [if_pos hin] <;> exact u32_yes hin.1 hin.2)) (by first | rfl | (simp; done) | (simp; omega)), rfl⟩
  · have ht := u32_no hin
    go_enter Tryd.func32, Tryd.ntmps32
    go_wp2
    all_goals
      go_ret2
      exact ⟨ret_pair (by first | rfl | rw [if_neg hin]) (by first | rfl | (simp; done) | (simp; omega)), rfl⟩
set_option maxHeartbeats 400000 in
theorem to_u32 {a : Int} (ha : -9223372036854775808 ≤ a) (ha' : a ≤ 9223372036854775807) (w : World) :
    Calls Tryd.prog 21 #[.int .i64 a] w (Nar .u32 0 4294967295 a w) := by
  go_enter Tryd.func21, Tryd.ntmps21
  go_wp2_with (go_at_call 32; refine (nar_u32 ha ha' _).mono ?_; rintro e w' ⟨rfl, rfl⟩)
  all_goals
    go_ret2
    exact ⟨ret_pair (by first | rfl | (split <;> omega) | omega) (by first | rfl | (simp; done) | (simp; omega)), rfl⟩

end Go.Proofs.YtfblnijoojhkeaaDoor
