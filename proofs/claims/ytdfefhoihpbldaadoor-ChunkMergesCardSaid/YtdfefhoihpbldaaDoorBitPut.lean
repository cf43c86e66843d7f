/- Put, Unary, Len of the writer of bits, walked. -/
import Derived.Test.YtdfefhoihpbldaaDoorBitW
import Derived.Test.YtdfefhoihpbldaaDoorNumWid
import Derived.BigQuiet
import Derived.IntWalk
namespace Go.Proofs.YtdfefhoihpbldaaDoor
open Go.RowKit

theorem Wrote.below {B : Nat} {w0 w : World} {P : Nat} {g : Option Nat} {l : List Bool} (h : Wrote B w0 P g l w) (hB : B ≤ w0.heap.size) : Below B w0 w :=
  h.2.2.1.below hB (fun k hk => by
    rcases hk with rfl | hk
    · exact h.1.1
    · exact (h.2.1 k hk).1)
theorem Wrote.start {B : Nat} {w : World} {P : Nat} {g : Option Nat} {l : List Bool} (h : WriterAt B w P g l) : Wrote B w P g l w := by
  obtain ⟨hBP, v, hv, hP, hown⟩ := h
  exact ⟨⟨hBP, lt_of_block hP⟩, fun k hk => hown.lt k (hv.trans hk), Only.refl _ _, g, ⟨hBP, v, hv, hP, hown⟩, .inl rfl⟩
theorem Wrote.cells {B : Nat} {w0 w : World} {P : Nat} {g : Option Nat} {l : List Bool} (h : Wrote B w0 P g l w) :
    ∃ v, w.cell? ⟨P, 0, none⟩ = some v ∧ w.cell? ⟨P, 1, none⟩ = some (.int .i64 (l.length : Int)) := by
  obtain ⟨_, _, _, g', ⟨_, v, _, hP, _⟩, _⟩ := h
  obtain ⟨c0, c1, _, _⟩ := cells2 hP
  exact ⟨v, c0, c1⟩

theorem isWidth_yes {n : Int} (h0 : 0 ≤ n) (h1 : n ≤ 64) (w : World) : Calls Tryd.prog 30 #[.int .i64 n] w fun e w' => e = .returned (.bool true) ∧ w = w' := by
  go_enter Tryd.func30, Tryd.ntmps30
  go_wp2
  go_ret
  exact ⟨rfl, rfl⟩
theorem isWidth_no {n : Int} (h : n < 0 ∨ 64 < n) (w : World) : Calls Tryd.prog 30 #[.int .i64 n] w fun e w' => e = .returned (.bool false) ∧ w = w' := by
  rcases h with h | h
  · have h1 : decide (0 ≤ n) = false := by simp; omega
    go_enter Tryd.func30, Tryd.ntmps30
    go_wp2
    go_ret
    exact ⟨rfl, rfl⟩
  · have h1 : decide (0 ≤ n) = true := by simp; omega
    have h2 : decide (n ≤ 64) = false := by simp; omega
    go_enter Tryd.func30, Tryd.ntmps30
    go_wp2
    go_ret
    exact ⟨rfl, rfl⟩

/-- a number's bits, the highest first -/
def numBits (x width : Nat) : List Bool := (List.range width).map fun i => decide (x / 2 ^ (width - 1 - i) % 2 = 1)
theorem numBits_length (x width : Nat) : (numBits x width).length = width := by simp [numBits]
theorem numBits_take (x width k : Nat) (h : k < width) : (numBits x width).take (k + 1) = (numBits x width).take k ++ [decide (x / 2 ^ (width - 1 - k) % 2 = 1)] := by
  rw [List.take_succ_eq_append_getElem (by rw [numBits_length]; exact h)]
  simp [numBits]
theorem toNat_bit (n : Nat) : (decide (n % 2 = 1)).toNat = n % 2 := by
  rcases Nat.mod_two_eq_zero_or_one n with h | h <;> simp [h]

theorem bit_arg {x : Nat} (hx : x < 18446744073709551616) (j : Nat) : bits .and .u64 ((x : Int) / 2 ^ j) 1 % 256 = ((decide (x / 2 ^ j % 2 = 1)).toNat : Int) := by
  have h1 : ((x : Int) / 2 ^ j) = ((x / 2 ^ j : Nat) : Int) := by simp
  have h2 : x / 2 ^ j ≤ x := Nat.div_le_self _ _
  rw [h1]
  generalize x / 2 ^ j = y at *
  rw [low_bit (by omega) (by omega), toNat_bit]
  omega

theorem put_arg {w : World} {P : Nat} {x n : Int} (h : n < 0 ∨ 64 < n) :
    Calls Tryd.prog 17 #[.pointer (some ⟨P, 0, none⟩), .int .u64 x, .int .i64 n] w fun e w' => e = .returned (.int .i64 1) ∧ w = w' := by
  go_enter Tryd.func17, Tryd.ntmps17
  go_wp2_with (go_at_call 30; refine (isWidth_no h _).mono ?_; rintro e w' ⟨rfl, rfl⟩)
  go_ret
  exact ⟨rfl, rfl⟩

theorem put_range {w : World} {P x n : Nat} (hx : x < 18446744073709551616) (hn : n ≤ 64) (h : n < wid x) (hl : StepsLaid w) :
    Calls Tryd.prog 17 #[.pointer (some ⟨P, 0, none⟩), .int .u64 (x : Int), .int .i64 (n : Int)] w fun e w' => e = .returned (.int .i64 3) ∧ w = w' := by
  have HL := Lib.hid hl
  clear hl
  go_enter Tryd.func17, Tryd.ntmps17
  go_wp2_with (first | (go_at_call 30; refine (isWidth_yes (by omega) (by omega) _).mono ?_; rintro e w' ⟨rfl, rfl⟩) | (go_at_call 31; refine (width_any hx _ HL.out).mono ?_; rintro e w' ⟨rfl, rfl⟩))
  go_ret
  exact ⟨rfl, rfl⟩

set_option maxHeartbeats 1000000 in
theorem put_ok {B : Nat} {w0 w : World} {P x n : Nat} {g : Option Nat} {l : List Bool} (hx : x < 18446744073709551616) (hn : n ≤ 64) (hxn : wid x ≤ n) (hl : StepsLaid w) (hB : B ≤ w0.heap.size) (hbig : l.length ≤ 100000000) (hw : Wrote B w0 P g l w) :
    Calls Tryd.prog 17 #[.pointer (some ⟨P, 0, none⟩), .int .u64 (x : Int), .int .i64 (n : Int)] w fun e w' => e = .returned (.int .i64 0) ∧ Wrote B w0 P g (l ++ numBits x n) w' := by
  have HL := Lib.hid hl
  have HW := Lib.hid hw
  have hd : decide (n < wid x) = false := by simpa using hxn
  clear hl hw hxn
  go_enter Tryd.func17, Tryd.ntmps17
  go_wp2_with (first | (go_at_call 30; refine (isWidth_yes (by omega) (by omega) _).mono ?_; rintro e w' ⟨rfl, rfl⟩) | (go_at_call 31; refine (width_any hx _ HL.out).mono ?_; rintro e w' ⟨rfl, rfl⟩))
  clear hd
  go_loopw [20] (fun i wr => ∃ k : Nat, k ≤ n ∧ i = .int .i64 k ∧ Wrote B w0 P g (l ++ (numBits x n).take k) wr) (fun i _ => n - (intOf i).toNat)
  case atStart => exact ⟨0, by omega, rfl, by simpa using HW.out⟩
  case round =>
    obtain ⟨k, hk, rfl, hwr⟩ := hrel
    have HR := Lib.hid hwr
    clear hwr HW HL
    by_cases hlt : k < n
    · go_wp2_with fail
      rw [bit_arg hx]
      refine (add_any _ hB (by simp; omega) HR.out).mono ?_
      rintro e w' ⟨rfl, hw'⟩
      have HW' := Lib.hid hw'
      clear hw' HR
      go_wp2
      go_roundw
      case rel => exact ⟨k + 1, by omega, by go_num, by rw [numBits_take _ _ _ hlt, ← List.append_assoc]; exact HW'.out⟩
      case measure => simp [intOf]; omega
    · obtain rfl : k = n := by omega
      go_wp2
      go_ret
      refine ⟨rfl, ?_⟩
      have h := HR.out
      rw [List.take_of_length_le (by rw [numBits_length]; omega)] at h
      exact h

end Go.Proofs.YtdfefhoihpbldaaDoor
