/- The keys out of primes, as the document's answer makes them. -/
import Derived.Test.YtfbnnhailnbmiaaDoorShaW
namespace Go.Proofs.YtfbnnhailnbmiaaDoor
open Go.RowKit

theorem wrap_nat (a : Nat) : IntKind.u64.wrap (a : Int) = ((a % 18446744073709551616 : Nat) : Int) := by rw [IntKind.wrap_u64]; omega
theorem mulw (x y : Nat) : IntKind.u64.wrap ((x : Int) * y) = ((x * y % 18446744073709551616 : Nat) : Int) := by rw [← Int.natCast_mul, wrap_nat]
theorem addw (x y : Nat) : IntKind.u64.wrap ((x : Int) + y) = (((x + y) % 18446744073709551616 : Nat) : Int) := by rw [← Int.natCast_add, wrap_nat]
theorem divh (x : Nat) : (x : Int) / 4294967296 = ((x / 4294967296 : Nat) : Int) := by omega
theorem modh (x : Nat) : (x : Int) % 4294967296 = ((x % 4294967296 : Nat) : Int) := by omega
theorem tmodh (x : Nat) : (x : Int).tmod 4294967296 = ((x % 4294967296 : Nat) : Int) := by rw [Int.tmod_eq_emod_of_nonneg (by omega)]; omega
def highF (a b : Nat) : Nat :=
  let mid := ((a / 4294967296) * (b % 4294967296) % 18446744073709551616 + (a % 4294967296) * (b % 4294967296) % 18446744073709551616 / 4294967296) % 18446744073709551616
  let low := (mid % 4294967296 + (a % 4294967296) * (b / 4294967296) % 18446744073709551616) % 18446744073709551616
  (((a / 4294967296) * (b / 4294967296) % 18446744073709551616 + mid / 4294967296) % 18446744073709551616 + low / 4294967296) % 18446744073709551616

set_option maxHeartbeats 1000000 in
theorem high_any (a b : Nat) (w : World) :
    Calls Tryd.prog 35 #[.int .u64 (a : Int), .int .u64 (b : Int)] w fun e w' => e = .returned (.int .u64 ((highF a b : Nat) : Int)) ∧ w = w' := by
  go_enter Tryd.func35, Tryd.ntmps35
  go_wp2
  go_ret
  refine ⟨ret_u64 ?_, rfl⟩
  show IntKind.u64.wrap (IntKind.u64.wrap (IntKind.u64.wrap ((a : Int) / 4294967296 * ((b : Int) / 4294967296)) + IntKind.u64.wrap (IntKind.u64.wrap ((a : Int) / 4294967296 * ((b : Int) % 4294967296)) + IntKind.u64.wrap ((a : Int) % 4294967296 * ((b : Int) % 4294967296)) / 4294967296) / 4294967296) +
    IntKind.u64.wrap ((IntKind.u64.wrap (IntKind.u64.wrap ((a : Int) / 4294967296 * ((b : Int) % 4294967296)) + IntKind.u64.wrap ((a : Int) % 4294967296 * ((b : Int) % 4294967296)) / 4294967296)).tmod 4294967296 + IntKind.u64.wrap ((a : Int) % 4294967296 * ((b : Int) / 4294967296))) / 4294967296) = _
  simp only [divh, modh, mulw, addw, tmodh]
  rfl

def isP (n : Nat) : Bool := decide (2 ≤ n) && (List.range 21).all fun d => decide (d < 2) || decide (n < d * d) || n % d != 0
theorem isP_no {n d : Nat} (hd : 2 ≤ d) (h1 : d * d ≤ n) (hn : n ≤ 400) (h : n % d = 0) : isP n = false := by
  have hd2 : d < 21 := by
    rcases Nat.lt_or_ge d 21 with h | h
    · exact h
    · have := Nat.mul_le_mul h h; omega
  rw [← Bool.not_eq_true]
  simp only [isP, Bool.and_eq_true, List.all_eq_true, List.mem_range, not_and]
  intro _ h2
  have := h2 d hd2
  simp only [Bool.or_eq_true, decide_eq_true_eq, bne_iff_ne] at this
  omega
theorem isP_yes {n d : Nat} (hn2 : 2 ≤ n) (h1 : n < d * d) (h : ∀ q, 2 ≤ q → q < d → n % q ≠ 0) : isP n = true := by
  simp only [isP, Bool.and_eq_true, List.all_eq_true, List.mem_range, decide_eq_true_eq, Bool.or_eq_true, bne_iff_ne]
  refine ⟨hn2, fun q _ => ?_⟩
  rcases Nat.lt_or_ge q 2 with h2 | h2
  · exact .inl (.inl h2)
  · rcases Nat.lt_or_ge q d with h3 | h3
    · exact .inr (h q h2 h3)
    · have := Nat.mul_le_mul h3 h3
      exact .inl (.inr (by omega))

set_option maxHeartbeats 1000000 in
theorem prime_any {n : Nat} (hn2 : 2 ≤ n) (hn : n ≤ 400) (w : World) :
    Calls Tryd.prog 34 #[.int .u64 (n : Int)] w fun e w' => e = .returned (.bool (isP n)) ∧ w = w' := by
  go_enter Tryd.func34, Tryd.ntmps34
  go_wp2
  go_loopw [3] (fun c wr => w = wr ∧ ∃ d : Nat, 2 ≤ d ∧ d ≤ 21 ∧ c = .int .u64 d ∧ ∀ q, 2 ≤ q → q < d → n % q ≠ 0) (fun c _ => 21 - (intOf c).toNat)
  case atStart => exact ⟨rfl, 2, by omega, by omega, rfl, fun q h1 h2 => by omega⟩
  case round =>
    obtain ⟨rfl, d, hd2, hd, rfl, hq⟩ := hrel
    have HQ := Lib.hid hq
    clear hq
    have hdd : d * d ≤ 441 := Nat.mul_le_mul hd hd
    have k1 : IntKind.u64.wrap ((d : Int) * d) = ((d * d : Nat) : Int) := by rw [mulw]; congr 1; omega
    by_cases hle : d * d ≤ n
    · have t1 : decide (((d * d : Nat) : Int) ≤ n) = true := by
        simp only [decide_eq_true_eq]; omega
      have hd0 : ¬ ((d : Int) = 0) := by omega
      by_cases hm : n % d = 0
      · clear hd0
        have hd0 : ¬ ((d : Int) = 0) := by omega
        have t3 : ((n : Int).tmod (d : Int)) = 0 := by rw [Int.tmod_eq_emod_of_nonneg (by omega), ← Int.natCast_emod, hm]; rfl
        have E := Lib.hid (isP_no hd2 hle hn hm)
        go_wp2
        go_ret
        exact ⟨by rw [E.out]; rfl, by trivial⟩
      · have t2 : (((n % d : Nat) : Int) == 0) = false := by simp; omega
        have t3 : ((n : Int).tmod (d : Int)) = ((n % d : Nat) : Int) := by rw [Int.tmod_eq_emod_of_nonneg (by omega), ← Int.natCast_emod]
        have hd20 : d < 21 := by
          rcases Nat.lt_or_ge d 21 with h | h
          · exact h
          · have := Nat.mul_le_mul h h; omega
        go_wp2
        go_roundw
        case rel => exact ⟨by trivial, d + 1, by omega, by omega, by go_num, fun q h1 h2 => by
          rcases Nat.lt_or_ge q d with h3 | h3
          · exact HQ.out q h1 h3
          · obtain rfl : q = d := by omega
            exact hm⟩
        case measure => simp [intOf]; omega
    · have t1 : decide (((d * d : Nat) : Int) ≤ n) = false := by
        simp only [decide_eq_false_iff_not]; omega
      have E := Lib.hid (isP_yes hn2 (by omega) HQ.out)
      have t4 : decide ((2 : Int) ≤ n) = true := by simp; omega
      go_wp2
      go_ret
      exact ⟨by rw [E.out]; rfl, by trivial⟩
end Go.Proofs.YtfbnnhailnbmiaaDoor
