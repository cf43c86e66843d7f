/- Fold and Unfold of nums, walked (over Base). -/
import Derived.Test.YtdfefhoihpbldaaDoorBase
import Derived.Laws.BitsAllLaws
namespace Go.Proofs.YtdfefhoihpbldaaDoor
open Go.RowKit

theorem i64_com {a : Int} (ha : -9223372036854775808 ≤ a) (ha' : a ≤ 9223372036854775807) : bits .xor .i64 (-1) a = -1 - a := by
  show IntKind.i64.wrap ((BitVec.ofInt 64 (-1) ^^^ BitVec.ofInt 64 a).toNat : Int) = _
  have h1 : BitVec.ofInt 64 (-1) = BitVec.allOnes 64 := by decide
  rw [h1, BitVec.allOnes_xor, BitVec.toNat_not, BitVec.toNat_ofInt]
  simp [IntKind.wrap, IntKind.bits, IntKind.signed]
  omega
/-- a number folded: small ones of both signs are small -/
def foldZ (a : Int) : Nat := if a < 0 then (-2 * a - 1).toNat else (2 * a).toNat
/-- what folds to it -/
def unfoldZ (x : Nat) : Int := if x % 2 = 1 then -((x / 2 : Nat) : Int) - 1 else ((x / 2 : Nat) : Int)
theorem foldZ_lt {a : Int} (h0 : -9223372036854775808 ≤ a) (h1 : a ≤ 9223372036854775807) : foldZ a < 18446744073709551616 := by unfold foldZ; split <;> omega
theorem unfoldZ_in {x : Nat} (h : x < 18446744073709551616) : -9223372036854775808 ≤ unfoldZ x ∧ unfoldZ x ≤ 9223372036854775807 := by unfold unfoldZ; split <;> omega
theorem unfold_fold (a : Int) : unfoldZ (foldZ a) = a := by
  unfold unfoldZ foldZ
  by_cases h : a < 0
  · rw [if_pos h, if_pos (by omega)]; omega
  · rw [if_neg h, if_neg (by omega)]; omega
theorem fold_unfold (x : Nat) : foldZ (unfoldZ x) = x := by
  unfold unfoldZ
  by_cases h : x % 2 = 1
  · rw [if_pos h, foldZ, if_pos (by omega)]; omega
  · rw [if_neg h, foldZ, if_neg (by omega)]; omega

theorem zig_neg {a : Int} (ha : -9223372036854775808 ≤ a) (h : a < 0) :
    bits .or .u64 (IntKind.u64.wrap (IntKind.u64.wrap (bits .xor .i64 (-1) a) * 2)) 1 = (foldZ a : Nat) := by
  rw [i64_com ha (by omega)]
  simp only [IntKind.wrap_u64]
  rw [u64_or _ _ (by omega) (by omega) (by omega) (by omega)]
  have e : ((-1 - a) % 18446744073709551616 * 2 % 18446744073709551616).toNat = 2 * (-1 - a).toNat := by omega
  rw [e, show (1 : Int).toNat = 1 from rfl, nat_join 1 _ 1 (by omega) (by omega)]
  unfold foldZ; rw [if_pos h]; omega
set_option maxHeartbeats 400000 in
theorem foldN_any {a : Int} (ha : -9223372036854775808 ≤ a) (ha' : a ≤ 9223372036854775807) (w : World) :
    Calls Tryd.prog 33 #[.int .i64 a] w fun e w' => e = .returned (.int .u64 ((foldZ a : Nat) : Int)) ∧ w = w' := by
  by_cases hneg : a < 0
  · go_enter Tryd.func33, Tryd.ntmps33
    go_wp2
    go_ret
    exact ⟨ret_u64 (zig_neg ha hneg), rfl⟩
  · go_enter Tryd.func33, Tryd.ntmps33
    go_wp2
    go_ret
    exact ⟨ret_u64 (by unfold foldZ; rw [if_neg (by omega)]; omega), rfl⟩
set_option maxHeartbeats 400000 in
theorem unfoldN_any {x : Nat} (hx : x < 18446744073709551616) (w : World) :
    Calls Tryd.prog 38 #[.int .u64 (x : Int)] w fun e w' => e = .returned (.int .i64 (unfoldZ x)) ∧ w = w' := by
  have hx0 : (0 : Int) ≤ x := by omega
  have hx1 : (x : Int) ≤ 18446744073709551615 := by omega
  by_cases hodd : x % 2 = 1
  · have HO := Lib.hid hodd
    have hb : (bits .and .u64 (x : Int) 1 == 1) = true := by rw [low_bit hx0 hx1]; simp; omega
    go_enter Tryd.func38, Tryd.ntmps38
    go_wp2
    go_ret
    refine ⟨ret_i64 ?_, rfl⟩
    rw [i64_com (by omega) (by omega)]
    unfold unfoldZ; rw [if_pos HO.out]; omega
  · have HO := Lib.hid hodd
    have hb : (bits .and .u64 (x : Int) 1 == 1) = false := by rw [low_bit hx0 hx1]; simp; omega
    go_enter Tryd.func38, Tryd.ntmps38
    go_wp2
    go_ret
    refine ⟨ret_i64 ?_, rfl⟩
    unfold unfoldZ; rw [if_neg HO.out]; omega
end Go.Proofs.YtdfefhoihpbldaaDoor
