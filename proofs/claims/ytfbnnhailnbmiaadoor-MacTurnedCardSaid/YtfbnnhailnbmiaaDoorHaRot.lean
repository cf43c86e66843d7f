/- A word turned to the right, as the program turns it. -/
import Derived.Test.YtfbnnhailnbmiaaDoorShaW
namespace Go.Proofs.YtfbnnhailnbmiaaDoor
open Go.RowKit

theorem nat_or_comm (a b : Nat) : a ||| b = b ||| a := Nat.or_comm a b
set_option maxHeartbeats 2000000 in
theorem rotl_any {x k : Nat} (hx : x < 4294967296) (hk1 : 0 < k) (hk : k < 32) (w : World) :
    Calls Tryd.prog 39 #[.int .u32 (x : Int), .int .i64 (-(k : Int))] w fun e w' => e = .returned (.int .u32 ((rotr x k : Nat) : Int)) ∧ w' = w := by
  have k0 : IntKind.u64.wrap (-(k : Int)) = ((18446744073709551616 - k : Nat) : Int) := by rw [IntKind.wrap_u64]; omega
  have k1 : bits .and .u64 ((18446744073709551616 - k : Nat) : Int) 31 = ((32 - k : Nat) : Int) := by
    rw [u64_and _ _ (by omega) (by omega) (by omega), show (31 : Int).toNat = 31 from rfl, show (((18446744073709551616 - k : Nat) : Int)).toNat = 18446744073709551616 - k from rfl, show (31 : Nat) = 2 ^ 5 - 1 from rfl, Nat.and_two_pow_sub_one_eq_mod]
    · omega
    · decide
  have k2 : IntKind.u64.wrap (32 - ((32 - k : Nat) : Int)) = ((k : Nat) : Int) := by rw [IntKind.wrap_u64]; omega
  obtain ⟨d, hd⟩ : ∃ d, d = 32 - k := ⟨_, rfl⟩
  rw [← hd] at k1 k2
  have hd2 : d < 32 := by omega
  have HD := Lib.hid hd
  clear hd
  go_enter Tryd.func39, Tryd.ntmps39
  go_wp2
  go_ret
  have e1 : ((x : Int) / 2 ^ k) = ((x / 2 ^ k : Nat) : Int) := by simp
  have e2 : ((x : Int) * 2 ^ d % 4294967296) = ((x * 2 ^ d % 4294967296 : Nat) : Int) := by simp
  exact ⟨by rw [e1, e2, u32_or_nat _ _ (Nat.mod_lt _ (by decide)) (Nat.lt_of_le_of_lt (Nat.div_le_self _ _) hx), nat_or_comm, HD.out]; rfl, rfl⟩

set_option maxHeartbeats 2000000 in
theorem right_any {x k : Nat} (hx : x < 4294967296) (hk1 : 0 < k) (hk : k < 32) (w : World) :
    Calls Tryd.prog 38 #[.int .u32 (x : Int), .int .i64 (k : Int)] w fun e w' => e = .returned (.int .u32 ((rotr x k : Nat) : Int)) ∧ w' = w := by
  have k0 : IntKind.i64.wrap (-(k : Int)) = (-(k : Int)) := by rw [IntKind.wrap_i64]; omega
  go_enter Tryd.func38, Tryd.ntmps38
  go_wp2_with (go_at_call 39; refine (rotl_any hx hk1 hk _).mono ?_; rintro e w' ⟨rfl, rfl⟩)
  go_ret
  exact ⟨rfl, rfl⟩
end Go.Proofs.YtfbnnhailnbmiaaDoor
