/- The words of a digest: their bounds, and how the program's bits tell them. -/
import Derived.Test.YtfbnnhailnbmiaaDoorSha
import Derived.Deep.QuietTactic
import Derived.BigQuiet
namespace Go.Proofs.YtfbnnhailnbmiaaDoor
open Go.RowKit

theorem rotr_lt {x k : Nat} (hx : x < 4294967296) : rotr x k < 4294967296 := by
  unfold rotr
  have h1 : x / 2 ^ k < 2 ^ 32 := Nat.lt_of_le_of_lt (Nat.div_le_self _ _) hx
  have h2 : x * 2 ^ (32 - k) % 4294967296 < 2 ^ 32 := Nat.mod_lt _ (by decide)
  exact Nat.or_lt_two_pow h1 h2
theorem xor_lt {a b : Nat} (ha : a < 4294967296) (hb : b < 4294967296) : a ^^^ b < 4294967296 := Nat.xor_lt_two_pow (n := 32) ha hb
theorem and_lt {a b : Nat} (hb : b < 4294967296) : a &&& b < 4294967296 := Nat.and_lt_two_pow (n := 32) a hb
theorem sig0_lt {x : Nat} (hx : x < 4294967296) : sig0 x < 4294967296 := xor_lt (xor_lt (rotr_lt hx) (rotr_lt hx)) (by omega)
theorem sig1_lt {x : Nat} (hx : x < 4294967296) : sig1 x < 4294967296 := xor_lt (xor_lt (rotr_lt hx) (rotr_lt hx)) (by omega)
theorem big0_lt {x : Nat} (hx : x < 4294967296) : big0 x < 4294967296 := xor_lt (xor_lt (rotr_lt hx) (rotr_lt hx)) (rotr_lt hx)
theorem big1_lt {x : Nat} (hx : x < 4294967296) : big1 x < 4294967296 := xor_lt (xor_lt (rotr_lt hx) (rotr_lt hx)) (rotr_lt hx)
theorem chF_lt {e f g : Nat} (hf : f < 4294967296) (hg : g < 4294967296) : chF e f g < 4294967296 := xor_lt (and_lt hf) (and_lt hg)
theorem majF_lt {a b c : Nat} (hb : b < 4294967296) (hc : c < 4294967296) : majF a b c < 4294967296 := xor_lt (xor_lt (and_lt hb) (and_lt hc)) (and_lt hc)

set_option maxHeartbeats 1000000 in
theorem rturn_any {x k : Nat} (hx : x < 4294967296) (hk1 : 0 < k) (hk : k < 32) (w : World) :
    Calls Tryd.prog 27 #[.int .u32 (x : Int), .int .u64 (k : Int)] w fun e w' => e = .returned (.int .u32 ((rotr x k : Nat) : Int)) ∧ w' = w := by
  have k1 : IntKind.u64.wrap (32 - (k : Int)) = ((32 - k : Nat) : Int) := by rw [IntKind.wrap_u64]; omega
  go_enter Tryd.func27, Tryd.ntmps27
  go_wp2
  go_ret
  have e1 : ((x : Int) / 2 ^ k) = ((x / 2 ^ k : Nat) : Int) := by simp
  have e2 : ((x : Int) * 2 ^ (32 - k) % 4294967296) = ((x * 2 ^ (32 - k) % 4294967296 : Nat) : Int) := by simp
  exact ⟨by rw [e1, e2, u32_or_nat _ _ (Nat.lt_of_le_of_lt (Nat.div_le_self _ _) hx) (Nat.mod_lt _ (by decide))]; rfl, rfl⟩
end Go.Proofs.YtfbnnhailnbmiaaDoor
