/- The law's own signs, own and fold of points' bits, walked. -/
import Derived.Test.YtdfefhoihpbldaaDoorSgn
import Derived.Test.YtdfefhoihpbldaaDoorNumZig
import Derived.Test.YtdfefhoihpbldaaDoorBitGot
namespace Go.Proofs.YtdfefhoihpbldaaDoor
open Go.RowKit

set_option maxHeartbeats 1000000 in
theorem signs4_any {x k : Nat} (hx : x < 18446744073709551616) (hk : k ≤ 1000) (w : World) :
    Calls Tryd.prog 21 #[.int .u64 (x : Int), .int .i64 (k : Int)] w fun e w' => e = .returned (.string (signsOf (numBits x k))) ∧ Below w.heap.size w w' := by
  go_enter Tryd.func21, Tryd.ntmps21
  go_wp2
  go_loopw [0, 5, 7] (fun a b c wr => ∃ q : Nat, q ≤ k ∧ c = .int .i64 q ∧ a = .int .u64 ((x / 2 ^ q : Nat) : Int) ∧ b = .string (signsOf (numBits x q)) ∧ Below w.heap.size w wr) (fun _ _ c _ => k - (intOf c).toNat)
  case atStart => exact ⟨0, by omega, rfl, by simp, rfl, Below.refl _ _⟩
  case round =>
    obtain ⟨q, hq, rfl, rfl, rfl, hb⟩ := hrel
    have HB := Lib.hid hb
    have hz := hb.size
    have hy : x / 2 ^ q < 18446744073709551616 := Nat.lt_of_le_of_lt (Nat.div_le_self _ _) hx
    clear hb
    by_cases hlt : q < k
    · have hsz : (signsOf (numBits x q)).size ≤ 1000 := by rw [signsOf_size, numBits_length]; omega
      have hn : signsOf (numBits x (q + 1)) = strOf [48 + x / 2 ^ q % 2] ++ signsOf (numBits x q) := by
        rw [numBits_cons, signsOf_append]; congr 1; simp [signsOf, sgn, toNat_bit]
      have hy2 : x / 2 ^ (q + 1) = x / 2 ^ q / 2 := by rw [Nat.pow_succ, Nat.div_div_eq_div_mul]
      have HN := Lib.hid hn
      have HY2 := Lib.hid hy2
      clear hn hy2
      generalize signsOf (numBits x q) = s at *
      generalize x / 2 ^ q = y at *
      have hcv := one_text wr (48 + y % 2) (u := 48 + (y : Int) % 2) (by omega)
      have hz2 : (strOf [48 + y % 2]).size = 1 := strOf_size _
      have HZ2 : (strOf [48 + y % 2]).size ≤ 1000 := by omega
      clear hz2
      go_wp2
      go_roundw
      case rel => exact ⟨q + 1, by omega, by go_num, by rw [HY2.out]; go_num, by rw [HN.out], HB.out.alloc hz _⟩
      case measure => simp [intOf]; omega
    · obtain rfl : q = k := by omega
      go_wp2
      go_ret
      exact ⟨rfl, HB.out⟩

/-- a number, with its width -/
def ownBits (x : Nat) : List Bool := numBits (wid x) 7 ++ numBits x (wid x)
theorem ownBits_length (x : Nat) : (ownBits x).length = 7 + wid x := by simp [ownBits, numBits_length]

theorem wid_div_pos {x q : Nat} (h : 0 < x / 2 ^ q) : wid (x / 2 ^ q) = wid (x / 2 ^ (q + 1)) + 1 := by
  rw [wid_half h, Nat.pow_succ, Nat.div_div_eq_div_mul]

set_option maxHeartbeats 1000000 in
theorem own_any {x : Nat} (hx : x < 18446744073709551616) (w : World) :
    Calls Tryd.prog 23 #[.int .u64 (x : Int)] w fun e w' => e = .returned (.string (signsOf (ownBits x))) ∧ Below w.heap.size w w' := by
  have hw64 := wid_le 64 hx
  go_enter Tryd.func23, Tryd.ntmps23
  go_wp2
  go_loop [3, 4] (fun a b => ∃ q y : Nat, a = .int .i64 q ∧ b = .int .u64 (y : Int) ∧ q + wid y = wid x ∧ y ≤ x) (fun _ b => (intOf b).toNat)
  case atStart => exact ⟨0, x, rfl, rfl, by omega, Nat.le_refl _⟩
  case round =>
    obtain ⟨q, y, rfl, rfl, hqy, hyx⟩ := hrel
    by_cases hy : 0 < y
    · have t1 : decide ((0 : Int) < y) = true := by simp; omega
      have e1 := wid_half hy
      go_wp2
      go_round
      case rel => exact ⟨q + 1, y / 2, by go_num, by go_num, by omega, by omega⟩
      case measure => simp [intOf]; omega
    · obtain rfl : y = 0 := by omega
      rw [wid_zero] at hqy
      obtain rfl : q = wid x := by omega
      have hzu : IntKind.u64.wrap ((wid x : Nat) : Int) = wid x := by rw [IntKind.wrap_u64]; omega
      have hz1 : (signsOf (numBits (wid x) 7)).size ≤ 1000 := by rw [signsOf_size, numBits_length]; omega
      have hz2 : (signsOf (numBits x (wid x))).size ≤ 1000 := by rw [signsOf_size, numBits_length]; omega
      go_wp2_with fail
      refine (signs4_any (x := wid x) (k := 7) (by omega) (by omega) w).mono ?_
      rintro e w1 ⟨rfl, hb1⟩
      have HB1 := Lib.hid hb1
      clear hb1
      go_wp2_with fail
      refine (signs4_any (x := x) (k := wid x) hx (by omega) w1).mono ?_
      rintro e w2 ⟨rfl, hb2⟩
      have HB2 := Lib.hid hb2
      clear hb2
      go_wp2
      go_ret
      exact ⟨by rw [ownBits, signsOf_append]; rfl, HB1.out.trans (HB2.out.mono HB1.out.size)⟩

set_option maxHeartbeats 1000000 in
theorem fold4_any {a : Int} (h0 : -9223372036854775808 ≤ a) (h1 : a ≤ 9223372036854775807) (w : World) :
    Calls Tryd.prog 22 #[.int .i64 a] w fun e w' => e = .returned (.int .u64 ((foldZ a : Nat) : Int)) ∧ w = w' := by
  by_cases ha : a < 0
  · have t1 : decide (a < 0) = true := by simp; omega
    have e : ((foldZ a : Nat) : Int) = -2 * a - 1 := by unfold foldZ; rw [if_pos ha]; omega
    rw [e]
    clear e
    go_enter Tryd.func22, Tryd.ntmps22
    go_wp2
    go_ret
    exact ⟨ret_u64 (by omega), rfl⟩
  · have t1 : decide (a < 0) = false := by simp; omega
    have e : ((foldZ a : Nat) : Int) = 2 * a := by unfold foldZ; rw [if_neg ha]; omega
    rw [e]
    clear e
    go_enter Tryd.func22, Tryd.ntmps22
    go_wp2
    go_ret
    exact ⟨ret_u64 (by omega), rfl⟩
end Go.Proofs.YtdfefhoihpbldaaDoor
