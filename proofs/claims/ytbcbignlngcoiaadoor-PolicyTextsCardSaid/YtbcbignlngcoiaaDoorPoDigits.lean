/- The document's digits, walked. -/
import Derived.Test.YtbcbignlngcoiaaDoorPoText
import Derived.Test.YtbcbignlngcoiaaDoorBase
import Derived.Laws.Concat
namespace Go.Proofs.YtbcbignlngcoiaaDoor
open Go.RowKit

/-- the digits so far in front of those that are left -/
def restP (n : Nat) (s : List Nat) : List Nat := if n = 0 then s else decN n ++ s
theorem rest_next {n : Nat} (hn : n ≠ 0) (s : List Nat) : restP n s = restP (n / 10) ((48 + n % 10) :: s) := by
  unfold restP
  rw [if_neg hn]
  by_cases h : n < 10
  · rw [decN_low h, if_pos (by omega), show n % 10 = n by omega]; rfl
  · rw [decN_high h, if_neg (by omega), List.append_assoc]; rfl
set_option maxHeartbeats 4000000 in
set_option maxRecDepth 100000 in
theorem lpdigits_any (w : World) {n : Int} (h0 : 0 ≤ n) (h1 : n ≤ 9223372036854775807) :
    Calls Tryd.prog 11 #[.int .i64 n] w fun e w' => e = .returned (.string (strOf (numP n))) ∧ Below w.heap.size w w' := by
  have HN0 : Hid (numP 0 = [101, 118, 101, 114]) := Lib.hid rfl
  by_cases hz : n = 0
  · subst hz
    go_enter Tryd.func11, Tryd.ntmps11
    go_wp2
    go_ret
    exact ⟨by rw [HN0.out]; rfl, Below.refl _ _⟩
  · have tz : (n == 0) = false := by simpa using hz
    have HN : Hid (numP n = restP n.toNat []) := Lib.hid (by unfold numP restP; rw [if_neg hz, if_neg (by omega), List.append_nil])
    clear hz
    go_enter Tryd.func11, Tryd.ntmps11
    go_wp2
    go_loopw [0, 3] (fun a b wr => ∃ (m : Nat) (s : List Nat), m ≤ 9223372036854775807 ∧ a = .int .i64 m ∧ b = .string (strOf s) ∧ Hid (numP n = restP m s) ∧ s.length ≤ 20 ∧ Below w.heap.size w wr) (fun a _ _ => (intOf a).toNat)
    case atStart => exact ⟨n.toNat, [], by omega, by congr 1; omega, rfl, HN, by simp, Below.refl _ _⟩
    case round =>
      obtain ⟨m, s, hm, rfl, rfl, HH, hs, hb⟩ := hrel
      have HB := Lib.hid hb
      clear hb
      by_cases hz : m = 0
      · subst hz
        have HE : Hid (numP n = s) := Lib.hid (by rw [HH.out]; rfl)
        go_wp2
        go_ret
        exact ⟨by rw [HE.out]; rfl, HB.out⟩
      · have hcv := one_text wr (48 + m % 10) (u := 48 + (m : Int) % 10) (by omega)
        have hz2 : (strOf [48 + m % 10]).size ≤ 1000 := by rw [strOf_size]; simp
        have hz3 : (strOf s).size ≤ 1000 := by rw [strOf_size]; omega
        have HR : Hid (numP n = restP (m / 10) ((48 + m % 10) :: s)) := Lib.hid (by rw [HH.out, rest_next hz])
        have HS : Hid (((48 + m % 10) :: s).length ≤ 20) := Lib.hid (by
          have h1 := numP_size h1
          rw [HR.out, strOf_size] at h1
          refine Nat.le_trans ?_ h1
          unfold restP; split
          · exact Nat.le_refl _
          · rw [List.length_append]; omega)
        have HA : Hid (strOf ((48 + m % 10) :: s) = strOf [48 + m % 10] ++ strOf s) := Lib.hid (strOf_append [48 + m % 10] s)
        have hsz := HB.out.size
        have HW : Hid (wrap64 ((m : Int) / 10) = ((m / 10 : Nat) : Int)) := Lib.hid (by unfold wrap64; omega)
        have HM := Lib.hid hm
        clear hm
        generalize strOf s = S at *
        generalize strOf [48 + m % 10] = D at *
        go_wp2
        go_roundw
        case rel => exact ⟨m / 10, (48 + m % 10) :: s, by have := HM.out; omega, by rw [HW.out], by rw [HA.out], HR, HS.out, HB.out.alloc hsz _⟩
        case measure => rw [HW.out]; simp only [intOf, Int.toNat_natCast]; exact Nat.div_lt_self (by omega) (by omega)
end Go.Proofs.YtbcbignlngcoiaaDoor
