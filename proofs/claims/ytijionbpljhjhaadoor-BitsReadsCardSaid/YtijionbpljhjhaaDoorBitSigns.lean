/- The law's own signs and pack, walked. -/
import Derived.Test.YtijionbpljhjhaaDoorBitLives
import Derived.Test.YtijionbpljhjhaaDoorRegMono
import Derived.Laws.Concat
namespace Go.Proofs.YtijionbpljhjhaaDoor
open Go.RowKit

/-- bits as the signs 0 and 1 -/
def sgn (l : List Bool) : List Nat := l.map fun b => 48 + b.toNat
def signsOf (l : List Bool) : ByteArray := strOf (sgn l)
theorem sgn_length (l : List Bool) : (sgn l).length = l.length := by simp [sgn]
theorem strOf_size (l : List Nat) : (strOf l).size = l.length := by simp [strOf, ByteArray.size]
theorem signsOf_size (l : List Bool) : (signsOf l).size = l.length := by rw [signsOf, strOf_size, sgn_length]
theorem strOf_append (a b : List Nat) : strOf (a ++ b) = strOf a ++ strOf b := by
  apply ByteArray.ext; simp [strOf]
theorem signsOf_append (a b : List Bool) : signsOf (a ++ b) = signsOf a ++ signsOf b := by
  unfold signsOf sgn; rw [List.map_append, strOf_append]

theorem numBits_cons (x k : Nat) : numBits x (k + 1) = [decide (x / 2 ^ k % 2 = 1)] ++ numBits x k := by
  unfold numBits
  rw [List.range_succ_eq_map, List.map_cons, List.map_map]
  simp only [List.singleton_append, Nat.add_sub_cancel, Nat.sub_zero]
  congr 1
  apply List.map_congr_left
  intro i _
  simp only [Function.comp]
  rw [show k - (i + 1) = k - 1 - i by omega]

theorem one_text (w : World) (x : Nat) {u : Int} (hu : u = x) : ∀ dst, Tryd.prog.underlying dst = some .string → (convert 25 dst (.slice (some ⟨w.heap.size, 0, none⟩) 1 1)).run Tryd.prog (w.alloc (.cells #[.int .u8 u] 5)) = .ok (.string (strOf [x])) (w.alloc (.cells #[.int .u8 u] 5)) := by
  subst hu
  refine text_of (.inr ⟨w.heap.size, 0, 1, rfl, fun j hj => ?_⟩)
  obtain rfl : j = 0 := by simpa using hj
  rw [cell_of_row _ w.heap.size (0 + 0) _ _ _ (heap_alloc_new w _)]
  rfl

set_option maxHeartbeats 1000000 in
theorem signs_any {x k : Nat} (hx : x < 18446744073709551616) (hk : k ≤ 1000) (w : World) :
    Calls Tryd.prog 10 #[.int .u64 (x : Int), .int .i64 (k : Int)] w fun e w' => e = .returned (.string (signsOf (numBits x k))) ∧ Below w.heap.size w w' := by
  go_enter Tryd.func10, Tryd.ntmps10
  go_wp2
  go_loopw [0, 5, 7] (fun a b c wr => ∃ q : Nat, q ≤ k ∧ c = .int .i64 q ∧ a = .int .u64 ((x / 2 ^ q : Nat) : Int) ∧ b = .string (signsOf (numBits x q)) ∧ Below w.heap.size w wr) (fun _ _ c _ => k - (intOf c).toNat)
  case atStart => exact ⟨0, by omega, rfl, by simp, rfl, Below.refl _ _⟩
  case round =>
    obtain ⟨q, hq, rfl, rfl, rfl, hb⟩ := hrel
    have HB := Lib.hid hb
    have hz := hb.size
    have hy : x / 2 ^ q < 18446744073709551616 := Nat.lt_of_le_of_lt (Nat.div_le_self _ _) hx
    clear hb
    by_cases hlt : q < k
    · have hsz : (signsOf (numBits x q)).size ≤ 1000 := by rw [signsOf_size, numBits_length]; omega
      have hn : signsOf (numBits x (q + 1)) = strOf [48 + x / 2 ^ q % 2] ++ signsOf (numBits x q) := by
        rw [numBits_cons, signsOf_append]; congr 1; simp [signsOf, sgn, toNat_bit]
      have hy2 : x / 2 ^ (q + 1) = x / 2 ^ q / 2 := by rw [Nat.pow_succ, Nat.div_div_eq_div_mul]
      have HN := Lib.hid hn
      have HY2 := Lib.hid hy2
      clear hn hy2
      generalize signsOf (numBits x q) = s at *
      generalize x / 2 ^ q = y at *
      have hcv := one_text wr (48 + y % 2) (u := 48 + (y : Int) % 2) (by omega)
      have hz2 : (strOf [48 + y % 2]).size = 1 := strOf_size _
      have HZ2 : (strOf [48 + y % 2]).size ≤ 1000 := by omega
      clear hz2
      go_wp2
      go_roundw
      case rel => exact ⟨q + 1, by omega, by go_num, by rw [HY2.out]; go_num, by rw [HN.out], HB.out.alloc hz _⟩
      case measure => simp [intOf]; omega
    · obtain rfl : q = k := by omega
      go_wp2
      go_ret
      exact ⟨rfl, HB.out⟩
end Go.Proofs.YtijionbpljhjhaaDoor
