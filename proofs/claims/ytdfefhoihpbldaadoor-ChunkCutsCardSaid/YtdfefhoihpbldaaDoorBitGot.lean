/- A row of bits as bytes, and read again: plain facts. -/
import Derived.Test.YtdfefhoihpbldaaDoorBitMore
namespace Go.Proofs.YtdfefhoihpbldaaDoor
open Go.RowKit

theorem bytesN_getD (l : List Bool) (n j : Nat) (h : j < n) : (bytesN l n).getD j 0 = byteAt l j := by
  simp [List.getD, bytesN_get l n j h]
theorem byte_bit (l : List Bool) (j m : Nat) (hm : m < 8) : byteAt l j / 2 ^ (7 - m) % 2 = bitN l (8 * j + m) := by
  unfold byteAt
  have h0 := bitN_le l (8 * j); have h1 := bitN_le l (8 * j + 1); have h2 := bitN_le l (8 * j + 2); have h3 := bitN_le l (8 * j + 3)
  have h4 := bitN_le l (8 * j + 4); have h5 := bitN_le l (8 * j + 5); have h6 := bitN_le l (8 * j + 6); have h7 := bitN_le l (8 * j + 7)
  have h : m = 0 ∨ m = 1 ∨ m = 2 ∨ m = 3 ∨ m = 4 ∨ m = 5 ∨ m = 6 ∨ m = 7 := by omega
  rcases h with h | h | h | h | h | h | h | h <;> subst h <;> simp only [Nat.reduceSub, Nat.reducePow, Nat.add_zero] <;> omega
theorem bitIn_pack (l : List Bool) (i : Nat) (h : i < 8 * (packB l).length) : bitIn (packB l) i = bitN l i := by
  rw [packB_length] at h
  unfold bitIn packB
  rw [bytesN_getD _ _ _ (by omega), byte_bit _ _ _ (Nat.mod_lt _ (by omega))]
  congr 1; omega
theorem packB_small (l : List Bool) : ∀ x ∈ packB l, x < 256 := by
  intro x hx
  obtain ⟨j, _, rfl⟩ := List.mem_map.1 hx
  exact byteAt_lt l j
theorem bitN_mid (a b c : List Bool) (j : Nat) (h : j < b.length) : bitN (a ++ b ++ c) (a.length + j) = bitN b j := by
  unfold bitN
  rw [List.append_assoc]
  simp only [List.getD]
  rw [List.getElem?_append_right (by omega), Nat.add_sub_cancel_left, List.getElem?_append_left h]
theorem valOf_num {bs : List Nat} {p n x : Nat} (hx : x < 2 ^ n) (h : ∀ j, j < n → bitIn bs (p + j) = x / 2 ^ (n - 1 - j) % 2) : ∀ j, j ≤ n → valOf bs p j = x / 2 ^ (n - j) := by
  intro j
  induction j with
  | zero => intro _; rw [valOf, Nat.sub_zero, Nat.div_eq_of_lt hx]
  | succ j ih =>
    intro hj
    rw [valOf, ih (by omega), h j (by omega), show n - 1 - j = n - (j + 1) by omega, show n - j = n - (j + 1) + 1 by omega, Nat.pow_succ, ← Nat.div_div_eq_div_mul]
    generalize x / 2 ^ (n - (j + 1)) = y
    omega
theorem numBits_at (x w i : Nat) : (numBits x w)[i]? = if i < w then some (decide (x / 2 ^ (w - 1 - i) % 2 = 1)) else none := by
  unfold numBits
  by_cases h : i < w <;> simp [h]
theorem numBits_bit (x n j : Nat) (h : j < n) : bitN (numBits x n) j = x / 2 ^ (n - 1 - j) % 2 := by
  unfold bitN
  simp only [List.getD, numBits_at, if_pos h, Option.getD_some, toNat_bit]
theorem two_of_wid {x n : Nat} (h : wid x ≤ n) : x < 2 ^ n := by
  rcases Nat.lt_or_ge x (2 ^ n) with h1 | h1
  · exact h1
  · have := wid_big (x := x) (n := n) (Nat.div_pos h1 (Nat.two_pow_pos _)); omega
/-- what is read of a number that was written -/
theorem read_num {a c : List Bool} {x n : Nat} (hw : wid x ≤ n) : valOf (packB (a ++ numBits x n ++ c)) a.length n = x := by
  have h := valOf_num (bs := packB (a ++ numBits x n ++ c)) (p := a.length) (two_of_wid hw) (fun j hj => by
    rw [bitIn_pack _ _ (by rw [packB_length]; simp [numBits_length]; omega), bitN_mid _ _ _ _ (by rw [numBits_length]; exact hj), numBits_bit _ _ _ hj]) n (Nat.le_refl _)
  rw [h]; simp
theorem read_ones {a c : List Bool} {n : Nat} : (∀ j, j < n → bitIn (packB (a ++ (List.replicate n true ++ [false]) ++ c)) (a.length + j) = 1) ∧ bitIn (packB (a ++ (List.replicate n true ++ [false]) ++ c)) (a.length + n) = 0 := by
  have hl : (List.replicate n true ++ [false]).length = n + 1 := by simp
  constructor
  · intro j hj
    rw [bitIn_pack _ _ (by rw [packB_length]; simp; omega), bitN_mid _ _ _ _ (by omega)]
    unfold bitN
    simp only [List.getD]
    rw [List.getElem?_append_left (by simpa using hj)]
    simp [hj]
  · rw [bitIn_pack _ _ (by rw [packB_length]; simp; omega), bitN_mid _ _ _ _ (by omega)]
    unfold bitN
    simp only [List.getD]
    rw [List.getElem?_append_right (by simp)]
    simp
theorem rest_clean (l : List Bool) : 8 * (packB l).length - l.length < 8 ∧ ∀ j, j < 8 * (packB l).length - l.length → bitIn (packB l) (l.length + j) = 0 := by
  constructor
  · rw [packB_length]; omega
  · intro j hj
    rw [bitIn_pack _ _ (by omega), bitN_out _ _ (by omega)]
end Go.Proofs.YtdfefhoihpbldaaDoor
