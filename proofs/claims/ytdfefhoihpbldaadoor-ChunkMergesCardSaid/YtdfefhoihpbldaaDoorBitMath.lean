/- Rows of bits as bytes: plain arithmetic, no program. -/
import Derived.Test.YtdfefhoihpbldaaDoorBase
import Derived.Test.YtdfefhoihpbldaaDoorRows
import Derived.WalkKit
import Derived.Deep.AppendLies
namespace Go.Proofs.YtdfefhoihpbldaaDoor
open Go.RowKit

/-- bit number i of a row, as a number; 0 behind its end -/
def bitN (l : List Bool) (i : Nat) : Nat := (l.getD i false).toNat
/-- byte number j of a row, its first bit the highest; behind the end 0s -/
def byteAt (l : List Bool) (j : Nat) : Nat :=
  128 * bitN l (8 * j) + 64 * bitN l (8 * j + 1) + 32 * bitN l (8 * j + 2) + 16 * bitN l (8 * j + 3) + 8 * bitN l (8 * j + 4) + 4 * bitN l (8 * j + 5) + 2 * bitN l (8 * j + 6) + bitN l (8 * j + 7)
/-- so many bytes of a row -/
def bytesN (l : List Bool) (n : Nat) : List Nat := (List.range n).map (byteAt l)
/-- a row as bytes -/
def packB (l : List Bool) : List Nat := bytesN l ((l.length + 7) / 8)
theorem bitN_le (l : List Bool) (i : Nat) : bitN l i ≤ 1 := by unfold bitN; cases l.getD i false <;> simp
theorem bitN_out (l : List Bool) (i : Nat) (h : l.length ≤ i) : bitN l i = 0 := by unfold bitN; simp [List.getD, List.getElem?_eq_none h]
theorem bitN_snoc (l : List Bool) (b : Bool) (i : Nat) : bitN (l ++ [b]) i = bitN l i + if i = l.length then b.toNat else 0 := by
  unfold bitN
  rcases Nat.lt_trichotomy i l.length with h | h | h
  · simp [List.getD, List.getElem?_append_left h]; intro e; omega
  · subst h; simp [List.getD]
  · have h1 : ¬ i = l.length := by omega
    have h2 : l.length + 1 ≤ i := by omega
    simp [List.getD, List.getElem?_eq_none (show l.length ≤ i by omega), h1, List.getElem?_eq_none (show (l ++ [b]).length ≤ i by simpa using h2)]
theorem byteAt_lt (l : List Bool) (j : Nat) : byteAt l j < 256 := by
  unfold byteAt
  have := bitN_le l (8 * j); have := bitN_le l (8 * j + 1); have := bitN_le l (8 * j + 2); have := bitN_le l (8 * j + 3)
  have := bitN_le l (8 * j + 4); have := bitN_le l (8 * j + 5); have := bitN_le l (8 * j + 6); have := bitN_le l (8 * j + 7)
  omega

/-- the last byte's low bits are 0s -/
theorem byteAt_low (l : List Bool) : byteAt l (l.length / 8) % 2 ^ (8 - l.length % 8) = 0 := by
  have e := Nat.div_add_mod l.length 8
  have hm : l.length % 8 < 8 := Nat.mod_lt _ (by omega)
  have o : ∀ i, l.length % 8 ≤ i → bitN l (8 * (l.length / 8) + i) = 0 := fun i hi => bitN_out _ _ (by omega)
  unfold byteAt
  generalize l.length % 8 = m at *
  have h1 : m = 0 ∨ m = 1 ∨ m = 2 ∨ m = 3 ∨ m = 4 ∨ m = 5 ∨ m = 6 ∨ m = 7 := by omega
  have o0 : 0 < m ∨ bitN l (8 * (l.length / 8)) = 0 := by rcases Nat.eq_zero_or_pos m with h | h; exact .inr (o 0 (by omega)); exact .inl h
  rcases h1 with h | h | h | h | h | h | h | h <;> subst h
  · rw [o 1 (by omega), o 2 (by omega), o 3 (by omega), o 4 (by omega), o 5 (by omega), o 6 (by omega), o 7 (by omega)]; omega
  · rw [o 1 (by omega), o 2 (by omega), o 3 (by omega), o 4 (by omega), o 5 (by omega), o 6 (by omega), o 7 (by omega)]; omega
  · rw [o 2 (by omega), o 3 (by omega), o 4 (by omega), o 5 (by omega), o 6 (by omega), o 7 (by omega)]; omega
  · rw [o 3 (by omega), o 4 (by omega), o 5 (by omega), o 6 (by omega), o 7 (by omega)]; omega
  · rw [o 4 (by omega), o 5 (by omega), o 6 (by omega), o 7 (by omega)]; omega
  · rw [o 5 (by omega), o 6 (by omega), o 7 (by omega)]; omega
  · rw [o 6 (by omega), o 7 (by omega)]; omega
  · rw [o 7 (by omega)]; omega

theorem byteAt_snoc (l : List Bool) (b : Bool) (j : Nat) : byteAt (l ++ [b]) j = byteAt l j + if j = l.length / 8 then b.toNat * 2 ^ (7 - l.length % 8) else 0 := by
  have e := Nat.div_add_mod l.length 8
  have hm : l.length % 8 < 8 := Nat.mod_lt _ (by omega)
  have k0 : (8 * j = l.length) = (j = l.length / 8 ∧ 0 = l.length % 8) := propext (by omega)
  have k : ∀ i, i < 8 → (8 * j + i = l.length) = (j = l.length / 8 ∧ i = l.length % 8) := fun i hi => propext (by omega)
  unfold byteAt
  simp only [bitN_snoc]
  simp only [k0, k 1 (by omega), k 2 (by omega), k 3 (by omega), k 4 (by omega), k 5 (by omega), k 6 (by omega), k 7 (by omega)]
  clear k0 k e
  by_cases hj : j = l.length / 8
  · simp only [hj, true_and, if_true]
    generalize l.length / 8 = q
    generalize l.length % 8 = m at *
    generalize b.toNat = x
    have h1 : m = 0 ∨ m = 1 ∨ m = 2 ∨ m = 3 ∨ m = 4 ∨ m = 5 ∨ m = 6 ∨ m = 7 := by omega
    rcases h1 with h | h | h | h | h | h | h | h <;> subst h <;> simp <;> omega
  · simp only [hj, false_and, if_false]; omega

theorem bytesN_length (l : List Bool) (n : Nat) : (bytesN l n).length = n := by simp [bytesN]
theorem packB_length (l : List Bool) : (packB l).length = (l.length + 7) / 8 := bytesN_length _ _
theorem bytesN_get (l : List Bool) (n i : Nat) (h : i < n) : (bytesN l n)[i]? = some (byteAt l i) := by simp [bytesN, h]

/-- a byte of 0 more, where a new byte begins -/
theorem bytesN_grow (l : List Bool) (h : l.length % 8 = 0) : u8s (packB l) ++ [Value.int .u8 0] = u8s (bytesN l (l.length / 8 + 1)) := by
  have e1 : (l.length + 7) / 8 = l.length / 8 := by omega
  have e2 : byteAt l (l.length / 8) = 0 := by
    have h1 := byteAt_low l
    rw [h] at h1
    have h2 := byteAt_lt l (l.length / 8)
    omega
  unfold packB bytesN u8s
  rw [e1, List.range_succ, List.map_append, List.map_append]
  simp [e2]
theorem bytesN_same (l : List Bool) (h : l.length % 8 ≠ 0) : u8s (packB l) = u8s (bytesN l (l.length / 8 + 1)) := by
  have e1 : (l.length + 7) / 8 = l.length / 8 + 1 := by omega
  unfold packB; rw [e1]
/-- what the last byte becomes -/
def lastB (l : List Bool) (b : Bool) : Nat := byteAt l (l.length / 8) + b.toNat * 2 ^ (7 - l.length % 8)
theorem bytesN_put (l : List Bool) (b : Bool) : (u8s (bytesN l (l.length / 8 + 1))).set (l.length / 8) (Value.int .u8 (lastB l b : Nat)) = u8s (packB (l ++ [b])) := by
  have e1 : ((l ++ [b]).length + 7) / 8 = l.length / 8 + 1 := by simp; omega
  apply List.ext_getElem?
  intro i
  unfold packB
  rw [e1, List.getElem?_set, u8s_get, u8s_get, u8s_length, bytesN_length]
  by_cases hi : i < l.length / 8 + 1
  · rw [bytesN_get _ _ _ hi, bytesN_get _ _ _ hi, byteAt_snoc]
    by_cases h2 : l.length / 8 = i
    · subst h2; simp [lastB]
    · rw [if_neg h2, if_neg (by omega)]; simp
  · rw [if_neg (by omega)]
    simp [bytesN, hi]
theorem lastB_or (l : List Bool) (b : Bool) : byteAt l (l.length / 8) ||| (b.toNat * 2 ^ (7 - l.length % 8)) = lastB l b := by
  have h1 := byteAt_low l
  obtain ⟨q, hq⟩ := Nat.dvd_of_mod_eq_zero h1
  unfold lastB
  rw [hq]
  have hm : l.length % 8 < 8 := Nat.mod_lt _ (by omega)
  have h2 : b.toNat * 2 ^ (7 - l.length % 8) < 2 ^ (8 - l.length % 8) := by
    rw [show 8 - l.length % 8 = (7 - l.length % 8) + 1 by omega, Nat.pow_succ]
    have := Nat.two_pow_pos (7 - l.length % 8)
    cases b <;> simp <;> omega
  exact (Nat.two_pow_add_eq_or_of_lt h2 q).symm
theorem lastB_lt (l : List Bool) (b : Bool) : lastB l b < 256 := by
  have h := byteAt_lt (l ++ [b]) (l.length / 8)
  rw [byteAt_snoc, if_pos rfl] at h
  exact h
end Go.Proofs.YtdfefhoihpbldaaDoor
