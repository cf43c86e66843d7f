/- BitsReads: bytes as a row of bits, asks; plain facts. -/
import Derived.Test.YtijionbpljhjhaaDoorBitRows
namespace Go.Proofs.YtijionbpljhjhaaDoor
open Go.RowKit

/-- bytes as a row of bits -/
def rowOf (bs : List Nat) : List Bool := bs.flatMap fun x => numBits x 8
theorem rowOf_length (bs : List Nat) : (rowOf bs).length = 8 * bs.length := by
  unfold rowOf
  induction bs with
  | nil => rfl
  | cons a r ih => simp only [List.flatMap_cons, List.length_append, numBits_length, ih, List.length_cons]; omega
theorem rowOf_take {bs : List Nat} {k : Nat} (h : k < bs.length) : rowOf (bs.take (k + 1)) = rowOf (bs.take k) ++ numBits (bs.getD k 0) 8 := by
  unfold rowOf
  rw [List.take_succ_eq_append_getElem h, List.flatMap_append]
  simp [List.getD, List.getElem?_eq_getElem h]
theorem bitN_append (a b : List Bool) (i : Nat) : bitN (a ++ b) i = if i < a.length then bitN a i else bitN b (i - a.length) := by
  unfold bitN
  simp only [List.getD, List.getElem?_append]
  split <;> rfl
theorem rowOf_bit (bs : List Nat) (i : Nat) (h : i < 8 * bs.length) : bitN (rowOf bs) i = bitIn bs i := by
  induction bs generalizing i with
  | nil => simp at h
  | cons a r ih =>
    have e : rowOf (a :: r) = numBits a 8 ++ rowOf r := by simp [rowOf]
    rw [e, bitN_append, numBits_length]
    by_cases h8 : i < 8
    · rw [if_pos h8, numBits_bit _ _ _ h8]
      unfold bitIn
      rw [Nat.div_eq_of_lt h8, Nat.mod_eq_of_lt h8]
      rfl
    · rw [if_neg h8, ih (i - 8) (by simp at h; omega)]
      unfold bitIn
      have e1 : i / 8 = (i - 8) / 8 + 1 := by omega
      have e2 : i % 8 = (i - 8) % 8 := by omega
      rw [e1, e2]; rfl

/-- what is left of a row of bits behind p -/
def restAt (bs : List Nat) (p : Nat) : List Bool := (rowOf bs).drop p
theorem restAt_length (bs : List Nat) (p : Nat) : (restAt bs p).length = 8 * bs.length - p := by unfold restAt; rw [List.length_drop, rowOf_length]
theorem restAt_zero (bs : List Nat) : restAt bs 0 = rowOf bs := by simp [restAt]
theorem restAt_drop (bs : List Nat) (p n : Nat) : (restAt bs p).drop n = restAt bs (p + n) := by unfold restAt; rw [List.drop_drop]
theorem restAt_bit {bs : List Nat} {p j : Nat} (h : j < 8 * bs.length - p) (h' : j < (restAt bs p).length) : bitIn bs (p + j) = ((restAt bs p)[j]).toNat := by
  rw [← rowOf_bit _ _ (by omega)]
  unfold bitN restAt
  have hl : p + j < (rowOf bs).length := by rw [rowOf_length]; omega
  simp only [List.getD, List.getElem?_eq_getElem hl, Option.getD_some]
  exact congrArg Bool.toNat (List.getElem_drop (xs := rowOf bs) (i := p) (j := j) (h := h')).symm

theorem valOf_bit (bs : List Nat) (p : Nat) : ∀ k i, i < k → valOf bs p k / 2 ^ (k - 1 - i) % 2 = bitIn bs (p + i) := by
  intro k
  induction k with
  | zero => intro i h; omega
  | succ k ih =>
    intro i h
    have hb := bitIn_le bs (p + k)
    rw [valOf]
    by_cases hi : i = k
    · subst hi
      rw [show i + 1 - 1 - i = 0 by omega]
      have hb' := bitIn_le bs (p + i)
      simp; omega
    · rw [← ih i (by omega), show k + 1 - 1 - i = 1 + (k - 1 - i) by omega, Nat.pow_add, ← Nat.div_div_eq_div_mul]
      congr 2; simp; omega
theorem numBits_val {bs : List Nat} {p k : Nat} (h : k ≤ 8 * bs.length - p) : numBits (valOf bs p k) k = (restAt bs p).take k := by
  apply List.ext_getElem
  · rw [numBits_length, List.length_take, restAt_length]; omega
  · intro i h1 h2
    rw [numBits_length] at h1
    have hl : i < (restAt bs p).length := by rw [restAt_length]; omega
    have h3 := numBits_at (valOf bs p k) k i
    rw [if_pos h1, valOf_bit _ _ _ _ h1, restAt_bit (by omega) hl] at h3
    obtain ⟨_, e⟩ := List.getElem?_eq_some_iff.1 h3
    rw [e, List.getElem_take]
    cases (restAt bs p)[i] <;> rfl

/-- how many bits 1 a row begins with -/
def ones (l : List Bool) : Nat := (l.takeWhile id).length
theorem ones_le (l : List Bool) : ones l ≤ l.length := by unfold ones; exact (List.takeWhile_sublist id).length_le
theorem ones_one {l : List Bool} {j : Nat} (h : j < ones l) (h' : j < l.length) : l[j] = true := by
  unfold ones at h
  induction l generalizing j with
  | nil => simp at h
  | cons a r ih =>
    cases a
    · simp at h
    · cases j with
      | zero => rfl
      | succ j => simp at h; simpa using ih (by simpa using h) (by simpa using h')
theorem ones_zero {l : List Bool} (h : ones l < l.length) : l[ones l] = false := by
  unfold ones at h ⊢
  induction l with
  | nil => simp at h
  | cons a r ih =>
    cases a
    · simp
    · simp at h ⊢; exact ih (by simpa using h)

theorem signsOf_at {l : List Bool} {q : Nat} (h : q < l.length) (h' : q < (signsOf l).size) : ((signsOf l)[q]'h').toNat = 48 + (l[q]).toNat := by
  have h1 := sgn_get l q h
  have h2 : ((signsOf l)[q]'h') = (signsOf l).data[q]'h' := rfl
  have h3 : (signsOf l).data[q]? = some (UInt8.ofNat (48 + l[q].toNat)) := h1
  rw [h2, (Array.getElem?_eq_some_iff.1 h3).2]
  cases l[q] <;> rfl
theorem signsOf_take (l : List Bool) (n : Nat) : (signsOf l).extract 0 n = signsOf (l.take n) := by
  apply ByteArray.ext
  rw [ByteArray.data_extract]
  apply Array.ext'
  simp [signsOf, strOf, sgn, List.map_take]
theorem signsOf_drop (l : List Bool) (n : Nat) : (signsOf l).extract n (signsOf l).size = signsOf (l.drop n) := by
  apply ByteArray.ext
  rw [ByteArray.data_extract, signsOf_size]
  apply Array.ext'
  simp [signsOf, strOf, sgn, List.map_drop]
  rw [List.take_of_length_le (by simp)]

/-- are fewer than 8 bits left, and the first j of them 0? -/
def clB (bs : List Nat) (p j : Nat) : Bool := decide ((restAt bs p).length < 8) && ((restAt bs p).take j).all (fun b => !b)
theorem clB_zero (bs : List Nat) (p : Nat) : clB bs p 0 = decide ((restAt bs p).length < 8) := by simp [clB]
theorem clB_succ (bs : List Nat) (p j : Nat) (h : j < (restAt bs p).length) : clB bs p (j + 1) = (clB bs p j && !(restAt bs p)[j]) := by
  unfold clB
  rw [List.take_succ_eq_append_getElem h, List.all_append, Bool.and_assoc]
  simp
theorem clB_yes {bs : List Nat} {p : Nat} (h : clB bs p (restAt bs p).length = true) : 8 * bs.length - p < 8 ∧ ∀ j, j < 8 * bs.length - p → bitIn bs (p + j) = 0 := by
  unfold clB at h
  rw [List.take_of_length_le (Nat.le_refl _)] at h
  simp only [Bool.and_eq_true, decide_eq_true_eq, List.all_eq_true] at h
  rw [restAt_length] at h
  refine ⟨h.1, fun j hj => ?_⟩
  have hl : j < (restAt bs p).length := by rw [restAt_length]; exact hj
  rw [restAt_bit hj hl]
  have := h.2 _ (List.getElem_mem hl)
  cases hb : (restAt bs p)[j]
  · rfl
  · rw [hb] at this; cases this
theorem clB_no {bs : List Nat} {p : Nat} (h : clB bs p (restAt bs p).length = false) : ¬ clean bs p := by
  intro hc
  obtain ⟨h1, h2⟩ := hc
  have : clB bs p (restAt bs p).length = true := by
    unfold clB
    rw [List.take_of_length_le (Nat.le_refl _)]
    simp only [Bool.and_eq_true, decide_eq_true_eq, List.all_eq_true]
    refine ⟨by rw [restAt_length]; exact h1, fun b hb => ?_⟩
    obtain ⟨j, hj, rfl⟩ := List.getElem_of_mem hb
    have h3 := h2 j (by rw [restAt_length] at hj; exact hj)
    rw [restAt_bit (by rw [restAt_length] at hj; exact hj) hj] at h3
    cases hb2 : (restAt bs p)[j]
    · rfl
    · rw [hb2] at h3; cases h3
  rw [this] at h; cases h

/-- Get(n), or Unary(n) -/
structure Ak where
  n : Int
  u : Bool
def Ak.cells (t : Ak) : List Value := [.int .i64 t.n, .bool t.u]
def AsksAt (w : World) (b off : Nat) (l : List Ak) : Prop :=
  ∀ i t, l[i]? = some t → w.cell? ⟨b, off + i * 2, none⟩ = some (.int .i64 t.n) ∧ w.cell? ⟨b, off + i * 2 + 1, none⟩ = some (.bool t.u)
theorem AsksAt.below {B : Nat} {w w' : World} {b off : Nat} {l : List Ak} (h : AsksAt w b off l) (hb : Below B w w') (hB : b < B) : AsksAt w' b off l := fun i t ht => by
  obtain ⟨h1, h2⟩ := h i t ht
  exact ⟨by rw [← h1]; exact hb.cell (p := ⟨b, _, none⟩) hB, by rw [← h2]; exact hb.cell (p := ⟨b, _, none⟩) hB⟩
end Go.Proofs.YtijionbpljhjhaaDoor
