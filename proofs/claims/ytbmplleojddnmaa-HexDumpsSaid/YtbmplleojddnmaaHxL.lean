/- Package hex, over plain numbers: a sign's half; a number's signs; a dump's lines; signs stand in the order of their bytes. -/
import Derived.Test.YtbmplleojddnmaaSig
namespace Go.Proofs.Ytbmplleojddnmaa
open Go.RowKit

/-! ### Signs, read -/
def halfB (c : Nat) : Option Nat := if 48 ≤ c ∧ c ≤ 57 then some (c - 48) else if 97 ≤ c ∧ c ≤ 102 then some (c - 87) else none
theorem half_sign : ∀ n, n < 16 → halfB (signB n) = some n := by decide +kernel
theorem half_lt {c h : Nat} (e : halfB c = some h) : h < 16 ∧ c = signB h := by
  unfold halfB at e
  split at e
  · injection e with e; subst e; unfold signB; rw [if_pos (by omega)]; omega
  · split at e
    · injection e with e; subst e; unfold signB; rw [if_neg (by omega)]; omega
    · cases e
theorem signsB_nil : signsB [] = [] := rfl
theorem signsB_append (a b : List Nat) : signsB (a ++ b) = signsB a ++ signsB b := by unfold signsB; rw [List.flatMap_append]
theorem signsB_cons (x : Nat) (l : List Nat) : signsB (x :: l) = signB (x / 16) :: signB (x % 16) :: signsB l := by unfold signsB; rw [List.flatMap_cons]; rfl
theorem signsB_at : ∀ (l : List Nat) (j : Nat), j < l.length → (signsB l)[2 * j]? = some (signB (l.getD j 0 / 16)) ∧ (signsB l)[2 * j + 1]? = some (signB (l.getD j 0 % 16))
  | [], j, h => by simp at h
  | x :: l, 0, _ => by rw [signsB_cons]; simp
  | x :: l, j + 1, h => by
    have ih := signsB_at l j (by simpa using h)
    rw [signsB_cons, show 2 * (j + 1) = 2 * j + 1 + 1 by omega, List.getElem?_cons_succ, List.getElem?_cons_succ, List.getElem?_cons_succ, List.getElem?_cons_succ]
    simpa [List.getD] using ih
/-- what a row of m noughts is, once i signs of l were read into it -/
def readB (l : List Nat) (i : Nat) : List Nat := l.take (i / 2) ++ (if i % 2 = 1 then [l.getD (i / 2) 0 / 16] else []) ++ List.replicate (l.length - (i + 1) / 2) 0
theorem readB_zero (l : List Nat) : readB l 0 = List.replicate l.length 0 := by simp [readB]
theorem readB_all (l : List Nat) : readB l (2 * l.length) = l := by
  unfold readB
  rw [show 2 * l.length / 2 = l.length by omega, show 2 * l.length % 2 = 0 by omega, show (2 * l.length + 1) / 2 = l.length by omega]
  simp
theorem readB_length {l : List Nat} {i : Nat} (h : i ≤ 2 * l.length) : (readB l i).length = l.length := by
  unfold readB
  rw [List.length_append, List.length_append, List.length_take, List.length_replicate]
  split <;> simp <;> omega
theorem readB_even {l : List Nat} {j : Nat} (h : j < l.length) : (readB l (2 * j)).getD j 0 = 0 ∧ (readB l (2 * j)).set j (l.getD j 0 / 16) = readB l (2 * j + 1) := by
  unfold readB
  rw [show 2 * j / 2 = j by omega, show 2 * j % 2 = 0 by omega, show (2 * j + 1) / 2 = j by omega, show (2 * j + 1) % 2 = 1 by omega, show (2 * j + 1 + 1) / 2 = j + 1 by omega, show l.length - j = (l.length - (j + 1)) + 1 by omega, List.replicate_succ]
  rw [if_neg (by omega), if_pos rfl, List.append_nil]
  have e : (l.take j).length = j := by rw [List.length_take]; omega
  constructor
  · simp [List.getD, e]
  · rw [List.set_append, if_neg (by omega), e, Nat.sub_self, List.set_cons_zero]
    simp
theorem readB_odd {l : List Nat} {j : Nat} (h : j < l.length) : (readB l (2 * j + 1)).getD j 0 = l.getD j 0 / 16 ∧ (readB l (2 * j + 1)).set j (l.getD j 0) = readB l (2 * (j + 1)) := by
  unfold readB
  rw [show 2 * (j + 1) / 2 = j + 1 by omega, show 2 * (j + 1) % 2 = 0 by omega, show (2 * (j + 1) + 1) / 2 = j + 1 by omega, show (2 * j + 1) / 2 = j by omega, show (2 * j + 1) % 2 = 1 by omega, show (2 * j + 1 + 1) / 2 = j + 1 by omega]
  rw [if_pos rfl, if_neg (by omega), List.append_nil]
  have e : (l.take j).length = j := by rw [List.length_take]; omega
  constructor
  · rw [List.append_assoc]; simp [List.getD, e]
  · have e2 : l.getD j 0 = l[j] := by simp [List.getD, h]
    rw [List.append_assoc, List.set_append, if_neg (by omega), e, Nat.sub_self, List.singleton_append, List.set_cons_zero, List.take_succ_eq_append_getElem h, e2, List.append_assoc]
    rfl

/-! ### A number's signs -/
def numS (x : Nat) : List Nat := (List.range 16).map fun i => signB (x / 16 ^ (15 - i) % 16)
theorem numS_length (x : Nat) : (numS x).length = 16 := by simp [numS]
theorem numS_at (x : Nat) {i : Nat} (h : i < 16) : (numS x)[i]? = some (signB (x / 16 ^ (15 - i) % 16)) := by simp [numS, h]
theorem numS_lt (x : Nat) : ∀ y ∈ numS x, y < 256 := by
  intro y hy
  obtain ⟨i, _, rfl⟩ := List.mem_map.1 hy
  exact (sign_lt (Nat.mod_lt _ (by decide))).1
/-- a number's eight bytes -/
def eightB (x : Nat) : List Nat := (List.range 8).map fun i => x / 256 ^ (7 - i) % 256
theorem eightB_at (x : Nat) {i : Nat} (h : i < 8) : (eightB x)[i]? = some (x / 256 ^ (7 - i) % 256) := by simp [eightB, h]
theorem eightB_length (x : Nat) : (eightB x).length = 8 := by simp [eightB]
theorem eight_signs (x : Nat) : signsB (eightB x) = numS x := by
  have e : ∀ k, x / 256 ^ k % 256 / 16 = x / 16 ^ (2 * k + 1) % 16 ∧ x / 256 ^ k % 256 % 16 = x / 16 ^ (2 * k) % 16 := by
    intro k
    have h1 : 256 ^ k = 16 ^ (2 * k) := by rw [Nat.pow_mul]
    rw [h1, Nat.pow_succ, ← Nat.div_div_eq_div_mul]
    generalize x / 16 ^ (2 * k) = y
    omega
  have e8 : eightB x = [x / 256 ^ 7 % 256, x / 256 ^ 6 % 256, x / 256 ^ 5 % 256, x / 256 ^ 4 % 256, x / 256 ^ 3 % 256, x / 256 ^ 2 % 256, x / 256 ^ 1 % 256, x / 256 ^ 0 % 256] := rfl
  rw [e8]
  simp only [signsB_cons, signsB_nil, (e 7).1, (e 7).2, (e 6).1, (e 6).2, (e 5).1, (e 5).2, (e 4).1, (e 4).2, (e 3).1, (e 3).2, (e 2).1, (e 2).2, (e 1).1, (e 1).2, (e 0).1, (e 0).2]
  rfl

/-! ### A dump's lines -/
/-- a line's beginning: the place's eight signs, and a colon -/
def placeB (i : Nat) : List Nat := (numS i).drop 8 ++ [58]
/-- the lines of the first k bytes of l -/
def linesB (l : List Nat) : Nat → List Nat
  | 0 => []
  | k + 1 => linesB l k ++ ((if k % 16 = 0 then placeB k else []) ++ (32 :: signsB [l.getD k 0]) ++ (if k % 16 = 15 ∨ k + 1 = l.length then [10] else []))
def dumpB (l : List Nat) : List Nat := linesB l l.length
/-- a line, so far as j bytes of it -/
def lineB (l : List Nat) (a : Nat) : Nat → List Nat
  | 0 => placeB a
  | j + 1 => lineB l a j ++ (32 :: signsB [l.getD (a + j) 0])
theorem line_end (l : List Nat) (q : Nat) : ∀ j, j < 16 → 16 * q + (j + 1) ≤ l.length → linesB l (16 * q + (j + 1)) = linesB l (16 * q) ++ lineB l (16 * q) (j + 1) ++ (if j = 15 ∨ 16 * q + (j + 1) = l.length then [10] else [])
  | 0, _, _ => by
    rw [show 16 * q + (0 + 1) = 16 * q + 1 from rfl, linesB, lineB, lineB, if_pos (by omega)]
    have e : ((16 * q) % 16 = 15 ∨ 16 * q + 1 = l.length) ↔ ((0 : Nat) = 15 ∨ 16 * q + 1 = l.length) := by omega
    simp only [e, List.append_assoc, Nat.add_zero]
  | j + 1, hj, hl => by
    have ih := line_end l q j (by omega) (by omega)
    rw [show 16 * q + (j + 1 + 1) = (16 * q + (j + 1)) + 1 by omega, linesB, ih, show lineB l (16 * q) (j + 1 + 1) = lineB l (16 * q) (j + 1) ++ (32 :: signsB [l.getD (16 * q + (j + 1)) 0]) from rfl, if_neg (show ¬ (16 * q + (j + 1)) % 16 = 0 by omega), if_neg (show ¬ (j = 15 ∨ 16 * q + (j + 1) = l.length) by omega)]
    have e : ((16 * q + (j + 1)) % 16 = 15 ∨ 16 * q + (j + 1) + 1 = l.length) ↔ (j + 1 = 15 ∨ 16 * q + (j + 1) + 1 = l.length) := by omega
    simp only [e, List.append_assoc, List.nil_append, List.append_nil]
/-- a line that is full, or the last one -/
theorem line_done {l : List Nat} {q m : Nat} (h0 : 16 * q < l.length) (hm : m = min 16 (l.length - 16 * q)) : linesB l (16 * q) ++ lineB l (16 * q) m ++ [10] = linesB l (16 * q + m) := by
  obtain ⟨j, rfl⟩ : ∃ j, m = j + 1 := ⟨m - 1, by omega⟩
  rw [line_end l q j (by omega) (by omega), if_pos (by omega)]
theorem linesB_length (l : List Nat) : ∀ k, (linesB l k).length ≤ 13 * k
  | 0 => Nat.le_refl _
  | k + 1 => by
    have ih := linesB_length l k
    rw [linesB, List.length_append, List.length_append, List.length_append, List.length_cons, signsB_len]
    have h1 : (if k % 16 = 0 then placeB k else []).length ≤ 9 := by split <;> simp [placeB, numS_length]
    have h2 : (if k % 16 = 15 ∨ k + 1 = l.length then [10] else []).length ≤ 1 := by split <;> simp
    simp only [List.length_cons, List.length_nil]
    omega
theorem placeB_length (i : Nat) : (placeB i).length = 9 := by simp [placeB, numS_length]
theorem lineB_length (l : List Nat) (a : Nat) : ∀ j, (lineB l a j).length = 9 + 3 * j
  | 0 => placeB_length a
  | j + 1 => by rw [lineB, List.length_append, lineB_length l a j, List.length_cons, signsB_len]; simp; omega
theorem signsB_byte {l : List Nat} (h : ∀ x ∈ l, x < 256) : ∀ y ∈ signsB l, y < 256 := fun y hy => (signsB_lt h y hy).1
theorem place_small : ∀ i, i < 256 → placeB i = [48, 48, 48, 48, 48, 48] ++ signsB [i] ++ [58] := by decide +kernel

/-! ### The order -/
theorem sign_order : ∀ a, a < 16 → ∀ b, b < 16 → (signB a < signB b ↔ a < b) ∧ (signB a = signB b ↔ a = b) := by decide +kernel
def lessL : List Nat → List Nat → Bool
  | [], [] => false
  | [], _ :: _ => true
  | _ :: _, [] => false
  | a :: x, b :: y => decide (a < b) || (decide (a = b) && lessL x y)
theorem bytesLess_nat : ∀ (a b : List Nat), (∀ x ∈ a, x < 256) → (∀ x ∈ b, x < 256) → Op.bytesLess (a.map UInt8.ofNat) (b.map UInt8.ofNat) = lessL a b
  | [], [], _, _ => rfl
  | [], _ :: _, _, _ => rfl
  | _ :: _, [], _, _ => rfl
  | a :: x, b :: y, ha, hb => by
    have ha1 := ha a (by simp)
    have hb1 := hb b (by simp)
    have ih := bytesLess_nat x y (fun z hz => ha z (by simp [hz])) (fun z hz => hb z (by simp [hz]))
    have e1 : (UInt8.ofNat a < UInt8.ofNat b) = (a < b) := by
      rw [UInt8.lt_iff_toNat_lt, UInt8.toNat_ofNat', UInt8.toNat_ofNat']
      rw [Nat.mod_eq_of_lt (show a < 2 ^ 8 by omega), Nat.mod_eq_of_lt (show b < 2 ^ 8 by omega)]
    have e2 : (UInt8.ofNat a == UInt8.ofNat b) = decide (a = b) := by
      rw [Bool.eq_iff_iff]
      simp only [beq_iff_eq, decide_eq_true_eq]
      constructor
      · intro h
        have h2 := congrArg UInt8.toNat h
        rw [UInt8.toNat_ofNat', UInt8.toNat_ofNat', Nat.mod_eq_of_lt (show a < 2 ^ 8 by omega), Nat.mod_eq_of_lt (show b < 2 ^ 8 by omega)] at h2
        exact h2
      · rintro rfl; rfl
    simp only [List.map_cons, Op.bytesLess, ih, e2, lessL]
    simp only [e1]
theorem lessL_signs : ∀ (a b : List Nat), (∀ x ∈ a, x < 256) → (∀ x ∈ b, x < 256) → a.length = b.length → lessL (signsB a) (signsB b) = lessL a b
  | [], [], _, _, _ => rfl
  | [], _ :: _, _, _, h => by simp at h
  | _ :: _, [], _, _, h => by simp at h
  | a :: x, b :: y, ha, hb, h => by
    have ha1 := ha a (by simp)
    have hb1 := hb b (by simp)
    have ih := lessL_signs x y (fun z hz => ha z (by simp [hz])) (fun z hz => hb z (by simp [hz])) (by simpa using h)
    rw [signsB_cons, signsB_cons, lessL, lessL, lessL, ih]
    have h1 := sign_order (a / 16) (by omega) (b / 16) (by omega)
    have h2 := sign_order (a % 16) (by omega) (b % 16) (by omega)
    simp only [h1.1, h1.2, h2.1, h2.2]
    rcases Nat.lt_trichotomy a b with h | h | h
    · by_cases h3 : a / 16 < b / 16
      · simp [h3, h]
      · have h4 : a / 16 = b / 16 := by omega
        have h5 : a % 16 < b % 16 := by omega
        simp [h4, h5, h]
    · subst h; simp
    · have h6 : ¬ a < b := by omega
      have h7 : ¬ a = b := by omega
      have h8 : ¬ a / 16 < b / 16 := by omega
      by_cases h4 : a / 16 = b / 16
      · have h5 : ¬ a % 16 < b % 16 := by omega
        have h9 : ¬ a % 16 = b % 16 := by omega
        simp [h4, h5, h6, h7, h9]
      · simp [h4, h6, h7, h8]
/-- of rows of as many bytes the signs stand in the order of the bytes -/
theorem less_signs {a b : List Nat} (ha : ∀ x ∈ a, x < 256) (hb : ∀ x ∈ b, x < 256) (h : a.length = b.length) : Op.bytesLess (strOf (signsB a)).toList (strOf (signsB b)).toList = Op.bytesLess (strOf a).toList (strOf b).toList := by
  rw [strOf_toList, strOf_toList, strOf_toList, strOf_toList, bytesLess_nat _ _ (signsB_byte ha) (signsB_byte hb), bytesLess_nat _ _ ha hb, lessL_signs a b ha hb h]
end Go.Proofs.Ytbmplleojddnmaa
