/- Policies as plain numbers. No function of the program. -/
import Derived.Test.YtbcbignlngcoiaaDoorCore
namespace Go.Proofs.YtbcbignlngcoiaaDoor
open Go.RowKit

/-- the number of a tier -/
def ofP (a b c k : Int) : Int := if k = 0 then a else if k = 1 then b else if k = 2 then c else 0
/-- is there a bound? -/
def someP (n now : Int) : Bool := decide (0 < n) && decide (n ≤ now)
/-- up hi where it isn't kept any more -/
def boundP (n now : Int) : Int := if someP n now = true then now - n else 0
/-- isn't it kept any more? -/
def goneP (n hi now : Int) : Bool := someP n now && decide (hi ≤ now - n)
/-- the stricter one of two numbers -/
def lessP (x y : Int) : Int := if decide (0 < x) = decide (0 < y) then min x y else max x y
/-- may a policy be? -/
def RightP (a b c : Int) : Prop := (0 ≤ a ∧ a ≤ 1099511627776) ∧ (0 ≤ b ∧ b ≤ 1099511627776) ∧ (0 ≤ c ∧ c ≤ 1099511627776) ∧ (a = 0 → b = 0) ∧ (b = 0 → c = 0) ∧ (b = 0 ∨ a ≤ b) ∧ (c = 0 ∨ b ≤ c)
instance (a b c : Int) : Decidable (RightP a b c) := by unfold RightP; infer_instance
def rightP (a b c : Int) : Bool := decide (RightP a b c)
theorem right_of {a b c : Int} (h : rightP a b c = true) : RightP a b c := of_decide_eq_true h
theorem of_zero (a b c : Int) : ofP a b c 0 = a := rfl
theorem of_one (a b c : Int) : ofP a b c 1 = b := rfl
theorem of_two (a b c : Int) : ofP a b c 2 = c := rfl
theorem of_range {a b c k : Int} (ha : -9223372036854775808 ≤ a ∧ a ≤ 9223372036854775807) (hb : -9223372036854775808 ≤ b ∧ b ≤ 9223372036854775807) (hc : -9223372036854775808 ≤ c ∧ c ≤ 9223372036854775807) :
    -9223372036854775808 ≤ ofP a b c k ∧ ofP a b c k ≤ 9223372036854775807 := by
  unfold ofP; split
  · exact ha
  · split
    · exact hb
    · split
      · exact hc
      · omega
theorem less_range {x y lo hi : Int} (h1 : lo ≤ x ∧ x ≤ hi) (h2 : lo ≤ y ∧ y ≤ hi) : lo ≤ lessP x y ∧ lessP x y ≤ hi := by
  unfold lessP; split <;> omega
/-- of numbers that may be the stricter one is the lesser, 0 more than any -/
theorem less_may {x y : Int} (hx : 0 ≤ x) (hy : 0 ≤ y) : lessP x y = if x = 0 then y else if y = 0 then x else min x y := by
  unfold lessP
  by_cases h1 : x = 0
  · subst h1
    by_cases h2 : y = 0
    · subst h2; rfl
    · rw [if_neg (by rw [decide_eq_false (by omega), decide_eq_true (by omega)]; simp), if_pos rfl]; omega
  · by_cases h2 : y = 0
    · subst h2
      rw [if_neg (by rw [decide_eq_true (by omega), decide_eq_false (by omega)]; simp), if_neg h1, if_pos rfl]; omega
    · rw [if_pos (by rw [decide_eq_true (by omega), decide_eq_true (by omega)]), if_neg h1, if_neg h2]
/-- the stricter one of two that may be may be -/
theorem right_less {a b c x y z : Int} (h1 : RightP a b c) (h2 : RightP x y z) : RightP (lessP a x) (lessP b y) (lessP c z) := by
  obtain ⟨p1, p2, p3, p4, p5, p6, p7⟩ := h1
  obtain ⟨q1, q2, q3, q4, q5, q6, q7⟩ := h2
  rw [less_may p1.1 q1.1, less_may p2.1 q2.1, less_may p3.1 q3.1]
  unfold RightP
  refine ⟨?_, ?_, ?_, ?_, ?_, ?_, ?_⟩ <;> (repeat' split) <;> omega
/-- what is gone by one of two is gone by the stricter one, and nothing else -/
theorem gone_less {m n : Int} (hm : 0 ≤ m) (hn : 0 ≤ n) (hi now : Int) : goneP (lessP m n) hi now = (goneP m hi now || goneP n hi now) := by
  rw [less_may hm hn]
  unfold goneP someP
  by_cases h1 : m = 0
  · subst h1; simp
  · by_cases h2 : n = 0
    · subst h2; simp [h1]
    · rw [if_neg h1, if_neg h2, Bool.eq_iff_iff]
      simp only [Bool.or_eq_true, Bool.and_eq_true, decide_eq_true_eq]
      omega
/-- what is gone stays so -/
theorem gone_later {n hi now x : Int} (hx : 0 ≤ x) (h : goneP n hi now = true) : goneP n hi (now + x) = true := by
  unfold goneP someP at *
  simp only [Bool.and_eq_true, decide_eq_true_eq] at *
  omega
/-- what is gone by a greater number is gone by a lesser one above 0 -/
theorem gone_wider {m n hi now : Int} (hm : 0 < m ∨ n ≤ 0) (h : n ≤ 0 ∨ m ≤ n) (hg : goneP n hi now = true) : goneP m hi now = true := by
  unfold goneP someP at *
  simp only [Bool.and_eq_true, decide_eq_true_eq] at *
  omega
end Go.Proofs.YtbcbignlngcoiaaDoor
