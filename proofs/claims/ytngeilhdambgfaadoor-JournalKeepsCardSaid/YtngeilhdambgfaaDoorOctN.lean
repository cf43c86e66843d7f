/- Widths of numbers, and a number as bytes. -/
import Derived.Test.YtngeilhdambgfaaDoorBase
namespace Go.Proofs.YtngeilhdambgfaaDoor
open Go.RowKit

def Wide (n : Int) : Prop := n = 1 ∨ n = 2 ∨ n = 4 ∨ n = 8
theorem owidth_yes {n : Int} (h : Wide n) (w : World) : Calls Tryd.prog 56 #[.int .i64 n] w fun e w' => e = .returned (.bool true) ∧ w = w' := by
  rcases h with rfl | rfl | rfl | rfl
  all_goals
    go_enter Tryd.func56, Tryd.ntmps56
    go_wp2
    go_ret
    exact ⟨rfl, rfl⟩
theorem not_wide {n : Int} (h : ¬ Wide n) : (n == 1) = false ∧ (n == 2) = false ∧ (n == 4) = false ∧ (n == 8) = false := by
  unfold Wide at h
  refine ⟨?_, ?_, ?_, ?_⟩ <;> simp <;> omega
theorem owidth_no {n : Int} (h : ¬ Wide n) (w : World) : Calls Tryd.prog 56 #[.int .i64 n] w fun e w' => e = .returned (.bool false) ∧ w = w' := by
  obtain ⟨h1, h2, h3, h4⟩ := not_wide h
  clear h
  go_enter Tryd.func56, Tryd.ntmps56
  go_wp2
  go_ret
  exact ⟨rfl, rfl⟩
/-- the highest first -/
def numB (x : Nat) : Nat → List Nat
  | 0 => []
  | n + 1 => x / 256 ^ n % 256 :: numB x n
theorem numB_length (x n : Nat) : (numB x n).length = n := by
  induction n with
  | zero => rfl
  | succ n ih => simp [numB, ih]
theorem numB_get (x n i : Nat) (h : i < n) : (numB x n)[i]? = some (x / 256 ^ (n - 1 - i) % 256) := by
  induction n generalizing i with
  | zero => omega
  | succ n ih =>
    cases i with
    | zero => simp [numB]
    | succ i => simp only [numB, List.getElem?_cons_succ]; rw [ih i (by omega), show n + 1 - 1 - (i + 1) = n - 1 - i by omega]
theorem numB_take (x n k : Nat) (h : k < n) : (numB x n).take (k + 1) = (numB x n).take k ++ [x / 256 ^ (n - 1 - k) % 256] := by
  rw [List.take_add_one, numB_get x n k h]; rfl
theorem numB_small (x n : Nat) : ∀ b ∈ numB x n, b < 256 := by
  induction n with
  | zero => simp [numB]
  | succ n ih =>
    intro b hb
    rcases List.mem_cons.1 hb with rfl | hb
    · exact Nat.mod_lt _ (by omega)
    · exact ih b hb
end Go.Proofs.YtngeilhdambgfaaDoor
