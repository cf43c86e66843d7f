/- The first so many of N; what a round of a range over a row's holder must leave. No function of the program. -/
import Derived.Test.YtphgkkdpdiiioaaCore
import Derived.RangeFuncKeeps
namespace Go.Proofs.Ytphgkkdpdiiioaa
open Go.RowKit

/-- the first so many of N, in their order -/
def uptoN (N k : Nat) : List (Fin N) := (List.finRange N).take k
theorem uptoN_zero (N : Nat) : uptoN N 0 = [] := by simp [uptoN]
theorem uptoN_succ {N k : Nat} (h : k < N) : uptoN N (k + 1) = uptoN N k ++ [⟨k, h⟩] := by
  unfold uptoN
  rw [List.take_add_one]
  simp [h]
theorem uptoN_length {N k : Nat} (h : k ≤ N) : (uptoN N k).length = k := by unfold uptoN; simp; omega
theorem uptoN_all (N : Nat) : uptoN N N = List.finRange N := by unfold uptoN; rw [List.take_of_length_le]; simp
/-- what a round must leave: the row that is gone through -/
def KeepV (v : Value) (W W' : World) : Prop := ∀ k, v.ownBlock = some k → W'.heap[k]? = W.heap[k]?
theorem KeepV.trans {v : Value} {A B C : World} (h : KeepV v A B) (k : KeepV v B C) : KeepV v A C := fun j hj => (k j hj).trans (h j hj)
theorem keepV_b {w : World} {v : Value} (hv : ∀ k, v.ownBlock = some k → k < w.heap.size) (W : World) (i : Nat) (o o' : Obj) (hi : w.heap.size ≤ i) (_ : W.heap[i]? = some o) (_ : o.isCells = false) (_ : o.isWalk = false) : KeepV v W (W.putObj i o') := fun k hk => by
  have := hv k hk
  exact World.putObj_heap_other (by omega)
end Go.Proofs.Ytphgkkdpdiiioaa
