/- A range in a block of its own. No function of the program. -/
import Derived.Test.YtbcbignlngcoiaaDoorCore
namespace Go.Proofs.YtbcbignlngcoiaaDoor
open Go.RowKit

/-- a range in a block of its own -/
def RgAt (W : World) (P : Nat) (a b : Int) : Prop := W.heap[P]? = some (.cells #[.int .i64 a, .int .i64 b] 25 (0, 0))
theorem RgAt.keep {W W' : World} {P : Nat} {a b : Int} (h : RgAt W P a b) (hb : Below W.heap.size W W') : RgAt W' P a b := (hb.block P (lt_of_block h)).trans h
theorem RgAt.old {W : World} {P : Nat} {a b : Int} (h : RgAt W P a b) (o : Obj) : RgAt (W.alloc o) P a b := (Below.heap_alloc _ _ _ (lt_of_block h)).trans h
theorem RgAt.new (W : World) (a b : Int) : RgAt (W.alloc (.cells #[.int .i64 a, .int .i64 b] 25)) W.heap.size a b := heap_alloc_new W _
theorem RgAt.cells {W : World} {P : Nat} {a b : Int} (h : RgAt W P a b) : W.cell? ⟨P, 0, none⟩ = some (.int .i64 a) ∧ W.cell? ⟨P, 1, none⟩ = some (.int .i64 b) ∧ W.frozen? ⟨P, 0, none⟩ = false ∧ W.frozen? ⟨P, 1, none⟩ = false := cells2 h
theorem RgAt.only {S : Nat → Prop} {W W' : World} {P : Nat} {a b : Int} (h : RgAt W P a b) (ho : Only S W W') (hS : ¬ S P) : RgAt W' P a b := (ho.block P (lt_of_block h) hS).trans h
theorem RgAt.drew {W : World} {P : Nat} {a b : Int} (h : RgAt W P a b) : RgAt W.drew P a b := h
end Go.Proofs.YtbcbignlngcoiaaDoor
