/- A policy in a block of its own. No function of the program. -/
import Derived.Test.YtbcbignlngcoiaaDoorGenOpC
import Derived.Laws.ResultCell
namespace Go.Proofs.YtbcbignlngcoiaaDoor
open Go.RowKit

/-- a policy in a block of its own -/
def PolAt (W : World) (P : Nat) (a b c : Int) : Prop := W.heap[P]? = some (.cells #[.int .i64 a, .int .i64 b, .int .i64 c] 23 (0, 0))
theorem PolAt.keep {W W' : World} {P : Nat} {a b c : Int} (h : PolAt W P a b c) (hb : Below W.heap.size W W') : PolAt W' P a b c := (hb.block P (lt_of_block h)).trans h
theorem PolAt.old {W : World} {P : Nat} {a b c : Int} (h : PolAt W P a b c) (o : Obj) : PolAt (W.alloc o) P a b c := (Below.heap_alloc _ _ _ (lt_of_block h)).trans h
theorem PolAt.new (W : World) (a b c : Int) : PolAt (W.alloc (.cells #[.int .i64 a, .int .i64 b, .int .i64 c] 23)) W.heap.size a b c := heap_alloc_new W _
theorem PolAt.cells {W : World} {P : Nat} {a b c : Int} (h : PolAt W P a b c) : W.cell? ⟨P, 0, none⟩ = some (.int .i64 a) ∧ W.cell? ⟨P, 1, none⟩ = some (.int .i64 b) ∧ W.cell? ⟨P, 2, none⟩ = some (.int .i64 c) ∧
    W.frozen? ⟨P, 0, none⟩ = false ∧ W.frozen? ⟨P, 1, none⟩ = false ∧ W.frozen? ⟨P, 2, none⟩ = false := cells3 h
theorem PolAt.only {S : Nat → Prop} {W W' : World} {P : Nat} {a b c : Int} (h : PolAt W P a b c) (ho : Only S W W') (hS : ¬ S P) : PolAt W' P a b c := (ho.block P (lt_of_block h) hS).trans h
theorem PolAt.drew {W : World} {P : Nat} {a b c : Int} (h : PolAt W P a b c) : PolAt W.drew P a b c := h
theorem ret_pol {fn : Func} {p : Tmp} (h : fn.results = #[.cell p 23]) {tmps : Array Value} {w : World} {Q : Nat} {x y z : Value} (hp : tmps.getD p undef = .pointer (some ⟨Q, 0, none⟩)) (hq : w.heap[Q]? = some (.cells #[x, y, z] 23 (0, 0))) :
    (results fn tmps).run Tryd.prog w = .ok (.agg #[x, y, z]) w := by
  have c0 : w.cell? ⟨Q, 0, none⟩ = some x := by rw [cell_of_row w Q 0 _ _ _ hq]; rfl
  have c1 : w.cell? ⟨Q, 1, none⟩ = some y := by rw [cell_of_row w Q 1 _ _ _ hq]; rfl
  have c2 : w.cell? ⟨Q, 2, none⟩ = some z := by rw [cell_of_row w Q 2 _ _ _ hq]; rfl
  rw [results_cell h, hp]
  go_simp
/-- a policy stored -/
def setPol (w : World) (P : Nat) (x y z : Value) : World := ((w.setCell ⟨P, 0, none⟩ x).setCell ⟨P, 1, none⟩ y).setCell ⟨P, 2, none⟩ z
theorem setPol_only (w : World) (P : Nat) (x y z : Value) : Only (fun k => k = P) w (setPol w P x y z) :=
  ((Only.setCell (S := fun k => k = P) _ rfl _).trans (Only.setCell (S := fun k => k = P) _ rfl _) (fun _ _ h => h)).trans (Only.setCell (S := fun k => k = P) _ rfl _) (fun _ _ h => h)
theorem setPol_at {w : World} {P : Nat} {a b c : Value} {t : TypeId} (h : w.heap[P]? = some (.cells #[a, b, c] t (0, 0))) (x y z : Value) : (setPol w P x y z).heap[P]? = some (.cells #[x, y, z] t (0, 0)) := by
  have h1 := heap_setCell_same w P 0 _ _ x h
  have h2 := heap_setCell_same _ P 1 _ _ y h1
  have h3 := heap_setCell_same _ P 2 _ _ z h2
  unfold setPol
  rw [h3]; simp
theorem PolAt.set {W : World} {P : Nat} {a b c : Int} (h : PolAt W P a b c) (x y z : Int) : PolAt (setPol W P (.int .i64 x) (.int .i64 y) (.int .i64 z)) P x y z := setPol_at h _ _ _
end Go.Proofs.YtbcbignlngcoiaaDoor
