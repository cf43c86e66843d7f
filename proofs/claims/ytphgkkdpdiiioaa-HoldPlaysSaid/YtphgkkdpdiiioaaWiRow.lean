/- Package window: a range stored, a range told. -/
import Derived.Test.YtphgkkdpdiiioaaGenOpC
import Derived.Laws.ResultCell
namespace Go.Proofs.Ytphgkkdpdiiioaa
open Go.RowKit

theorem ret_rg {fn : Func} {p : Tmp} (h : fn.results = #[.cell p 24]) {tmps : Array Value} {w : World} {Q : Nat} {x y : Value} (hp : tmps.getD p undef = .pointer (some ⟨Q, 0, none⟩)) (hq : w.heap[Q]? = some (.cells #[x, y] 24 (0, 0))) :
    (results fn tmps).run Try.prog w = .ok (.agg #[x, y]) w := by
  have c0 : w.cell? ⟨Q, 0, none⟩ = some x := by rw [cell_of_row w Q 0 _ _ _ hq]; rfl
  have c1 : w.cell? ⟨Q, 1, none⟩ = some y := by rw [cell_of_row w Q 1 _ _ _ hq]; rfl
  rw [results_cell h, hp]
  go_simp
theorem ret_rg2 {fn : Func} {p u : Tmp} (h : fn.results = #[.cell p 24, .tmp u]) {tmps : Array Value} {w : World} {Q : Nat} {x y : Value} (hp : tmps.getD p undef = .pointer (some ⟨Q, 0, none⟩)) (hq : w.heap[Q]? = some (.cells #[x, y] 24 (0, 0))) :
    (results fn tmps).run Try.prog w = .ok (.tuple #[.agg #[x, y], tmps.getD u undef]) w := by
  have c0 : w.cell? ⟨Q, 0, none⟩ = some x := by rw [cell_of_row w Q 0 _ _ _ hq]; rfl
  have c1 : w.cell? ⟨Q, 1, none⟩ = some y := by rw [cell_of_row w Q 1 _ _ _ hq]; rfl
  rw [results_cell_tmp h, hp]
  go_simp
/-- a range stored -/
def setRg (w : World) (P : Nat) (x y : Value) : World := (w.setCell ⟨P, 0, none⟩ x).setCell ⟨P, 1, none⟩ y
theorem setRg_only (w : World) (P : Nat) (x y : Value) : Only (fun k => k = P) w (setRg w P x y) :=
  (Only.setCell (S := fun k => k = P) _ rfl _).trans (Only.setCell (S := fun k => k = P) _ rfl _) (fun _ _ h => h)
theorem setRg_at {w : World} {P : Nat} {a b : Value} {t : TypeId} (h : w.heap[P]? = some (.cells #[a, b] t (0, 0))) (x y : Value) : (setRg w P x y).heap[P]? = some (.cells #[x, y] t (0, 0)) := by
  have h1 := heap_setCell_same w P 0 _ _ x h
  have h2 := heap_setCell_same _ P 1 _ _ y h1
  unfold setRg
  rw [h2]; simp
end Go.Proofs.Ytphgkkdpdiiioaa
