/- SeriesFull's end: what it tells out of a variable of its own, behind a range over a function. -/
import Derived.Test.YtpgbeebpeldjdaaSeAll
import Derived.Laws.ResultCell
namespace Go.Proofs.Ytpgbeebpeldjdaa
open Go.RowKit Go.Shelf

theorem ret_boolv {fn : Func} {p : Tmp} (h : fn.results = #[.cell p 4]) {tmps : Array Value} {w : World} {Q : Nat} {b : Bool} (hp : tmps.getD p undef = .pointer (some ⟨Q, 0, none⟩)) (hq : w.cell? ⟨Q, 0, none⟩ = some (.bool b)) :
    (results fn tmps).run Try.prog w = .ok (.bool b) w := by
  rw [results_cell h, hp]
  go_simp
theorem full_end {w W : World} {a : Act} {D K : Nat} (ht : a.tmps.getD 4 undef = .pointer (some ⟨D, 0, none⟩)) (hd : a.defers = [{ target := .collected K, args := #[] }]) (hD : W.cell? ⟨D, 0, none⟩ = some (.bool true)) (hK : W.heap[K]? = some (.deferred (some [])))
    (hB : Below w.heap.size w W) (hDK : D ≠ K) (hKZ : w.heap.size ≤ K) :
    bodyPostM Fence.wide 4 Try.prog Try.f3 (fun e w' => e = .returned (.bool true) ∧ Below w.heap.size w w') Exit.ret a W := by
  show LeavesInM Fence.wide 4 Try.prog Try.f3 a.tmps _ a.defers .returning W
  rw [hd]
  refine ⟨by simp, .inl ⟨_, _, rfl, run_takeDeferred hK, ?_⟩⟩
  refine ⟨_, ret_boolv rfl ht ((grownBy_putObj' W K _).cell hD (fun e => hDK (Option.some.inj e))), rfl, ?_⟩
  exact hB.grown (grownBy_putObj' W K _) hB.size (fun k e => by cases e; exact hKZ)
end Go.Proofs.Ytpgbeebpeldjdaa
