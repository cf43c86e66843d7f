/- Bytes as texts: over Core. -/
import Derived.Test.YtbcbignlngcoiaaDoorCore
namespace Go.Proofs.YtbcbignlngcoiaaDoor
open Go.RowKit

theorem text_of {w : World} {v : Value} {bs : List Nat} (h : Lies w v bs) : ∀ dst, Tryd.prog.underlying dst = some .string → (convert 39 dst v).run Tryd.prog w = .ok (.string (strOf bs)) w := by
  rcases h with ⟨rfl, rfl⟩ | ⟨a, cap, rfl, rfl⟩ | ⟨b, off, cap, rfl, hc⟩
  · exact run_convert_bytes_nil w _ _ Tryd.underlying39 Tryd.underlying5 0 0
  · intro dst hd
    rw [run_convert_bytes_string w _ dst _ (some a) 0 cap Tryd.underlying39 Tryd.underlying5 hd, run_bytesToString w a 0 cap [] (by simpa using run_loadCells_list (P := Tryd.prog) w a [] (fun j v h => by simp at h))]
    rfl
  · intro dst hd
    have := run_convert_bytes_arg (P := Tryd.prog) w 39 5 Tryd.underlying39 Tryd.underlying5 b off bs.length cap (bs.map Int.ofNat) (by simp) (fun j hj => by
      rw [hc j hj]; simp [List.getD, List.getElem?_eq_getElem hj]) dst hd
    rw [this, strOfNums_nat]
theorem one_text (w : World) (x : Nat) {u : Int} (hu : u = x) : ∀ dst, Tryd.prog.underlying dst = some .string → (convert 39 dst (.slice (some ⟨w.heap.size, 0, none⟩) 1 1)).run Tryd.prog (w.alloc (.cells #[.int .u8 u] 5)) = .ok (.string (strOf [x])) (w.alloc (.cells #[.int .u8 u] 5)) := by
  subst hu
  refine text_of (.inr (.inr ⟨w.heap.size, 0, 1, rfl, fun j hj => ?_⟩))
  obtain rfl : j = 0 := by simpa using hj
  rw [cell_of_row _ w.heap.size (0 + 0) _ _ _ (heap_alloc_new w _)]
  rfl

/-! ### A region that draws its order, one operation at a time (wip/py/reg.py writes the walk) -/
end Go.Proofs.YtbcbignlngcoiaaDoor
