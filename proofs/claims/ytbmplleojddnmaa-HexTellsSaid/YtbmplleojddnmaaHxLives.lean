/- Stage 7: the laws' fixed fact. -/
import Derived.Test.YtbmplleojddnmaaHxText
namespace Go.Proofs.Ytbmplleojddnmaa
open Go.RowKit

set_option maxHeartbeats 8000000 in
set_option maxRecDepth 1000000 in
theorem hxlives_any (w : World) :
    Calls Try.prog 6 #[] w fun e w' => e = .returned (.bool true) ∧ Below w.heap.size w w' := by
  have HTX : Hid (∀ W, Below w.heap.size w W → Lies W (.slice (some ⟨w.heap.size, 0, none⟩) 2 2) [0, 255] → Calls Try.prog 9 #[.slice (some ⟨w.heap.size, 0, none⟩) 2 2] W fun e w' => e = .returned (.string ⟨#[48, 48, 102, 102]⟩) ∧ Below W.heap.size W w') := Lib.hid fun W _ hl =>
    (hxtext_any hl (by decide) (by decide)).mono fun e w' h => ⟨h.1.trans (congrArg (fun s => Ending.returned (Value.string s)) (show strOf (signsB [0, 255]) = ⟨#[48, 48, 102, 102]⟩ by decide +kernel)), h.2⟩
  go_enter Try.func6, Try.ntmps6
  repeat (first | go_values | go_skip | go_guarded | go_step)
  refine calls_name ?_
  intro W1 hW1
  have HLW : Hid (Lies W1 (.slice (some ⟨w.heap.size, 0, none⟩) 2 2) [0, 255]) := Lib.hid (by rw [hW1.out]; exact const_lies w [0, 255] (0, 0))
  have HBW : Hid (Below w.heap.size w W1) := Lib.hid (by rw [hW1.out]; exact (Below.refl _ _).alloc (Nat.le_refl _) _)
  clear hW1
  refine (HTX.out W1 HBW.out HLW.out).mono ?_
  rintro e W2 ⟨rfl, hb⟩
  have HB2 := Lib.hid (HBW.out.trans (hb.mono HBW.out.size))
  clear hb
  dsimp only
  repeat (first | go_values | go_skip | go_guarded | go_step | go_upon)
  go_ret
  exact ⟨rfl, HB2.out⟩
end Go.Proofs.Ytbmplleojddnmaa
