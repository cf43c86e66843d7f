/- Stage 12: the laws' fixed fact. -/
import Derived.Test.YtnaepipdlcineaaNmFold
namespace Go.Proofs.Ytnaepipdlcineaa
open Go.RowKit

set_option maxHeartbeats 4000000 in
theorem nmlives_any (w : World) :
    Calls Try.prog 7 #[] w fun e w' => e = .returned (.bool true) ∧ Below w.heap.size w w' := by
  have HF : Hid (Calls Try.prog 12 #[.string ⟨#[49, 32, 67, 80, 85, 95, 108, 111, 97, 100]⟩] w fun e w' => e = .returned (.string ⟨#[99, 112, 117, 108, 111, 97, 100]⟩) ∧ Below w.heap.size w w') := Lib.hid
    ((nmfold_any w ⟨#[49, 32, 67, 80, 85, 95, 108, 111, 97, 100]⟩ (by decide +kernel)).mono fun e w' h => ⟨h.1.trans (congrArg (fun s => Ending.returned (Value.string s)) (show strOf (foldN (ordsOf ⟨#[49, 32, 67, 80, 85, 95, 108, 111, 97, 100]⟩)) = ⟨#[99, 112, 117, 108, 111, 97, 100]⟩ by decide +kernel)), h.2⟩)
  have HR : Hid (∀ W, Calls Try.prog 8 #[.string ⟨#[97, 45, 49]⟩] W fun e w' => e = .returned (.bool true) ∧ w' = W) := Lib.hid fun W =>
    (nmright_any W ⟨#[97, 45, 49]⟩ (by decide +kernel)).mono fun e w' h => ⟨h.1.trans (congrArg (fun b => Ending.returned (Value.bool b)) (show rightN (ordsOf ⟨#[97, 45, 49]⟩) = true by decide +kernel)), h.2⟩
  go_enter Try.func7, Try.ntmps7
  repeat (first | go_values | go_skip | go_guarded | go_step)
  refine HF.out.mono ?_
  rintro e w1 ⟨rfl, hb⟩
  have HB := Lib.hid hb
  clear hb HF
  dsimp only
  repeat (first | go_values | go_skip | go_guarded | go_step)
  refine (HR.out w1).mono ?_
  rintro e w2 ⟨rfl, rfl⟩
  dsimp only
  repeat (first | go_values | go_skip | go_guarded | go_step | go_upon)
  go_ret
  exact ⟨rfl, HB.out⟩
end Go.Proofs.Ytnaepipdlcineaa
