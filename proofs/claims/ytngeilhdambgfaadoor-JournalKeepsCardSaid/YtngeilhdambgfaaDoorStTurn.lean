/- Turn, walked. -/
import Derived.Test.YtngeilhdambgfaaDoorStUnp
namespace Go.Proofs.YtngeilhdambgfaaDoor
open Go.RowKit

set_option maxHeartbeats 2000000 in
theorem turn_any {w : World} {v : Value} {bs : List Nat} (h : Lies w v bs) (hb : ∀ x ∈ bs, x < 256) :
    Calls Tryd.prog 28 #[v] w fun e w' => e = .returned (.int .u32 ((stOf bs).turn : Int)) ∧ Below w.heap.size w w' := by
  have hun := unpack_any h hb
  unfold Unpacked at hun
  obtain ⟨S, hS⟩ : ∃ s, s = stOf bs := ⟨_, rfl⟩
  obtain ⟨E, hE⟩ : ∃ s, s = unpackE bs := ⟨_, rfl⟩
  rw [← hS, ← hE] at hun
  rw [← hS]
  obtain ⟨a, c, rfl⟩ := lies_len h
  obtain ⟨t, p, L, D⟩ := S
  have HUN := Lib.hid hun
  clear h hb hun hS hE
  go_enter Tryd.func28, Tryd.ntmps28
  go_wp2_with (go_at_call 37; refine HUN.out.mono ?_; rintro e w1 ⟨u, rfl, hlu, _, hb1⟩; obtain ⟨au, cu, rfl⟩ := lies_len hlu.lies; clear hlu; have HB1 := Lib.hid hb1; clear hb1; unfold secV)
  go_ret
  exact ⟨rfl, HB1.out.alloc HB1.out.size _⟩
end Go.Proofs.YtngeilhdambgfaaDoor
