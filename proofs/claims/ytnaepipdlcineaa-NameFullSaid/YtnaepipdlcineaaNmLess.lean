/- Package name: a key's text, and two keys held against each other. -/
import Derived.Test.YtnaepipdlcineaaNmOrd
import Derived.Test.YtnaepipdlcineaaGenOp
import Derived.StillTailTactics
namespace Go.Proofs.Ytnaepipdlcineaa
open Go.RowKit

set_option maxHeartbeats 2000000 in
theorem nmcs_any (w : World) (s t : ByteArray) :
    Calls Try.prog 23 #[.string s, .string t] w fun e w' => e = .returned (.int .i64 (cmpT s t)) ∧ w' = w := by
  go_enter Try.func23, Try.ntmps23
  go_wp2
  rw [run_callFunc_extern Try.func25 (by kernel_rfl) (by kernel_rfl) (by kernel_rfl) (e := Extern.BytealgCompare.compare) (by kernel_rfl), Lib.run_compareString]
  simp only [Result.andThen]
  rw [Oper.upon_value]
  go_wp2
  go_ret
  exact ⟨rfl, rfl⟩
set_option maxHeartbeats 2000000 in
theorem nmcmp_any (w : World) (s t : ByteArray) :
    Calls Try.prog 20 #[.string s, .string t] w fun e w' => e = .returned (.int .i64 (cmpT s t)) ∧ w' = w := by
  have H := Lib.hid (nmcs_any w s t)
  go_enter Try.func20, Try.ntmps20
  go_wp2_with (go_at_call 23; refine H.out.mono ?_; rintro e w1 ⟨rfl, rfl⟩)
  go_ret
  exact ⟨rfl, rfl⟩
set_option maxHeartbeats 4000000 in
theorem nmor_any {w : World} {g : Nat} {x y : Int} (hg : Arr w g 3 [.int .i64 x, .int .i64 y]) :
    Calls Try.prog 19 #[.slice (some ⟨g, 0, none⟩) 2 2] w fun e w' => e = .returned (.int .i64 (if x = 0 then y else x)) ∧ w' = w := by
  have d0 : w.cell? ⟨g, 0, none⟩ = some (.int .i64 x) := hg.cell rfl
  have d1 : w.cell? ⟨g, 1, none⟩ = some (.int .i64 y) := hg.cell rfl
  clear hg
  go_enter Try.func19, Try.ntmps19
  go_wp2_with fail
  go_loop [8] (fun vi => vi = .int .i64 0 ∨ (vi = .int .i64 1 ∧ x = 0) ∨ (vi = .int .i64 2 ∧ x = 0 ∧ y = 0)) (fun vi => 2 - (intOf vi).toNat)
  case atStart => exact .inl rfl
  case round =>
    rcases hrel with rfl | ⟨rfl, h0⟩ | ⟨rfl, h0, h1⟩
    · by_cases hx : x = 0
      · have tx : (x != 0) = false := by simp [hx]
        go_wp2
        exact ⟨.inr (.inl ⟨rfl, hx⟩), by simp [intOf]⟩
      · have tx : (x != 0) = true := by simp [hx]
        go_wp2
        go_ret
        exact ⟨rfl, rfl⟩
    · by_cases hy : y = 0
      · have tx : (y != 0) = false := by simp [hy]
        go_wp2
        exact ⟨.inr (.inr ⟨rfl, h0, hy⟩), by simp [intOf]⟩
      · have tx : (y != 0) = true := by simp [hy]
        go_wp2
        go_ret
        exact ⟨rfl, rfl⟩
    · go_wp2
      go_ret
      exact ⟨rfl, rfl⟩
set_option maxHeartbeats 4000000 in
theorem nmfull_any (w : World) (a b : ByteArray) (ha : a.size ≤ 1000000000) (hb : b.size ≤ 1000000000) :
    Calls Try.prog 10 #[.agg #[.string a, .string b]] w fun e w' => e = .returned (.string (a ++ ⟨#[47]⟩ ++ b)) ∧ Below w.heap.size w w' := by
  go_enter Try.func10, Try.ntmps10
  go_wp2_with fail
  go_ret
  exact ⟨rfl, (Below.refl _ _).alloc (Nat.le_refl _) _⟩
set_option maxHeartbeats 4000000 in
set_option maxRecDepth 100000 in
theorem nmless_any (w : World) (a0 a1 b0 b1 : ByteArray) :
    Calls Try.prog 13 #[.agg #[.string a0, .string a1], .agg #[.string b0, .string b1]] w fun e w' => e = .returned (.int .i64 (cmpK a0 a1 b0 b1)) ∧ Below w.heap.size w w' := by
  have HC0 : Hid (∀ W, Calls Try.prog 20 #[.string a0, .string b0] W fun e w' => e = .returned (.int .i64 (cmpT a0 b0)) ∧ w' = W) := Lib.hid fun W => nmcmp_any W a0 b0
  have HC1 : Hid (∀ W, Calls Try.prog 20 #[.string a1, .string b1] W fun e w' => e = .returned (.int .i64 (cmpT a1 b1)) ∧ w' = W) := Lib.hid fun W => nmcmp_any W a1 b1
  go_enter Try.func13, Try.ntmps13
  go_wp2_with fail
  obtain ⟨P, hP⟩ : ∃ P, P = w.heap.size := ⟨_, rfl⟩
  have hP2 : (w.alloc (.cells #[.string a0, .string a1] 25)).heap.size = P + 1 := by rw [hP]; simp
  refine wp_name fun W hW => ?_
  have HA : Hid (W.heap[P]? = some (.cells #[.string a0, .string a1] 25 (0, 0))) := Lib.hid (by
    rw [hW.out, Below.heap_alloc _ _ _ (by rw [hP2]; omega), hP]; exact heap_alloc_new w _)
  have HB : Hid (W.heap[P + 1]? = some (.cells #[.string b0, .string b1] 25 (0, 0))) := Lib.hid (by
    rw [hW.out, ← hP2]; exact heap_alloc_new _ _)
  have HW : Hid (Below w.heap.size w W) := Lib.hid (by rw [hW.out]; exact ((Below.refl _ _).alloc (Nat.le_refl _) _).alloc (by simp) _)
  rw [← hP]
  clear hW hP hP2
  obtain ⟨c0, c1, _, _⟩ := cells2 HA.out
  obtain ⟨c2, c3, _, _⟩ := cells2 HB.out
  refine wp_region_still_tail 10 (by kernel_rfl) (by kernel_rfl) ?_
  simp only [List.take_succ_cons, List.take_zero, List.drop_succ_cons, List.drop_zero]
  iterate 4 still_step
  still_call (HC0.out W.drew)
  iterate 4 still_step
  still_call (HC1.out W.drew)
  refine wpStill_nil ?_
  change wpList _ _ _ _ _ W.drew
  repeat (first | go_values | go_skip | go_guarded | go_step)
  refine calls_name ?_
  intro W1 hW1
  have HR : Hid (Arr W1 W.heap.size 3 [.int .i64 (cmpT a0 b0), .int .i64 (cmpT a1 b1)]) := Lib.hid (by rw [hW1.out]; exact heap_alloc_new W _)
  have HB1 : Hid (Below w.heap.size w W1) := Lib.hid (by rw [hW1.out]; exact below_drew (HW.out.alloc HW.out.size _))
  clear hW1
  refine (nmor_any HR.out).mono ?_
  rintro e W2 ⟨rfl, hw⟩
  have HB2 : Hid (Below w.heap.size w W2) := Lib.hid (by rw [hw]; exact HB1.out)
  clear hw
  obtain ⟨z, hz⟩ : ∃ z, z = (if cmpT a0 b0 = 0 then cmpT a1 b1 else cmpT a0 b0) := ⟨_, rfl⟩
  have HZ : Hid (z = cmpK a0 a1 b0 b1) := Lib.hid hz
  rw [← hz]
  clear hz
  dsimp only
  repeat (first | go_values | go_skip | go_guarded | go_step | go_upon)
  go_ret
  exact ⟨ret_i64 HZ.out, HB2.out⟩
end Go.Proofs.Ytnaepipdlcineaa
