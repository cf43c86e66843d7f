/- Package tier: the calls of a stock that isn't there. -/
import Derived.Test.YtmpphidiofhnlaaZTiAggs0
import Derived.Test.YtmpphidiofhnlaaZTiRest
namespace Go.Proofs.Ytmpphidiofhnlaa
open Go.RowKit

theorem tiput_none (w : World) : Calls Try.prog 14 #[.pointer none, .slice none 0 0] w fun e w' => e = .returned (.tuple #[.int .i64 0, .int .i64 1]) ∧ Below w.heap.size w w' := by
  go_enter Try.func14, Try.ntmps14
  go_wp2
  go_ret2
  exact ⟨rfl, (Below.refl _ _).alloc (Nat.le_refl _) _⟩
theorem tiroll_none (w : World) : Calls Try.prog 15 #[.pointer none, .int .i64 1] w fun e w' => e = .returned (.tuple #[.int .i64 0, .int .i64 1]) ∧ Below w.heap.size w w' := by
  go_enter Try.func15, Try.ntmps15
  go_wp2
  go_ret2
  exact ⟨rfl, (Below.refl _ _).alloc (Nat.le_refl _) _⟩
theorem tilen_none (w : World) {t : Int} (_h : 0 ≤ t) : Calls Try.prog 24 #[.pointer none, .int .i64 t] w fun e w' => e = .returned (.int .i64 0) ∧ Below w.heap.size w w' := by
  have HH := Lib.hid (tiheld_none w t)
  go_enter Try.func24, Try.ntmps24
  go_wp2_with fail
  refine HH.out.mono ?_
  rintro e w2 ⟨rfl, hw⟩; replace hw := hw.symm; subst hw
  dsimp only
  go_wp2
  go_ret
  exact ⟨rfl, Below.refl _ _⟩
theorem tibytes_none (w : World) : Calls Try.prog 23 #[.pointer none] w fun e w' => e = .returned (.int .i64 0) ∧ Below w.heap.size w w' := by
  have H0 : Hid (∀ W, Calls Try.prog 24 #[.pointer none, .int .i64 0] W fun e w' => e = .returned (.int .i64 0) ∧ Below W.heap.size W w') := Lib.hid fun W => tilen_none W (by omega)
  have H1 : Hid (∀ W, Calls Try.prog 24 #[.pointer none, .int .i64 1] W fun e w' => e = .returned (.int .i64 0) ∧ Below W.heap.size W w') := Lib.hid fun W => tilen_none W (by omega)
  have H2 : Hid (∀ W, Calls Try.prog 24 #[.pointer none, .int .i64 2] W fun e w' => e = .returned (.int .i64 0) ∧ Below W.heap.size W w') := Lib.hid fun W => tilen_none W (by omega)
  go_enter Try.func23, Try.ntmps23
  go_wp2_with fail
  refine (H0.out w).mono ?_
  rintro e W1 ⟨rfl, hb1⟩
  dsimp only
  go_wp2_with fail
  refine (H1.out W1).mono ?_
  rintro e W2 ⟨rfl, hb2⟩
  dsimp only
  go_wp2_with fail
  refine (H2.out W2).mono ?_
  rintro e W3 ⟨rfl, hb3⟩
  have HB := Lib.hid ((hb1.trans (hb2.mono hb1.size)).trans (hb3.mono (Nat.le_trans hb1.size hb2.size)))
  clear hb1 hb2 hb3
  dsimp only
  go_wp2
  go_ret
  exact ⟨rfl, HB.out⟩
theorem tipurge_none (w : World) (a b : Int) : Calls Try.prog 13 #[.pointer none, .agg #[.int .i64 a, .int .i64 b]] w fun e w' => e = .returned (.int .i64 0) ∧ Below w.heap.size w w' := by
  go_enter Try.func13, Try.ntmps13
  go_wp2
  go_ret
  exact ⟨rfl, ((Below.refl _ _).alloc (Nat.le_refl _) _).alloc (by simp) _⟩
theorem tipoints_none (w : World) (a b : Int) : Calls Try.prog 17 #[.pointer none, .agg #[.int .i64 a, .int .i64 b]] w fun e w' => (∃ ad c, e = .returned (.slice ad 0 c)) ∧ Below w.heap.size w w' := by
  go_enter Try.func17, Try.ntmps17
  go_wp2
  go_ret
  exact ⟨⟨_, _, rfl⟩, (Below.refl _ _).alloc (Nat.le_refl _) _⟩
theorem ticopy_none (w : World) : Calls Try.prog 25 #[.pointer none] w fun e w' => e = .returned (.pointer none) ∧ Below w.heap.size w w' := by
  go_enter Try.func25, Try.ntmps25
  go_wp2
  go_ret
  exact ⟨rfl, Below.refl _ _⟩
end Go.Proofs.Ytmpphidiofhnlaa
