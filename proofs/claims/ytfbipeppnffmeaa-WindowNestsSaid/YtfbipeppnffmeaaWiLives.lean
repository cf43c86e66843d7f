/- Stage 13: the laws' fixed fact; rows of ranges, as they lie. -/
import Derived.Test.YtfbipeppnffmeaaWiCut
namespace Go.Proofs.Ytfbipeppnffmeaa
open Go.RowKit

theorem RgRow.form {B : Nat} {w : World} {v : Value} {l : List (Int × Int)} (h : RgRow B w v l) (hl : l ≠ []) :
    ∃ g cap, v = .slice (some ⟨g, 0, none⟩) l.length cap ∧ l.length ≤ cap ∧ B ≤ g ∧ g < w.heap.size ∧ ∀ (j : Nat) (u : Value), (cellsR l)[j]? = some u → w.cell? ⟨g, j, none⟩ = some u := by
  rcases h.2 with ⟨_, h0⟩ | ⟨g, cap, cur, hv, hB, hg, hc, _⟩
  · exact absurd (List.length_eq_zero_iff.1 h0) hl
  · refine ⟨g, cap, hv, hc, hB, lt_of_block hg, fun j u hj => ?_⟩
    have := (h : w.ownsRow B 25 2 v l.length (cellsR l)).cells (g := g) (by rw [hv]; rfl) j u hj
    rwa [add_at, Nat.zero_add] at this
theorem RgRow.len {B : Nat} {w : World} {v : Value} {l : List (Int × Int)} (h : RgRow B w v l) : ∃ a cap, v = .slice a l.length cap := own_slice h
set_option maxHeartbeats 8000000 in
set_option maxRecDepth 100000 in
theorem wilives_any (w : World) :
    Calls Try.prog 7 #[] w fun e w' => e = .returned (.bool true) ∧ Below w.heap.size w w' := by
  have HC : Hid (∀ W, Calls Try.prog 18 #[.agg #[.int .i64 0, .int .i64 9], .agg #[.int .i64 3, .int .i64 5]] W fun e w' => ∃ v, e = .returned v ∧ RgRow W.heap.size w' v [(0, 3), (5, 9)] ∧ Below W.heap.size W w') := Lib.hid fun W => by
    have h := wicut_any W 0 9 3 5
    rw [show cutR 0 9 3 5 = [(0, 3), (5, 9)] by decide +kernel] at h
    exact h
  have HO : Hid (∀ W, Calls Try.prog 9 #[.int .i64 1, .int .i64 700] W fun e w' => e = .returned (.agg #[.int .i64 600, .int .i64 900]) ∧ Below W.heap.size W w') := Lib.hid fun W => by
    have h := wiof_any W 1 700 (by decide) (by decide) (by decide) (by decide)
    rw [show startW 1 700 = 600 by decide +kernel, show endW 1 700 = 900 by decide +kernel] at h
    exact h
  go_enter Try.func7, Try.ntmps7
  repeat (first | go_values | go_skip | go_guarded | go_step)
  refine (HC.out w).mono ?_
  rintro e W1 ⟨v, rfl, hr, hb⟩
  obtain ⟨g, cap, rfl, hcap, hg, hlt, hc⟩ := hr.form (by simp)
  have c0 := hc 0 _ rfl
  have c1 := hc 1 _ rfl
  have c2 := hc 2 _ rfl
  have c3 := hc 3 _ rfl
  have HB := Lib.hid hb
  have HR := Lib.hid hr
  clear hc hr hb HC
  dsimp only
  repeat (first | go_values | go_skip | go_guarded | go_step)
  refine (HO.out W1).mono ?_
  rintro e W2 ⟨rfl, hb⟩
  rw [← hb.cell (p := ⟨g, 0, none⟩) hlt] at c0
  rw [← hb.cell (p := ⟨g, 1, none⟩) hlt] at c1
  rw [← hb.cell (p := ⟨g, 2, none⟩) hlt] at c2
  rw [← hb.cell (p := ⟨g, 3, none⟩) hlt] at c3
  have HB2 := Lib.hid (HB.out.trans (hb.mono HB.out.size))
  clear hb HR HB hlt hg
  dsimp only
  repeat (first | go_values | go_skip | go_guarded | go_step | go_upon)
  go_ret
  exact ⟨rfl, HB2.out⟩
end Go.Proofs.Ytfbipeppnffmeaa
