/- Package tier: Aggs where a tier has none, and of a stock that isn't there. -/
import Derived.Test.YtmpphidiofhnlaaZTiAggs
import Derived.Test.YtmpphidiofhnlaaZTiDoes
namespace Go.Proofs.Ytmpphidiofhnlaa
open Go.RowKit

set_option maxHeartbeats 4000000 in
theorem tiaggs_empty {w : World} {q : Value} {t : Int} (hh : ∀ V, Below w.heap.size w V → Calls Try.prog 43 #[q, .int .i64 t] V fun e w' => e = .returned (.slice none 0 0) ∧ w' = V) (a b : Int) :
    Calls Try.prog 19 #[q, .int .i64 t, .agg #[.int .i64 a, .int .i64 b]] w fun e w' => e = .returned (.slice none 0 0) ∧ Below w.heap.size w w' := by
  have HHE := Lib.hid hh
  clear hh
  go_enter Try.func19, Try.ntmps19
  go_upto_region 2 with fail
  refine wp_name fun W1 hW1 => ?_
  have hb1 : Below w.heap.size w W1 := by rw [hW1.out]; exact (Below.refl _ _).alloc (Nat.le_refl _) _
  have HB1 := Lib.hid hb1
  have HH1 := Lib.hid (HHE.out W1 hb1)
  clear hW1 hb1 HHE
  go_wp2_with fail
  refine HH1.out.mono ?_
  rintro e W2 ⟨rfl, hw⟩; replace hw := hw.symm; subst hw
  dsimp only
  go_wp2_with fail
  go_loopw [7, 14] (fun vv c wr => vv = .slice none 0 0 ∧ c = .int .i64 0 ∧ wr = W1) (fun _ _ _ => 0)
  case atStart => exact ⟨rfl, rfl, rfl⟩
  case round =>
    obtain ⟨rfl, rfl, hw⟩ := hrel
    replace hw := hw.symm
    subst hw
    go_wp2_with fail
    go_ret
    exact ⟨rfl, HB1.out⟩
theorem tiaggs_any {w : World} {p : Nat} {s : Stk} (h : tSit w p s) {t a b : Int} (h0 : -9223372036854775808 ≤ t) (h1 : t ≤ 9223372036854775807) :
    Calls Try.prog 19 #[.pointer (some ⟨p, 0, none⟩), .int .i64 t, .agg #[.int .i64 a, .int .i64 b]] w fun e w' => ∃ v', e = .returned v' ∧ AgRow w.heap.size w' v' (aggsT s t a b) ∧ Below w.heap.size w w' := by
  obtain ⟨sp, v, vm, vl, h⟩ := h
  unfold aggsT
  by_cases e1 : t = 1
  · subst e1
    rw [if_pos rfl]
    exact tiaggs_mid h a b
  · rw [if_neg e1]
    by_cases e2 : t = 2
    · subst e2
      rw [if_pos rfl]
      exact tiaggs_long h a b
    · rw [if_neg e2]
      refine (tiaggs_empty (q := .pointer (some ⟨p, 0, none⟩)) (t := t) (fun V hb => ?_) a b).mono fun e w' hh => ⟨_, hh.1, AgRow.nil _ _, hh.2⟩
      have := tiheld_any (h.keep hb) h0 h1
      unfold heldV at this
      rwa [if_neg e1, if_neg e2] at this
theorem tiaggs_none (w : World) (a b : Int) : Calls Try.prog 19 #[.pointer none, .int .i64 1, .agg #[.int .i64 a, .int .i64 b]] w fun e w' => (∃ ad c, e = .returned (.slice ad 0 c)) ∧ Below w.heap.size w w' :=
  (tiaggs_empty (q := .pointer none) (t := 1) (fun V _ => tiheld_none V 1) a b).mono fun _ _ h => ⟨⟨none, 0, h.1⟩, h.2⟩
end Go.Proofs.Ytmpphidiofhnlaa
