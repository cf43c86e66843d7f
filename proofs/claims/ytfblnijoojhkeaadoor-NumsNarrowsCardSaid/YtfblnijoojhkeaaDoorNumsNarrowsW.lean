/- NumsNarrows walked: a number is told as one of fewer bits just if that type has it. -/
import Derived.Test.YtfblnijoojhkeaaDoorNumLives
import Derived.Test.YtfblnijoojhkeaaDoorNumNarrow
import Derived.Lib.Hide
namespace Go.Proofs.YtfblnijoojhkeaaDoor
open Go.RowKit

/-- what a narrowing tells, kept from the walk -/
def IsNar (lo hi a v : Int) (ok : Bool) : Prop := v = (if lo ≤ a ∧ a ≤ hi then a else 0) ∧ ok = decide (lo ≤ a ∧ a ≤ hi)
def NarTo (k : IntKind) (lo hi a : Int) (w : World) (e : Ending) (w' : World) : Prop :=
  ∃ v ok, e = .returned (.tuple #[.int k v, .bool ok]) ∧ IsNar lo hi a v ok ∧ lo ≤ v ∧ v ≤ hi ∧ w = w'
theorem Nar.to {k : IntKind} {lo hi a : Int} {w : World} {e : Ending} {w' : World} (h0 : lo ≤ 0) (h1 : 0 ≤ hi) (h : Nar k lo hi a w e w') : NarTo k lo hi a w e w' := by
  obtain ⟨rfl, rfl⟩ := h
  exact ⟨_, _, rfl, ⟨rfl, rfl⟩, by split <;> omega, by split <;> omega, rfl⟩

set_option maxHeartbeats 400000 in
theorem is_any {lo hi a v : Int} {ok : Bool} (ad : Addr) (w : World) (hi0 : IsNar lo hi a v ok) (hc : w.cell? ad = some (.int .i64 a)) :
    Calls Tryd.prog 22 #[.int .i64 lo, .int .i64 hi, .int .i64 v, .bool ok, .pointer (some ad)] w fun e w' => e = .returned (.bool true) ∧ w = w' := by
  obtain ⟨rfl, rfl⟩ := hi0
  by_cases h1 : a < lo
  · rw [if_neg (by omega), show decide (lo ≤ a ∧ a ≤ hi) = false by simp; omega]
    go_enter Tryd.func22, Tryd.ntmps22
    go_wp2
    go_ret
    exact ⟨rfl, rfl⟩
  · by_cases h2 : hi < a
    · rw [if_neg (by omega), show decide (lo ≤ a ∧ a ≤ hi) = false by simp; omega]
      go_enter Tryd.func22, Tryd.ntmps22
      go_wp2
      go_ret
      exact ⟨rfl, rfl⟩
    · rw [if_pos (by omega), show decide (lo ≤ a ∧ a ≤ hi) = true by simp; omega]
      go_enter Tryd.func22, Tryd.ntmps22
      go_wp2
      go_ret
      exact ⟨rfl, rfl⟩

set_option maxHeartbeats 2000000 in
theorem numsNarrows_walk {a : Int} (ha : -9223372036854775808 ≤ a) (ha' : a ≤ 9223372036854775807) (w : World) (hl : StepsLaid w) :
    Calls Tryd.prog 6 #[.int .i64 a] w fun e w' => e = .returned (.bool true) ∧ Below w.heap.size w w' := by
  go_enter Tryd.func6, Tryd.ntmps6
  go_wp2_with (first | (go_at_call 9; refine (lives01 _ (hl.alloc _)).mono ?_; rintro e w' ⟨rfl, rfl⟩) | (go_at_call 16; refine (to_i8 ha ha' _).mono ?_; intro e w' h; obtain ⟨v, ok, rfl, hn, hlo, hhi, rfl⟩ := h.to (by decide) (by decide); clear h) | (go_at_call 17; refine (to_i16 ha ha' _).mono ?_; intro e w' h; obtain ⟨v, ok, rfl, hn, hlo, hhi, rfl⟩ := h.to (by decide) (by decide); clear h) | (go_at_call 18; refine (to_i32 ha ha' _).mono ?_; intro e w' h; obtain ⟨v, ok, rfl, hn, hlo, hhi, rfl⟩ := h.to (by decide) (by decide); clear h) | (go_at_call 19; refine (to_u8 ha ha' _).mono ?_; intro e w' h; obtain ⟨v, ok, rfl, hn, hlo, hhi, rfl⟩ := h.to (by decide) (by decide); clear h) | (go_at_call 20; refine (to_u16 ha ha' _).mono ?_; intro e w' h; obtain ⟨v, ok, rfl, hn, hlo, hhi, rfl⟩ := h.to (by decide) (by decide); clear h) | (go_at_call 21; refine (to_u32 ha ha' _).mono ?_; intro e w' h; obtain ⟨v, ok, rfl, hn, hlo, hhi, rfl⟩ := h.to (by decide) (by decide); clear h) | (go_at_call 22; refine (is_any (a := a) _ _ (by assumption) (by go_simp)).mono ?_; rintro e w' ⟨rfl, rfl⟩))
  go_ret
  exact ⟨rfl, (Below.refl _ _).alloc (Nat.le_refl _) _⟩
end Go.Proofs.YtfblnijoojhkeaaDoor
