/- The law's own same: walked where the sectors are the same, and where their stamps differ. -/
import Derived.Test.YtmclhnbilghnjaaDoorStLaw
namespace Go.Proofs.YtmclhnbilghnjaaDoor
open Go.RowKit

set_option maxHeartbeats 1000000 in
theorem same_yes {w : World} {s : Sec} {u u' : Value} (hu : Lies w u s.data) (hu' : Lies w u' s.data) : Calls Tryd.prog 8 #[secV s u, secV s u'] w fun e w' => e = .returned (.bool true) ∧ Below w.heap.size w w' := by
  obtain ⟨a, c, rfl⟩ := lies_len hu
  obtain ⟨a', c', rfl⟩ := lies_len hu'
  obtain ⟨t, p, L, D⟩ := s
  obtain ⟨n, hn⟩ : ∃ n, n = D.length := ⟨_, rfl⟩
  unfold secV
  simp only at hu hu' ⊢
  rw [← hn] at hu hu' ⊢
  have HU := Lib.hid hu
  have HU' := Lib.hid hu'
  obtain ⟨W, hW⟩ : ∃ W, W = (w.alloc (.cells #[.int .u32 (t : Int), .int .u32 (p : Int), .bool L, .slice a n c] 27)).alloc (.cells #[.int .u32 (t : Int), .int .u32 (p : Int), .bool L, .slice a' n c'] 27) := ⟨_, rfl⟩
  have hBW : Below w.heap.size w W := by rw [hW]; exact ((Below.refl _ w).alloc (Nat.le_refl _) _).alloc (by simp) _
  have h1 : (convert 25 9 (.slice a n c)).run Tryd.prog W = .ok (.string (strOf D)) W := text_of (lies_keep hu hBW) _ Tryd.underlying9
  have h2 : (convert 25 9 (.slice a' n c')).run Tryd.prog W = .ok (.string (strOf D)) W := text_of (lies_keep hu' hBW) _ Tryd.underlying9
  rw [hW] at h1 h2
  have HBW := Lib.hid hBW
  have HW := Lib.hid hW
  clear hu hu' hn hBW hW
  go_enter Tryd.func8, Tryd.ntmps8
  go_wp2
  go_ret
  exact ⟨rfl, HW.out ▸ HBW.out⟩

set_option maxHeartbeats 1000000 in
theorem same_no {w : World} {s s' : Sec} {u u' : Value} (h : s.turn ≠ s'.turn ∨ s.place ≠ s'.place) : Calls Tryd.prog 8 #[secV s u, secV s' u'] w fun e w' => e = .returned (.bool false) ∧ Below w.heap.size w w' := by
  obtain ⟨t, p, L, D⟩ := s
  obtain ⟨t', p', L', D'⟩ := s'
  unfold secV
  simp only at h ⊢
  by_cases ht : t = t'
  · have hp : p ≠ p' := by rcases h with h | h; exact absurd ht h; exact h
    have t1 : ((t : Int) == (t' : Int)) = true := by simp; omega
    have t2 : ((p : Int) == (p' : Int)) = false := by simp; omega
    clear h ht hp
    go_enter Tryd.func8, Tryd.ntmps8
    go_wp2
    go_ret
    exact ⟨rfl, ((Below.refl _ w).alloc (Nat.le_refl _) _).alloc (by simp) _⟩
  · have t1 : ((t : Int) == (t' : Int)) = false := by simp; omega
    clear h ht
    go_enter Tryd.func8, Tryd.ntmps8
    go_wp2
    go_ret
    exact ⟨rfl, ((Below.refl _ w).alloc (Nat.le_refl _) _).alloc (by simp) _⟩
end Go.Proofs.YtmclhnbilghnjaaDoor
