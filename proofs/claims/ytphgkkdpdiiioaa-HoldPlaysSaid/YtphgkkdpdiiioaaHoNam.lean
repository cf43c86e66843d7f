/- Package hold: may a hold's texts be? A hold apart. -/
import Derived.Test.YtphgkkdpdiiioaaHoL
import Derived.Test.YtphgkkdpdiiioaaNmRight
import Derived.Test.YtphgkkdpdiiioaaStrC
import Derived.Test.YtphgkkdpdiiioaaGenOpC
namespace Go.Proofs.Ytphgkkdpdiiioaa
open Go.RowKit

theorem size_empty (s : ByteArray) : (s.toList == ([] : List UInt8)) = decide (s.size = 0) := by
  have h := text_beq s ⟨#[]⟩
  have e : (⟨#[]⟩ : ByteArray).toList = [] := by rw [ByteArray.toList_eq]
  rw [e] at h
  rw [h, Bool.eq_iff_iff, decide_eq_true_eq, decide_eq_true_eq]
  exact ⟨fun h => by rw [h]; rfl, bytes_empty⟩
set_option maxHeartbeats 4000000 in
theorem honamed_any (w : World) (h : Hld) (hn : h.name.size ≤ maxLen) (hs : h.ser.size ≤ maxLen) :
    Calls Try.prog 19 #[h.val] w fun e w' => e = .returned (.bool (namedH h)) ∧ Below w.heap.size w w' := by
  obtain ⟨n, s, a, b⟩ := h
  dsimp only at hn hs
  have H1 : Hid (∀ W, Calls Try.prog 36 #[.string n] W fun e w' => e = .returned (.bool (rightN (ordsOf n))) ∧ w' = W) := Lib.hid fun W => nmright_any W n hn
  have H2 : Hid (∀ W, Calls Try.prog 36 #[.string s] W fun e w' => e = .returned (.bool (rightN (ordsOf s))) ∧ w' = W) := Lib.hid fun W => nmright_any W s hs
  have HR : Hid (namedH ⟨n, s, a, b⟩ = (rightN (ordsOf n) && (decide (s.size = 0) || rightN (ordsOf s)))) := Lib.hid rfl
  obtain ⟨N, hN⟩ : ∃ N, N = rightN (ordsOf n) := ⟨_, rfl⟩
  obtain ⟨S, hS⟩ : ∃ S, S = rightN (ordsOf s) := ⟨_, rfl⟩
  obtain ⟨R, hR⟩ : ∃ R, R = namedH ⟨n, s, a, b⟩ := ⟨_, rfl⟩
  have te := size_empty s
  obtain ⟨E, hE⟩ : ∃ E, E = decide (s.size = 0) := ⟨_, rfl⟩
  rw [← hE] at te HR
  rw [← hN] at H1 HR
  rw [← hS] at H2 HR
  rw [← hR] at HR ⊢
  clear hN hS hR hE hn hs
  unfold Hld.val
  dsimp only
  cases N with
  | false =>
    go_enter Try.func19, Try.ntmps19
    go_wp2_with (go_at_call 36; refine (H1.out _).mono ?_; rintro e w1 ⟨rfl, rfl⟩)
    go_ret
    exact ⟨by rw [HR.out]; rfl, (Below.refl _ _).alloc (Nat.le_refl _) _⟩
  | true =>
    cases E with
    | true =>
      go_enter Try.func19, Try.ntmps19
      go_wp2_with (go_at_call 36; refine (H1.out _).mono ?_; rintro e w1 ⟨rfl, rfl⟩)
      go_ret
      exact ⟨by rw [HR.out]; rfl, (Below.refl _ _).alloc (Nat.le_refl _) _⟩
    | false =>
      go_enter Try.func19, Try.ntmps19
      go_wp2_with (go_at_call 36; (first | (refine (H1.out _).mono ?_; clear H1; rintro e w1 ⟨rfl, rfl⟩) | (refine (H2.out _).mono ?_; rintro e w1 ⟨rfl, rfl⟩)))
      go_ret
      exact ⟨by rw [HR.out]; rfl, (Below.refl _ _).alloc (Nat.le_refl _) _⟩
end Go.Proofs.Ytphgkkdpdiiioaa
