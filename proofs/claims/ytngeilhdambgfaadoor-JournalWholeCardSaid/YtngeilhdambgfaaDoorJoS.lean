/- The bytes of a device's sectors are bytes. (Plain facts.) -/
import Derived.Test.YtngeilhdambgfaaDoorDvRows
namespace Go.Proofs.YtngeilhdambgfaaDoor
open Go.RowKit

def SmallL (L : List (List Nat)) : Prop := ∀ s ∈ L, ∀ x ∈ s, x < 256
structure SmallD (d : Dev) : Prop where
  lies : SmallL d.lies
  waits : ∀ y ∈ d.waits, ∀ x ∈ y.2, x < 256
theorem SmallL.set {L : List (List Nat)} (h : SmallL L) {i : Nat} {b : List Nat} (hb : ∀ x ∈ b, x < 256) : SmallL (L.set i b) := fun s hs => by
  rcases List.mem_or_eq_of_mem_set hs with h1 | h1
  · exact h s h1
  · rw [h1]; exact hb
theorem SmallL.laid {L : List (List Nat)} (h : SmallL L) {ws : List (Nat × List Nat)} (hw : ∀ y ∈ ws, ∀ x ∈ y.2, x < 256) : SmallL (laid L ws) := by
  unfold Go.Proofs.YtngeilhdambgfaaDoor.laid
  induction ws generalizing L with
  | nil => exact h
  | cons y r ih => rw [List.foldl_cons]; exact ih (h.set (hw y List.mem_cons_self)) (fun z hz => hw z (List.mem_cons_of_mem _ hz))
theorem SmallL.crash1 {L : List (List Nat)} (h : SmallL L) (keep : Nat) (torn bytes : Int) {x : (Nat × List Nat) × Nat} (hx : ∀ y ∈ x.1.2, y < 256) : SmallL (crash1 keep torn bytes L x) := by
  unfold Go.Proofs.YtngeilhdambgfaaDoor.crash1
  split
  · refine h.set fun y hy => ?_
    rcases List.mem_append.1 hy with h1 | h1
    · exact hx y (List.mem_of_mem_take h1)
    · have h2 := List.mem_of_mem_drop h1
      by_cases hi : x.1.1 < L.length
      · rw [List.getD, List.getElem?_eq_getElem hi] at h2
        exact h _ (List.getElem_mem hi) y h2
      · rw [List.getD, List.getElem?_eq_none (by omega)] at h2
        simp at h2
  · exact h
theorem SmallL.crashed {L : List (List Nat)} (h : SmallL L) (keep : Nat) (torn bytes : Int) {ws : List ((Nat × List Nat) × Nat)} (hw : ∀ y ∈ ws, ∀ x ∈ y.1.2, x < 256) : SmallL (crashed keep torn bytes L ws) := by
  unfold Go.Proofs.YtngeilhdambgfaaDoor.crashed
  induction ws generalizing L with
  | nil => exact h
  | cons y r ih => rw [List.foldl_cons]; exact ih (h.crash1 keep torn bytes (hw y List.mem_cons_self)) (fun z hz => hw z (List.mem_cons_of_mem _ hz))
theorem padB_small {b : List Nat} (h : ∀ x ∈ b, x < 256) : ∀ x ∈ padB b, x < 256 := fun x hx => by
  unfold padB at hx
  rcases List.mem_append.1 hx with h1 | h1
  · exact h x h1
  · have := List.mem_replicate.1 h1; omega
theorem posW_small {A : List (List Nat)} (h : SmallL A) : ∀ off, ∀ y ∈ posW off A, ∀ x ∈ y.2, x < 256 := by
  induction A with
  | nil => intro off y hy; simp [posW] at hy
  | cons b r ih =>
    intro off y hy
    rcases List.mem_cons.1 hy with h1 | h1
    · rw [h1]; exact padB_small (h b List.mem_cons_self)
    · exact ih (fun s hs => h s (List.mem_cons_of_mem _ hs)) (off + 1) y h1
theorem SmallD.fresh (n : Nat) : SmallD (Dev.fresh n) := ⟨fun s hs x hx => by
  rw [(List.mem_replicate.1 hs).2] at hx
  have := List.mem_replicate.1 hx; omega, fun y hy => by simp [Dev.fresh] at hy⟩
theorem SmallD.writes {d : Dev} (h : SmallD d) {A : List (List Nat)} (hA : SmallL A) (off : Nat) : SmallD (d.writes off A) := ⟨h.lies, fun y hy => by
  rcases List.mem_append.1 hy with h1 | h1
  · exact h.waits y h1
  · exact posW_small hA off y h1⟩
theorem SmallD.told {d : Dev} (h : SmallD d) : SmallL d.told := h.lies.laid h.waits
theorem SmallD.flush {d : Dev} (h : SmallD d) : SmallD d.flush := ⟨h.told, fun y hy => by simp [Dev.flush] at hy⟩
theorem SmallD.crash {d : Dev} (h : SmallD d) (keep : Nat) (torn bytes : Int) : SmallD (d.crash keep torn bytes) := ⟨h.lies.crashed keep torn bytes (fun y hy => h.waits y.1 (by rw [(List.mem_zipIdx hy).2.2]; exact List.getElem_mem _)), fun y hy => by simp [Dev.crash] at hy⟩
theorem SmallD.up {d : Dev} (h : SmallD d) : SmallD d.up := ⟨h.lies, h.waits⟩
theorem SmallL.nils (n : Nat) : SmallL (List.replicate n []) := fun s hs x hx => by rw [(List.mem_replicate.1 hs).2] at hx; simp at hx
end Go.Proofs.YtngeilhdambgfaaDoor
