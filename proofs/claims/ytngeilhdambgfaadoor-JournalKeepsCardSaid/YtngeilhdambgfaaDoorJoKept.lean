/- Own rows of what came in, beside a journal and its device. -/
import Derived.Test.YtngeilhdambgfaaDoorJoLives
namespace Go.Proofs.YtngeilhdambgfaaDoor
open Go.RowKit

theorem RowsC.append {B g' cap' : Nat} {w w5 w6 : World} {v u : Value} {us : List Value} {R : List (List Nat)} {bs : List Nat} {m : Nat} (h : RowsC B w v us R) (hm : m = us.length) (h5 : Below w.heap.size w w5) (hu : Lies w5 u bs) (hf : ∀ k, u.ownBlock = some k → bs ≠ [] → k < B)
    (hg : w5.grownBy w6 v.ownBlock) (hown : w6.ownsRow B 33 1 (.slice (some ⟨g', 0, none⟩) (m + 1) cap') (m + 1) (us ++ [u]))
    (hat : (Value.slice (some ⟨g', 0, none⟩) (m + 1) cap').ownBlock = v.ownBlock ∨ (Value.slice (some ⟨g', 0, none⟩) (m + 1) cap').ownBlock = some w5.heap.size) : RowsC B w6 (.slice (some ⟨g', 0, none⟩) (m + 1) cap') (us ++ [u]) (R ++ [bs]) := by
  refine ⟨h.rows.append hm h5 hu (fun k hk hne e => by have h1 := hf k hk hne; have h2 := (h.rows.lt e).1; omega) hg hown hat, fun i x cs k hx hc hk hne => ?_⟩
  by_cases hi : i < us.length
  · rw [List.getElem?_append_left hi] at hx
    rw [List.getElem?_append_left (by rw [← h.rows.len]; exact hi)] at hc
    exact h.far i x cs k hx hc hk hne
  · have hi2 : i = us.length := by have := (List.getElem?_eq_some_iff.1 hx).1; simp at this; omega
    subst hi2
    rw [List.getElem?_append_right (Nat.le_refl _), Nat.sub_self] at hx
    rw [h.rows.len, List.getElem?_append_right (Nat.le_refl _), Nat.sub_self] at hc
    cases hx
    cases hc
    exact hf k hk hne
theorem Sess.grown {B : Nat} {w w5 w6 : World} {J P : Nat} {z : Bool} {t frm n c : Nat} {R R' : List (List Nat)} {d : Dev} {v : Value} {us : List Value} (h : Sess B w J P z t frm n R c d) (hr : RowsC B w v us R') (h5 : Below w.heap.size w w5) (hg : w5.grownBy w6 v.ownBlock) : Sess B w6 J P z t frm n R c d := by
  have h' := h.on h5
  have hr' := hr.on h5
  exact h'.only (Only.grown hg) (fun e => row_ne h'.jo hr'.rows.row (by decide) e) (fun k hk e => hr'.dev h'.dev e hk)
theorem RowsAt.on {w w' : World} {v : Value} {A : List (List Nat)} (h : RowsAt w v A) (hb : Below w.heap.size w w') : RowsAt w' v A := by
  obtain ⟨a, c, hv, hr⟩ := h
  refine ⟨a, c, hv, fun hne => ?_⟩
  obtain ⟨b, off, ha, hc⟩ := hr hne
  refine ⟨b, off, ha, fun i bs hi => ?_⟩
  obtain ⟨u, h1, h2⟩ := hc i bs hi
  exact ⟨u, (hb.cell (p := ⟨b, off + i, none⟩) (cell_lt h1)).trans h1, lies_keep h2 hb⟩
theorem rowsAt_nil (w : World) : RowsAt w (.slice none 0 0) [] := ⟨none, 0, rfl, fun h => absurd rfl h⟩
/-- a slice that came in lies in the old memory -/
theorem lies_far {B : Nat} {w : World} {u : Value} {bs : List Nat} (h : Lies w u bs) (hB : w.heap.size ≤ B) : ∀ k, u.ownBlock = some k → bs ≠ [] → k < B := fun _ hk hne => Nat.lt_of_lt_of_le (h.block hk hne) hB
theorem pieces_small {m : Nat} (h : m ≤ 200) : pieces m ≤ 5 := by unfold pieces; omega
end Go.Proofs.YtngeilhdambgfaaDoor
