/- Own rows of slices of bytes: what they hold lies apart from them; appended to. -/
import Derived.Test.YtngeilhdambgfaaDoorOpenRows
import Derived.Test.YtngeilhdambgfaaDoorGenOp
import Derived.Maps.AppendAt
namespace Go.Proofs.YtngeilhdambgfaaDoor
open Go.RowKit

theorem Lies.only2 {w w' : World} {u : Value} {bs : List Nat} {S : Nat → Prop} (h : Lies w u bs) (ho : Only S w w') (hS : ∀ k, u.ownBlock = some k → bs ≠ [] → ¬ S k) : Lies w' u bs := by
  rcases h with h | h | ⟨b, off, cap, h, hc⟩
  · exact .inl h
  · exact .inr (.inl h)
  · refine .inr (.inr ⟨b, off, cap, h, fun j hj => ?_⟩)
    have h1 := hc j hj
    rw [← h1]
    exact World.cell?_of_block (w := w) (ho.block b (by have := cell_lt h1; exact this) (hS b (by rw [h]; rfl) (by intro e; rw [e] at hj; simp at hj)))
theorem Lies.block {k : Nat} {w : World} {u : Value} {bs : List Nat} (h : Lies w u bs) (hk : u.ownBlock = some k) (hb : bs ≠ []) : k < w.heap.size := by
  rcases h with h | ⟨_, _, _, h⟩ | ⟨b, off, cap, h, hc⟩
  · exact absurd h.2 hb
  · exact absurd h hb
  · rw [h] at hk
    cases hk
    exact cell_lt (hc 0 (List.length_pos_iff.2 hb))
/-- bytes apart from a block -/
def LieN (own : Option Nat) (w : World) (u : Value) (bs : List Nat) : Prop := Lies w u bs ∧ ∀ k, u.ownBlock = some k → bs ≠ [] → own ≠ some k
/-- an own row of slices, and what these hold -/
structure RowsO (B : Nat) (w : World) (v : Value) (us : List Value) (R : List (List Nat)) : Prop where
  row : w.ownsRow B 33 1 v us.length us
  len : us.length = R.length
  data : ∀ (i : Nat) (u : Value) (bs : List Nat), us[i]? = some u → R[i]? = some bs → LieN v.ownBlock w u bs
theorem RowsO.nil (B : Nat) (w : World) : RowsO B w (.slice none 0 0) [] [] := ⟨World.ownsRow_nil _ _ _ _, rfl, fun i u bs h => by simp at h⟩
theorem RowsO.lt {B k : Nat} {w : World} {v : Value} {us : List Value} {R : List (List Nat)} (h : RowsO B w v us R) (hk : v.ownBlock = some k) : B ≤ k ∧ k < w.heap.size := h.row.lt k hk
theorem RowsO.only {B : Nat} {w w' : World} {v : Value} {us : List Value} {R : List (List Nat)} {S : Nat → Prop} (h : RowsO B w v us R) (ho : Only S w w') (h1 : ∀ k, v.ownBlock = some k → ¬ S k) (h2 : ∀ (i : Nat) (u : Value) (bs : List Nat) (k : Nat), us[i]? = some u → R[i]? = some bs → u.ownBlock = some k → bs ≠ [] → ¬ S k) : RowsO B w' v us R :=
  ⟨row_only h.row ho h1, h.len, fun i u bs hu hb => ⟨(h.data i u bs hu hb).1.only2 ho (fun k hk hne => h2 i u bs k hu hb hk hne), (h.data i u bs hu hb).2⟩⟩
theorem RowsO.on {B : Nat} {w w' : World} {v : Value} {us : List Value} {R : List (List Nat)} (h : RowsO B w v us R) (hb : Below w.heap.size w w') : RowsO B w' v us R :=
  h.only (only_beyond (S := fun _ => False) hb) (fun _ _ e => e) (fun _ _ _ _ _ _ _ _ e => e)
theorem RowsO.slice {B : Nat} {w : World} {v : Value} {us : List Value} {R : List (List Nat)} (h : RowsO B w v us R) : ∃ a c, v = .slice a R.length c := by
  obtain ⟨a, c, hv⟩ := own_slice h.row; exact ⟨a, c, by rw [hv, h.len]⟩
theorem RowsO.at {B : Nat} {w : World} {v : Value} {us : List Value} {R : List (List Nat)} (h : RowsO B w v us R) : RowsAt w v R := by
  rcases h.row.2 with ⟨hv, h0⟩ | ⟨g, cap, cur, hv, hgb, hgg, _⟩
  · have hR : R = [] := List.length_eq_zero_iff.1 (by rw [← h.len]; exact h0)
    subst hR
    exact ⟨none, 0, hv, fun e => absurd rfl e⟩
  · refine ⟨some ⟨g, 0, none⟩, cap, by rw [hv, h.len], fun _ => ⟨g, 0, rfl, fun i bs hi => ?_⟩⟩
    have hil : i < us.length := by rw [h.len]; exact (List.getElem?_eq_some_iff.1 hi).1
    have hu : us[i]? = some us[i] := List.getElem?_eq_getElem hil
    have hrow := h.row
    rw [hv] at hrow
    exact ⟨us[i], by rw [Nat.zero_add, hrow.cellAt i (by omega), hu], (h.data i _ bs hu hi).1⟩
/-- one more appended -/
theorem RowsO.append {B g' cap' : Nat} {w w5 w6 : World} {v u : Value} {us : List Value} {R : List (List Nat)} {bs : List Nat} {m : Nat} (h : RowsO B w v us R) (hm : m = us.length) (h5 : Below w.heap.size w w5) (hu : Lies w5 u bs) (hd : ∀ k, u.ownBlock = some k → bs ≠ [] → v.ownBlock ≠ some k)
    (hg : w5.grownBy w6 v.ownBlock) (hown : w6.ownsRow B 33 1 (.slice (some ⟨g', 0, none⟩) (m + 1) cap') (m + 1) (us ++ [u]))
    (hat : (Value.slice (some ⟨g', 0, none⟩) (m + 1) cap').ownBlock = v.ownBlock ∨ (Value.slice (some ⟨g', 0, none⟩) (m + 1) cap').ownBlock = some w5.heap.size) : RowsO B w6 (.slice (some ⟨g', 0, none⟩) (m + 1) cap') (us ++ [u]) (R ++ [bs]) := by
  have ho6 := Only.grown hg
  have h1 := h.on h5
  refine ⟨by rw [List.length_append, List.length_singleton, ← hm]; exact hown, by rw [List.length_append, List.length_append, h.len]; rfl, fun i x cs hx hc => ?_⟩
  have key : ∀ x cs, Lies w5 x cs → (∀ k, x.ownBlock = some k → cs ≠ [] → v.ownBlock ≠ some k) → LieN (Value.slice (some ⟨g', 0, none⟩) (m + 1) cap').ownBlock w6 x cs := fun x cs hl hn => by
    refine ⟨hl.only2 ho6 (fun k hk hne e => hn k hk hne e), fun k hk hne e => ?_⟩
    rcases hat with ha | ha
    · rw [ha] at e; exact hn k hk hne e
    · rw [ha] at e
      cases e
      have := hl.block hk hne
      omega
  by_cases hi : i < us.length
  · rw [List.getElem?_append_left hi] at hx
    rw [List.getElem?_append_left (by rw [← h.len]; exact hi)] at hc
    obtain ⟨h2, h3⟩ := h1.data i x cs hx hc
    exact key x cs h2 h3
  · have hi2 : i = us.length := by have := (List.getElem?_eq_some_iff.1 hx).1; simp at this; omega
    subst hi2
    rw [List.getElem?_append_right (Nat.le_refl _), Nat.sub_self] at hx
    rw [h.len, List.getElem?_append_right (Nat.le_refl _), Nat.sub_self] at hc
    cases hx
    cases hc
    exact key u bs hu hd
theorem infoR : (Tryd.prog.info? 33).map (fun i => (i.zero, i.size, i.bytes)) = some (some (.slice none 0 0), 1, 24) := by kernel_rfl
end Go.Proofs.YtngeilhdambgfaaDoor
