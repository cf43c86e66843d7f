/- A record's sectors are joined to it; changed ones are not. -/
import Derived.Test.YtngeilhdambgfaaDoorStJoin
namespace Go.Proofs.YtngeilhdambgfaaDoor
open Go.RowKit

theorem splitS_get {t p : Nat} {D : List Nat} {i : Nat} (h : i < pieces D.length) : (splitS t p D)[i]? = some (pieceS t p D i) := by
  unfold splitS
  rw [List.getElem?_map, List.getElem?_range h]; rfl
theorem joinOk_split {t p : Nat} {D : List Nat} (hf : p + (pieces D.length - 1) ≤ 4294967295) : JoinOk (splitS t p D) := by
  have h1 := pieces_pos D.length
  refine ⟨pieceS t p D 0, splitS_get h1, by rw [splitS_length]; exact hf, fun i x hx => ?_⟩
  have hi : i < pieces D.length := by have := (List.getElem?_eq_some_iff.1 hx).1; rwa [splitS_length] at this
  rw [splitS_get hi] at hx
  cases hx
  rw [splitS_length]
  exact ⟨rfl, rfl, rfl⟩
theorem flat_pieces (D : List Nat) (m : Nat) : ((List.range m).map fun i => (D.drop (47 * i)).take 47).flatten = D.take (47 * m) := by
  induction m with
  | zero => simp
  | succ m ih =>
    rw [List.range_succ, List.map_append, List.flatten_append, ih]
    simp only [List.map_cons, List.map_nil, List.flatten_cons, List.flatten_nil, List.append_nil]
    rw [show 47 * (m + 1) = 47 * m + 47 by omega, List.take_add]
theorem dataL_split (t p : Nat) (D : List Nat) : dataL (splitS t p D) = D := by
  have e : dataL (splitS t p D) = ((List.range (pieces D.length)).map fun i => (D.drop (47 * i)).take 47).flatten := by
    unfold dataL splitS
    rw [List.flatMap_def, List.map_map]
    rfl
  rw [e, flat_pieces, List.take_of_length_le (by unfold pieces; omega)]

theorem places_split {t p : Nat} {D : List Nat} (hf : p + (pieces D.length - 1) ≤ 4294967295) : ∀ s ∈ splitS t p D, s.place < 4294967296 := by
  intro s hs
  unfold splitS at hs
  obtain ⟨i, hi, rfl⟩ := List.mem_map.1 hs
  have := List.mem_range.1 hi
  unfold pieceS
  simp only
  omega
theorem sec_at {t p : Nat} {D : List Nat} {r : List (Sec × Value)} (h : r.map Prod.fst = splitS t p D) {i : Nat} (hi : i < pieces D.length) : ∃ u, r[i]? = some (pieceS t p D i, u) := by
  have h1 := splitS_get (t := t) (p := p) hi
  rw [← h, List.getElem?_map] at h1
  obtain ⟨x, hx, he⟩ := Option.map_eq_some_iff.1 h1
  exact ⟨x.2, by rw [hx, ← he]⟩
theorem data_split {t p : Nat} {D : List Nat} {s : Sec} (hs : s ∈ splitS t p D) : s.data.length ≤ 47 := by
  unfold splitS at hs
  obtain ⟨i, hi, rfl⟩ := List.mem_map.1 hs
  unfold pieceS
  simp only
  rw [List.length_take]; omega
theorem rowC_one {r : List (Sec × Value)} (h : ∀ x ∈ r, x.2.oneCell' = true) : ∀ u ∈ rowC r, u.oneCell' = true := by
  intro u hu
  unfold rowC at hu
  obtain ⟨x, hx, hu⟩ := List.mem_flatMap.1 hu
  exact secC_one x (h x hx) u hu
/-! ### Changed -/
variable {t p : Nat} {D : List Nat}
theorem not_drop {k : Nat} (hk : k < pieces D.length) (h0 : k = 0 → pieces D.length = 1) : ¬ JoinOk ((splitS t p D).take k ++ (splitS t p D).drop (k + 1)) := by
  rintro ⟨s0, h1, h2, h3⟩
  have hn := pieces_pos D.length
  have hlen : ((splitS t p D).take k ++ (splitS t p D).drop (k + 1)).length = pieces D.length - 1 := by
    rw [List.length_append, List.length_take, List.length_drop, splitS_length]; omega
  have hget : ∀ i, i < pieces D.length - 1 → ((splitS t p D).take k ++ (splitS t p D).drop (k + 1))[i]? = some (pieceS t p D (if i < k then i else i + 1)) := fun i hi => by
    by_cases h : i < k
    · rw [if_pos h, List.getElem?_append_left (by rw [List.length_take, splitS_length]; omega), List.getElem?_take_of_lt h, splitS_get (by omega)]
    · rw [if_neg h, List.getElem?_append_right (by rw [List.length_take, splitS_length]; omega), List.length_take, splitS_length, List.getElem?_drop, ← splitS_get (t := t) (p := p) (D := D) (i := i + 1) (by omega)]
      congr 1; omega
  by_cases h1n : pieces D.length = 1
  · have : ((splitS t p D).take k ++ (splitS t p D).drop (k + 1)) = [] := List.length_eq_zero_iff.1 (by rw [hlen]; omega)
    rw [this] at h1; simp at h1
  · have hk0 : 0 < k := by rcases Nat.eq_zero_or_pos k with h | h; exact absurd (h0 h) h1n; exact h
    rw [hget 0 (by omega), if_pos hk0] at h1
    cases h1
    rw [hlen] at h3
    by_cases hkl : k = pieces D.length - 1
    · have h4 := (h3 _ _ (hget (k - 1) (by omega))).2.2
      rw [if_pos (by omega)] at h4
      unfold pieceS at h4
      simp only [decide_eq_decide] at h4
      omega
    · have h4 := (h3 _ _ (hget k (by omega))).2.1
      rw [if_neg (by omega)] at h4
      unfold pieceS at h4
      simp only at h4
      omega
theorem not_swap {k : Nat} (hk : k < pieces D.length) (h0 : 0 < k) : ¬ JoinOk (((splitS t p D).set k (pieceS t p D (k - 1))).set (k - 1) (pieceS t p D k)) := by
  rintro ⟨s0, h1, h2, h3⟩
  have hget : ∀ i, i < pieces D.length → (((splitS t p D).set k (pieceS t p D (k - 1))).set (k - 1) (pieceS t p D k))[i]? = some (pieceS t p D (if i = k - 1 then k else if i = k then k - 1 else i)) := fun i hi => by
    by_cases e1 : i = k - 1
    · subst e1
      rw [if_pos rfl, List.getElem?_set_self (by rw [List.length_set, splitS_length]; omega)]
    · rw [if_neg e1, List.getElem?_set_ne (fun e => e1 e.symm)]
      by_cases e2 : i = k
      · subst e2
        rw [if_pos rfl, List.getElem?_set_self (by rw [splitS_length]; omega)]
      · rw [if_neg e2, List.getElem?_set_ne (fun e => e2 e.symm), splitS_get hi]
  rw [hget 0 (by omega)] at h1
  cases h1
  have h4 := (h3 _ _ (hget k hk)).2.1
  rw [if_neg (by omega : ¬ k = k - 1), if_pos rfl] at h4
  unfold pieceS at h4
  simp only at h4
  split at h4
  · omega
  · split at h4 <;> omega
theorem not_turn {k t' : Nat} {s : Sec} (hk : k < pieces D.length) (h0 : 0 < k) (ht : s.turn = t') (hne : t' ≠ t) : ¬ JoinOk ((splitS t p D).set k s) := by
  rintro ⟨s0, h1, h2, h3⟩
  rw [List.getElem?_set_ne (by omega), splitS_get (by omega)] at h1
  cases h1
  have h4 := (h3 k s (by rw [List.getElem?_set_self (by rw [splitS_length]; exact hk)])).1
  exact hne (ht.symm.trans h4)
theorem not_flip {s : Sec} (hs : s.last = !(pieceS t p D 0).last) : ¬ JoinOk ((splitS t p D).set 0 s) := by
  rintro ⟨s0, h1, h2, h3⟩
  have hn := pieces_pos D.length
  have h4 := (h3 0 s (by rw [List.getElem?_set_self (by rw [splitS_length]; exact hn)])).2.2
  rw [List.length_set, splitS_length, hs] at h4
  unfold pieceS at h4
  simp at h4
end Go.Proofs.YtngeilhdambgfaaDoor
