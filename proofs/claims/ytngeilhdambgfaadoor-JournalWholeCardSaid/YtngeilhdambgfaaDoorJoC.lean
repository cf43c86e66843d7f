/- What a crash leaves of rows written one behind the other, also torn; of a journal's sectors: each is the right one, or none of this turn. (Plain facts ahead of stage 10; no function of the program.) -/
import Derived.Test.YtngeilhdambgfaaDoorDvRows
import Derived.Test.YtngeilhdambgfaaDoorJoL
namespace Go.Proofs.YtngeilhdambgfaaDoor
open Go.RowKit

theorem padB_whole {b : List Nat} (h : b.length = 64) : padB b = b := by unfold padB; rw [h]; simp
theorem crash_each (keep : Nat) (torn bytes : Int) (L : List (List Nat)) (off s : Nat) (A : List (List Nat)) (hA : ∀ b ∈ A, b.length = 64) (hL : Sect L) (j : Nat) (hj : j < L.length) (hoff : off + A.length ≤ L.length) :
    (∀ x y, off ≤ j → A[j - off]? = some x → L[j]? = some y → ∃ k, k ≤ 64 ∧ (crashed keep torn bytes L ((posW off A).zipIdx s))[j]? = some (x.take k ++ y.drop k)) ∧
    (j < off ∨ off + A.length ≤ j → (crashed keep torn bytes L ((posW off A).zipIdx s))[j]? = L[j]?) := by
  induction A generalizing L off s with
  | nil => exact ⟨fun x y _ h _ => by simp at h, fun _ => rfl⟩
  | cons b r ih =>
    have hb := hA b List.mem_cons_self
    have hlt : off < L.length := by rw [List.length_cons] at hoff; omega
    have hS : Sect (crash1 keep torn bytes L ((off, padB b), s)) := crash1_sect hL hlt (padB_length (Nat.le_of_eq hb))
    have hl : (crash1 keep torn bytes L ((off, padB b), s)).length = L.length := crash1_length _ _ _ _ _
    have h := ih (crash1 keep torn bytes L ((off, padB b), s)) (off + 1) (s + 1) (fun c hc => hA c (List.mem_cons_of_mem _ hc)) hS (by rw [hl]; exact hj) (by rw [hl]; rw [List.length_cons] at hoff; omega)
    have hgo : crashed keep torn bytes L ((posW off (b :: r)).zipIdx s) = crashed keep torn bytes (crash1 keep torn bytes L ((off, padB b), s)) ((posW (off + 1) r).zipIdx (s + 1)) := rfl
    rw [hgo]
    refine ⟨fun x y h1 h2 h3 => ?_, fun h1 => ?_⟩
    · by_cases e : off = j
      · subst e
        rw [Nat.sub_self] at h2
        cases h2
        rw [h.2 (.inl (by omega))]
        have hy := hL.get h3
        unfold crash1
        by_cases hk : kept keep s = true
        · simp only
          rw [if_pos hk, List.getElem?_set_self hlt, padB_whole hb]
          have hd : L.getD off [] = y := by simp [List.getD, h3]
          rw [hd]
          by_cases ht : (s : Int) = torn
          · rw [if_pos ht]; exact ⟨tornN bytes, tornN_le bytes, rfl⟩
          · rw [if_neg ht]; exact ⟨64, Nat.le_refl _, rfl⟩
        · simp only
          rw [if_neg hk, h3]
          exact ⟨0, Nat.zero_le _, rfl⟩
      · refine h.1 x y (by omega) ?_ ?_
        · rw [← h2, show j - off = (j - (off + 1)) + 1 by omega, List.getElem?_cons_succ]
        · rw [crash1_other (by exact e)]; exact h3
    · rw [List.length_cons] at h1
      rw [h.2 (by omega), crash1_other (by show off ≠ j; omega)]
/-- a sector's bytes over what lay there: the sector's, or none of this turn and place -/
theorem mix_ok {t i k : Nat} {s : Sec} {y : List Nat} (hs : s.Ok) (hy : y.length = 64) (hyb : ∀ x ∈ y, x < 256) (hye : y.take 8 = y.drop 56) (hne : (secB s).take 8 ≠ y.take 8) (hacc : accB t i y = false) (hk : k ≤ 64) :
    (secB s).take k ++ y.drop k = secB s ∨ accB t i ((secB s).take k ++ y.drop k) = false := by
  rcases unpack_torn (secB_length hs.2.1) hy (secB_small hs) hyb hk (by rw [secB_take, secB_drop hs.2.1]) hye hne with h | h | h
  · exact .inl h
  · exact .inr (by rw [h]; exact hacc)
  · exact .inr (by unfold accB; rw [h]; rfl)
/-- what lay there is no sector of this turn -/
structure OldAt (t : Nat) (y : List Nat) : Prop where
  len : y.length = 64
  small : ∀ x ∈ y, x < 256
  ends : y.take 8 = y.drop 56
  other : ∀ i, accB t i y = false
  stamp : ∀ p, stampB t p ≠ y.take 8
theorem old_zero {t : Nat} (ht : t ≠ 0) (ht2 : t < 4294967296) : OldAt t (List.replicate 64 0) :=
  ⟨by simp, fun x hx => by rw [(List.mem_replicate.1 hx).2]; omega, rfl, fun i => by unfold accB; rw [unpackE_zero]; rfl, fun p h => ht (numB_zero (zeroL_iff.2 fun x hx => by
    have h1 : x ∈ stampB t p := by unfold stampB; exact List.mem_append_left _ hx
    rw [h] at h1
    exact (List.mem_replicate.1 (List.mem_of_mem_take h1)).2) ht2)⟩
theorem old_other {t : Nat} {s : Sec} (hs : s.Ok) (ht2 : t < 4294967296) (hne : s.turn ≠ t) : OldAt t (secB s) :=
  ⟨secB_length hs.2.1, secB_small hs, by rw [secB_take, secB_drop hs.2.1], fun i => by unfold accB; rw [unpackS_secB hs, decide_eq_false hne]; simp, fun p h => by
    rw [secB_take] at h
    have h1 := congrArg (fun l => valB (l.take 4)) h
    simp only [stampB, List.take_left' (numB_length _ 4)] at h1
    rw [valB_numB (by omega), valB_numB (by have := hs.2.2.1; omega)] at h1
    exact hne h1.symm⟩
/-- behind a crash each of a journal's sectors is the right one, or none of its turn -/
theorem crash_right {t frm n a keep : Nat} {torn bytes : Int} {L : List (List Nat)} {E : List Sec} (hE : ∀ s ∈ E, s.Ok ∧ s.turn = t) (hL : Sect L) (hfn : frm + n ≤ L.length) (hEn : E.length ≤ n) (ha : a ≤ E.length)
    (hdone : ∀ i s, i < a → E[i]? = some s → L[frm + i]? = some (secB s)) (hold : ∀ i y, a ≤ i → i < n → L[frm + i]? = some y → OldAt t y) :
    ∀ i b, i < n → (crashed keep torn bytes L ((posW (frm + a) ((E.drop a).map secB)).zipIdx))[frm + i]? = some b → (∃ s, E[i]? = some s ∧ b = secB s) ∨ accB t i b = false := by
  intro i b hi hb
  have hA : ∀ x ∈ (E.drop a).map secB, x.length = 64 := fun x hx => by
    obtain ⟨s, hs, rfl⟩ := List.mem_map.1 hx
    exact secB_length (hE s (List.mem_of_mem_drop hs)).1.2.1
  have hlen : ((E.drop a).map secB).length = E.length - a := by rw [List.length_map, List.length_drop]
  obtain ⟨h1, h2⟩ := crash_each keep torn bytes L (frm + a) 0 ((E.drop a).map secB) hA hL (frm + i) (by omega) (by rw [hlen]; omega)
  have hfi : frm + i < L.length := by omega
  obtain ⟨y, hy⟩ : ∃ y, L[frm + i]? = some y := ⟨L[frm + i], List.getElem?_eq_getElem hfi⟩
  by_cases hia : i < a
  · have h3 := h2 (.inl (by omega))
    obtain ⟨s, hs⟩ : ∃ s, E[i]? = some s := ⟨E[i]'(by omega), List.getElem?_eq_getElem _⟩
    rw [h3, hdone i s hia hs] at hb
    cases hb
    exact .inl ⟨s, hs, rfl⟩
  · by_cases hie : i < E.length
    · obtain ⟨s, hs⟩ : ∃ s, E[i]? = some s := ⟨E[i], List.getElem?_eq_getElem hie⟩
      obtain ⟨k, hk, h3⟩ := h1 (secB s) y (by omega) (by rw [show frm + i - (frm + a) = i - a by omega, List.getElem?_map, List.getElem?_drop, show a + (i - a) = i by omega, hs]; rfl) hy
      rw [h3] at hb
      cases hb
      have ho := hold i y (by omega) hi hy
      obtain ⟨hok, hst⟩ := hE s (List.mem_of_getElem? hs)
      rcases mix_ok (t := t) (i := i) hok ho.len ho.small ho.ends (by rw [secB_take, hst]; exact ho.stamp _) (ho.other i) hk with h | h
      · exact .inl ⟨s, hs, h⟩
      · exact .inr h
    · rw [h2 (.inr (by rw [hlen]; omega)), hy] at hb
      cases hb
      exact .inr ((hold i b (by omega) hi hy).other i)
theorem secsJ_ok {t : Nat} (ht : t ≠ 0) (ht2 : t < 4294967296) (R : List (List Nat)) : ∀ k, (∀ r ∈ R, ∀ x ∈ r, x < 256) → k + (secsJ t k R).length ≤ 4294967295 → ∀ s ∈ secsJ t k R, s.Ok ∧ s.turn = t := by
  induction R with
  | nil => intro k _ _ s hs; simp [secsJ] at hs
  | cons r R ih =>
    intro k hb hk s hs
    have hlen : (secsJ t k (r :: R)).length = pieces r.length + (secsJ t (k + pieces r.length) R).length := by simp [secsJ, splitS_length]
    rcases List.mem_append.1 (show s ∈ splitS t k r ++ secsJ t (k + pieces r.length) R from hs) with h | h
    · unfold splitS at h
      obtain ⟨i, hi, rfl⟩ := List.mem_map.1 h
      have := List.mem_range.1 hi
      exact ⟨pieceS_ok ht ht2 (by omega) (hb r List.mem_cons_self), rfl⟩
    · exact ih (k + pieces r.length) (fun r' hr' => hb r' (List.mem_cons_of_mem _ hr')) (by omega) s h
theorem secsJ_take (t k : Nat) (R : List (List Nat)) (c : Nat) : ∀ (i : Nat) (s : Sec), (secsJ t k (R.take c))[i]? = some s → (secsJ t k R)[i]? = some s := by
  induction R generalizing k c with
  | nil => intro i s h; simp [secsJ] at h
  | cons r R ih =>
    intro i s h
    cases c with
    | zero => simp [secsJ] at h
    | succ c =>
      rw [List.take_succ_cons] at h
      have h : (splitS t k r ++ secsJ t (k + pieces r.length) (R.take c))[i]? = some s := h
      show (splitS t k r ++ secsJ t (k + pieces r.length) R)[i]? = some s
      by_cases hi : i < (splitS t k r).length
      · rw [List.getElem?_append_left hi] at h ⊢; exact h
      · rw [List.getElem?_append_right (by omega)] at h ⊢; exact ih _ _ _ _ h
/-- WHAT WAS COMMITTED IS KEPT: behind a crash the first c records are told, and of the others a beginning, each whole. -/
theorem read_crash {t frm n c keep : Nat} {torn bytes : Int} {L : List (List Nat)} {R : List (List Nat)} (ht : t ≠ 0) (ht2 : t < 4294967296) (hb : ∀ r ∈ R, ∀ x ∈ r, x < 256) (hL : Sect L) (hfn : frm + n ≤ L.length) (hn : n ≤ 8192) (hEn : (secsJ t 0 R).length ≤ n) (hc : c ≤ R.length)
    (ha : (secsJ t 0 (R.take c)).length ≤ (secsJ t 0 R).length)
    (hdone : ∀ i s, i < (secsJ t 0 (R.take c)).length → (secsJ t 0 R)[i]? = some s → L[frm + i]? = some (secB s)) (hold : ∀ i y, (secsJ t 0 (R.take c)).length ≤ i → i < n → L[frm + i]? = some y → OldAt t y) :
    ∃ j, c ≤ j ∧ j ≤ R.length ∧ readJ t 0 [] (((crashed keep torn bytes L ((posW (frm + (secsJ t 0 (R.take c)).length) (((secsJ t 0 R).drop (secsJ t 0 (R.take c)).length).map secB)).zipIdx)).drop frm).take n) = R.take j := by
  have hE := secsJ_ok ht ht2 R 0 hb (by omega)
  have hr := crash_right (keep := keep) (torn := torn) (bytes := bytes) hE hL hfn hEn ha hdone hold
  have hget : ∀ i, i < n → (((crashed keep torn bytes L ((posW (frm + (secsJ t 0 (R.take c)).length) (((secsJ t 0 R).drop (secsJ t 0 (R.take c)).length).map secB)).zipIdx)).drop frm).take n)[i]? = (crashed keep torn bytes L ((posW (frm + (secsJ t 0 (R.take c)).length) (((secsJ t 0 R).drop (secsJ t 0 (R.take c)).length).map secB)).zipIdx))[frm + i]? := fun i hi => by
    rw [List.getElem?_take_of_lt hi, List.getElem?_drop]
  obtain ⟨j, hj, hrd, hcc⟩ := read_begins ht ht2 R 0 (((crashed keep torn bytes L ((posW (frm + (secsJ t 0 (R.take c)).length) (((secsJ t 0 R).drop (secsJ t 0 (R.take c)).length).map secB)).zipIdx)).drop frm).take n) hb (by omega) (fun i b hi => by
    have hin : i < n := by have := (List.getElem?_eq_some_iff.1 hi).1; rw [List.length_take] at this; omega
    rw [hget i hin] at hi
    rw [Nat.zero_add]
    exact hr i b hin hi)
  refine ⟨j, hcc c hc (fun i s hs => ?_), hj, hrd⟩
  have hi : i < (secsJ t 0 (R.take c)).length := (List.getElem?_eq_some_iff.1 hs).1
  rw [hget i (by omega)]
  have hA : ∀ x ∈ ((secsJ t 0 R).drop (secsJ t 0 (R.take c)).length).map secB, x.length = 64 := fun x hx => by
    obtain ⟨s, hs, rfl⟩ := List.mem_map.1 hx
    exact secB_length (hE s (List.mem_of_mem_drop hs)).1.2.1
  rw [(crash_each keep torn bytes L (frm + (secsJ t 0 (R.take c)).length) 0 _ hA hL (frm + i) (by omega) (by rw [List.length_map, List.length_drop]; omega)).2 (.inl (by omega))]
  exact hdone i s hi (secsJ_take t 0 R c i s hs)
end Go.Proofs.YtngeilhdambgfaaDoor
