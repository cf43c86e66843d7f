/- A journal's sectors, as plain lists: read; what a crash leaves of them; that bytes are bytes; a journal on a device: its records, those that are committed, what waits, what lay there; written on, flushed, crashed, wiped, told. -/
import Derived.Test.YtngeilhdambgfaaDoorDvRows
import Derived.Test.YtngeilhdambgfaaDoorStBad
namespace Go.Proofs.YtngeilhdambgfaaDoor
open Go.RowKit

/-- is it the k-th sector of a journal of this turn? -/
def accB (t k : Nat) (b : List Nat) : Bool := decide (unpackE b = 0) && decide ((stOf b).turn = t) && decide ((stOf b).place = k)
/-- the records that are told from place k on, these bytes of one of them behind -/
def readJ (t : Nat) : Nat → List Nat → List (List Nat) → List (List Nat)
  | _, _, [] => []
  | k, acc, b :: L => if accB t k b = true then (if (stOf b).last = true then (acc ++ (stOf b).data) :: readJ t (k + 1) [] L else readJ t (k + 1) (acc ++ (stOf b).data) L) else []
theorem readJ_cons (t k : Nat) (acc b : List Nat) (L : List (List Nat)) : readJ t k acc (b :: L) = if accB t k b = true then (if (stOf b).last = true then (acc ++ (stOf b).data) :: readJ t (k + 1) [] L else readJ t (k + 1) (acc ++ (stOf b).data) L) else [] := by
  conv => lhs; unfold readJ
/-- the sectors of these records from place k on -/
def secsJ (t : Nat) : Nat → List (List Nat) → List Sec
  | _, [] => []
  | k, r :: R => splitS t k r ++ secsJ t (k + pieces r.length) R
theorem pieceS_ok {t k : Nat} {r : List Nat} {i : Nat} (ht : t ≠ 0) (ht2 : t < 4294967296) (hk : k + i < 4294967296) (hb : ∀ x ∈ r, x < 256) : (pieceS t k r i).Ok := by
  refine ⟨ht, ?_, ht2, hk, fun x hx => hb x (List.mem_of_mem_drop (List.mem_of_mem_take hx))⟩
  unfold pieceS
  simp only
  rw [List.length_take]; omega
theorem accB_right {t k : Nat} {r : List Nat} {i : Nat} (ht : t ≠ 0) (ht2 : t < 4294967296) (hk : k + i < 4294967296) (hb : ∀ x ∈ r, x < 256) : accB t (k + i) (secB (pieceS t k r i)) = true ∧ stOf (secB (pieceS t k r i)) = pieceS t k r i := by
  have h := pieceS_ok ht ht2 hk hb
  refine ⟨?_, unpackS_secB h⟩
  unfold accB
  rw [unpackE_secB h, unpackS_secB h]
  simp [pieceS]
theorem read_from {t k : Nat} {r : List Nat} {L : List (List Nat)} (ht : t ≠ 0) (ht2 : t < 4294967296) (hk : k + pieces r.length ≤ 4294967296) (hb : ∀ x ∈ r, x < 256)
    (hL : ∀ i b, i < pieces r.length → L[i]? = some b → b = secB (pieceS t k r i) ∨ accB t (k + i) b = false) : ∀ d i, i + (d + 1) = pieces r.length →
    (readJ t (k + i) (r.take (47 * i)) (L.drop i) = r :: readJ t (k + pieces r.length) [] (L.drop (pieces r.length)) ∧ ∀ x, i ≤ x → x < pieces r.length → L[x]? = some (secB (pieceS t k r x))) ∨
    (readJ t (k + i) (r.take (47 * i)) (L.drop i) = [] ∧ ∃ x, x < pieces r.length ∧ L[x]? ≠ some (secB (pieceS t k r x))) := by
  intro d
  induction d with
  | zero =>
    intro i hi
    cases hLi : L[i]? with
    | none =>
      refine .inr ⟨?_, i, by omega, by rw [hLi]; simp⟩
      rw [List.drop_of_length_le (List.getElem?_eq_none_iff.1 hLi)]; rfl
    | some b =>
      obtain ⟨hil, hbi⟩ := List.getElem?_eq_some_iff.1 hLi
      rw [List.drop_eq_getElem_cons hil, hbi]
      rcases hL i b (by omega) hLi with rfl | h
      · obtain ⟨h1, h2⟩ := accB_right (k := k) (i := i) ht ht2 (by omega) hb
        refine .inl ⟨?_, fun x h3 h4 => by rw [show x = i by omega]; exact hLi⟩
        have hlast : (pieceS t k r i).last = true := by unfold pieceS; simp; omega
        have hdata : r.take (47 * i) ++ (pieceS t k r i).data = r := by
          unfold pieceS
          simp only
          rw [← List.take_add, List.take_of_length_le]
          unfold pieces at hi; omega
        rw [readJ_cons, if_pos h1, h2, if_pos hlast, hdata, show k + i + 1 = k + pieces r.length by omega, show i + 1 = pieces r.length by omega]
      · refine .inr ⟨?_, i, by omega, fun e => ?_⟩
        · rw [readJ_cons, if_neg (by rw [h]; decide)]
        · rw [hLi] at e
          cases e
          rw [(accB_right (k := k) (r := r) (i := i) ht ht2 (by omega) hb).1] at h; cases h
  | succ d ih =>
    intro i hi
    cases hLi : L[i]? with
    | none =>
      refine .inr ⟨?_, i, by omega, by rw [hLi]; simp⟩
      rw [List.drop_of_length_le (List.getElem?_eq_none_iff.1 hLi)]; rfl
    | some b =>
      obtain ⟨hil, hbi⟩ := List.getElem?_eq_some_iff.1 hLi
      rw [List.drop_eq_getElem_cons hil, hbi]
      rcases hL i b (by omega) hLi with rfl | h
      · obtain ⟨h1, h2⟩ := accB_right (k := k) (i := i) ht ht2 (by omega) hb
        have hlast : (pieceS t k r i).last = false := by unfold pieceS; simp; omega
        have hstep : readJ t (k + i) (r.take (47 * i)) (secB (pieceS t k r i) :: L.drop (i + 1)) = readJ t (k + (i + 1)) (r.take (47 * (i + 1))) (L.drop (i + 1)) := by
          rw [readJ_cons, if_pos h1, h2, if_neg (by rw [hlast]; decide)]
          unfold pieceS
          simp only
          rw [← List.take_add, show 47 * i + 47 = 47 * (i + 1) by omega, Nat.add_assoc]
        rw [hstep]
        rcases ih (i + 1) (by omega) with ⟨h3, h4⟩ | h3
        · refine .inl ⟨h3, fun x h5 h6 => ?_⟩
          rcases Nat.eq_or_lt_of_le h5 with h7 | h7
          · rw [← h7]; exact hLi
          · exact h4 x h7 h6
        · exact .inr h3
      · refine .inr ⟨?_, i, by omega, fun e => ?_⟩
        · rw [readJ_cons, if_neg (by rw [h]; decide)]
        · rw [hLi] at e
          cases e
          rw [(accB_right (k := k) (r := r) (i := i) ht ht2 (by omega) hb).1] at h; cases h
theorem secsJ_length (t k : Nat) (R : List (List Nat)) : (secsJ t k R).length = (R.map fun r => pieces r.length).sum := by
  induction R generalizing k with
  | nil => rfl
  | cons r R ih => simp [secsJ, splitS_length, ih]
/-- What is told: a beginning of the records, each whole; all those whose sectors are there. -/
theorem read_begins {t : Nat} (ht : t ≠ 0) (ht2 : t < 4294967296) (R : List (List Nat)) : ∀ (k : Nat) (L : List (List Nat)), (∀ r ∈ R, ∀ x ∈ r, x < 256) → k + (secsJ t k R).length ≤ 4294967296 →
    (∀ (i : Nat) (b : List Nat), L[i]? = some b → (∃ s, (secsJ t k R)[i]? = some s ∧ b = secB s) ∨ accB t (k + i) b = false) →
    ∃ j, j ≤ R.length ∧ readJ t k [] L = R.take j ∧ ∀ c, c ≤ R.length → (∀ (i : Nat) (s : Sec), (secsJ t k (R.take c))[i]? = some s → L[i]? = some (secB s)) → c ≤ j := by
  induction R with
  | nil =>
    intro k L _ _ h
    refine ⟨0, Nat.le_refl _, ?_, fun c hc _ => hc⟩
    cases L with
    | nil => rfl
    | cons b L =>
      rcases h 0 b rfl with ⟨s, hs, _⟩ | h1
      · simp [secsJ] at hs
      · rw [readJ_cons, if_neg (by rw [Nat.add_zero] at h1; rw [h1]; decide)]; rfl
  | cons r R ih =>
    intro k L hb hk h
    have hn := pieces_pos r.length
    have hlen : (secsJ t k (r :: R)).length = pieces r.length + (secsJ t (k + pieces r.length) R).length := by simp [secsJ, splitS_length]
    have hget : ∀ i, i < pieces r.length → (secsJ t k (r :: R))[i]? = some (pieceS t k r i) := fun i hi => by
      show (splitS t k r ++ _)[i]? = _
      rw [List.getElem?_append_left (by rw [splitS_length]; exact hi), splitS_get hi]
    have hL : ∀ i b, i < pieces r.length → L[i]? = some b → b = secB (pieceS t k r i) ∨ accB t (k + i) b = false := fun i b hi hLi => by
      rcases h i b hLi with ⟨s, hs, hbs⟩ | h1
      · rw [hget i hi] at hs; cases hs; exact .inl hbs
      · exact .inr h1
    have h0 := read_from (L := L) ht ht2 (by omega) (hb r List.mem_cons_self) hL (pieces r.length - 1) 0 (by omega)
    rw [Nat.add_zero, Nat.mul_zero, List.take_zero, List.drop_zero] at h0
    rcases h0 with ⟨h1, h2⟩ | ⟨h1, x, hx, hxn⟩
    · obtain ⟨j, hj, hr, hc⟩ := ih (k + pieces r.length) (L.drop (pieces r.length)) (fun r' hr' => hb r' (List.mem_cons_of_mem _ hr')) (by omega) (fun i b hib => by
        rw [List.getElem?_drop] at hib
        rcases h _ b hib with ⟨s, hs, hbs⟩ | h3
        · refine .inl ⟨s, ?_, hbs⟩
          have e : (splitS t k r ++ secsJ t (k + pieces r.length) R)[pieces r.length + i]? = some s := hs
          rw [List.getElem?_append_right (by rw [splitS_length]; omega), splitS_length, show pieces r.length + i - pieces r.length = i by omega] at e
          exact e
        · exact .inr (by rw [Nat.add_assoc]; exact h3))
      refine ⟨j + 1, by simp; omega, by rw [h1, hr, List.take_succ_cons], fun c hcl hcr => ?_⟩
      cases c with
      | zero => omega
      | succ c =>
        have := hc c (by simp at hcl; omega) (fun i s hs => by
          rw [List.getElem?_drop]
          refine hcr (pieces r.length + i) s ?_
          rw [List.take_succ_cons]
          show (splitS t k r ++ secsJ t (k + pieces r.length) (R.take c))[pieces r.length + i]? = some s
          rw [List.getElem?_append_right (by rw [splitS_length]; omega), splitS_length, show pieces r.length + i - pieces r.length = i by omega]
          exact hs)
        omega
    · refine ⟨0, Nat.zero_le _, by rw [h1]; rfl, fun c hcl hcr => ?_⟩
      cases c with
      | zero => exact Nat.le_refl _
      | succ c =>
        refine absurd (hcr x (pieceS t k r x) ?_) hxn
        rw [List.take_succ_cons]
        show (splitS t k r ++ _)[x]? = _
        rw [List.getElem?_append_left (by rw [splitS_length]; exact hx), splitS_get hx]
theorem padB_whole {b : List Nat} (h : b.length = 64) : padB b = b := by unfold padB; rw [h]; simp
theorem crash_each (keep : Nat) (torn bytes : Int) (L : List (List Nat)) (off s : Nat) (A : List (List Nat)) (hA : ∀ b ∈ A, b.length = 64) (hL : Sect L) (j : Nat) (hj : j < L.length) (hoff : off + A.length ≤ L.length) :
    (∀ x y, off ≤ j → A[j - off]? = some x → L[j]? = some y → ∃ k, k ≤ 64 ∧ (crashed keep torn bytes L ((posW off A).zipIdx s))[j]? = some (x.take k ++ y.drop k)) ∧
    (j < off ∨ off + A.length ≤ j → (crashed keep torn bytes L ((posW off A).zipIdx s))[j]? = L[j]?) := by
  induction A generalizing L off s with
  | nil => exact ⟨fun x y _ h _ => by simp at h, fun _ => rfl⟩
  | cons b r ih =>
    have hb := hA b List.mem_cons_self
    have hlt : off < L.length := by rw [List.length_cons] at hoff; omega
    have hS : Sect (crash1 keep torn bytes L ((off, padB b), s)) := crash1_sect hL hlt (padB_length (Nat.le_of_eq hb))
    have hl : (crash1 keep torn bytes L ((off, padB b), s)).length = L.length := crash1_length _ _ _ _ _
    have h := ih (crash1 keep torn bytes L ((off, padB b), s)) (off + 1) (s + 1) (fun c hc => hA c (List.mem_cons_of_mem _ hc)) hS (by rw [hl]; exact hj) (by rw [hl]; rw [List.length_cons] at hoff; omega)
    have hgo : crashed keep torn bytes L ((posW off (b :: r)).zipIdx s) = crashed keep torn bytes (crash1 keep torn bytes L ((off, padB b), s)) ((posW (off + 1) r).zipIdx (s + 1)) := rfl
    rw [hgo]
    refine ⟨fun x y h1 h2 h3 => ?_, fun h1 => ?_⟩
    · by_cases e : off = j
      · subst e
        rw [Nat.sub_self] at h2
        cases h2
        rw [h.2 (.inl (by omega))]
        have hy := hL.get h3
        unfold crash1
        by_cases hk : kept keep s = true
        · simp only
          rw [if_pos hk, List.getElem?_set_self hlt, padB_whole hb]
          have hd : L.getD off [] = y := by simp [List.getD, h3]
          rw [hd]
          by_cases ht : (s : Int) = torn
          · rw [if_pos ht]; exact ⟨tornN bytes, tornN_le bytes, rfl⟩
          · rw [if_neg ht]; exact ⟨64, Nat.le_refl _, rfl⟩
        · simp only
          rw [if_neg hk, h3]
          exact ⟨0, Nat.zero_le _, rfl⟩
      · refine h.1 x y (by omega) ?_ ?_
        · rw [← h2, show j - off = (j - (off + 1)) + 1 by omega, List.getElem?_cons_succ]
        · rw [crash1_other (by exact e)]; exact h3
    · rw [List.length_cons] at h1
      rw [h.2 (by omega), crash1_other (by show off ≠ j; omega)]
/-- a sector's bytes over what lay there: the sector's, or none of this turn and place -/
theorem mix_ok {t i k : Nat} {s : Sec} {y : List Nat} (hs : s.Ok) (hy : y.length = 64) (hyb : ∀ x ∈ y, x < 256) (hye : y.take 8 = y.drop 56) (hne : (secB s).take 8 ≠ y.take 8) (hacc : accB t i y = false) (hk : k ≤ 64) :
    (secB s).take k ++ y.drop k = secB s ∨ accB t i ((secB s).take k ++ y.drop k) = false := by
  rcases unpack_torn (secB_length hs.2.1) hy (secB_small hs) hyb hk (by rw [secB_take, secB_drop hs.2.1]) hye hne with h | h | h
  · exact .inl h
  · exact .inr (by rw [h]; exact hacc)
  · exact .inr (by unfold accB; rw [h]; rfl)
/-- what lay there is no sector of this turn -/
structure OldAt (t : Nat) (y : List Nat) : Prop where
  len : y.length = 64
  small : ∀ x ∈ y, x < 256
  ends : y.take 8 = y.drop 56
  other : ∀ i, accB t i y = false
  stamp : ∀ p, stampB t p ≠ y.take 8
theorem old_zero {t : Nat} (ht : t ≠ 0) (ht2 : t < 4294967296) : OldAt t (List.replicate 64 0) :=
  ⟨by simp, fun x hx => by rw [(List.mem_replicate.1 hx).2]; omega, rfl, fun i => by unfold accB; rw [unpackE_zero]; rfl, fun p h => ht (numB_zero (zeroL_iff.2 fun x hx => by
    have h1 : x ∈ stampB t p := by unfold stampB; exact List.mem_append_left _ hx
    rw [h] at h1
    exact (List.mem_replicate.1 (List.mem_of_mem_take h1)).2) ht2)⟩
theorem old_other {t : Nat} {s : Sec} (hs : s.Ok) (ht2 : t < 4294967296) (hne : s.turn ≠ t) : OldAt t (secB s) :=
  ⟨secB_length hs.2.1, secB_small hs, by rw [secB_take, secB_drop hs.2.1], fun i => by unfold accB; rw [unpackS_secB hs, decide_eq_false hne]; simp, fun p h => by
    rw [secB_take] at h
    have h1 := congrArg (fun l => valB (l.take 4)) h
    simp only [stampB, List.take_left' (numB_length _ 4)] at h1
    rw [valB_numB (by omega), valB_numB (by have := hs.2.2.1; omega)] at h1
    exact hne h1.symm⟩
/-- behind a crash each of a journal's sectors is the right one, or none of its turn -/
theorem crash_right {t frm n a keep : Nat} {torn bytes : Int} {L : List (List Nat)} {E : List Sec} (hE : ∀ s ∈ E, s.Ok ∧ s.turn = t) (hL : Sect L) (hfn : frm + n ≤ L.length) (hEn : E.length ≤ n) (ha : a ≤ E.length)
    (hdone : ∀ i s, i < a → E[i]? = some s → L[frm + i]? = some (secB s)) (hold : ∀ i y, a ≤ i → i < n → L[frm + i]? = some y → OldAt t y) :
    ∀ i b, i < n → (crashed keep torn bytes L ((posW (frm + a) ((E.drop a).map secB)).zipIdx))[frm + i]? = some b → (∃ s, E[i]? = some s ∧ b = secB s) ∨ accB t i b = false := by
  intro i b hi hb
  have hA : ∀ x ∈ (E.drop a).map secB, x.length = 64 := fun x hx => by
    obtain ⟨s, hs, rfl⟩ := List.mem_map.1 hx
    exact secB_length (hE s (List.mem_of_mem_drop hs)).1.2.1
  have hlen : ((E.drop a).map secB).length = E.length - a := by rw [List.length_map, List.length_drop]
  obtain ⟨h1, h2⟩ := crash_each keep torn bytes L (frm + a) 0 ((E.drop a).map secB) hA hL (frm + i) (by omega) (by rw [hlen]; omega)
  have hfi : frm + i < L.length := by omega
  obtain ⟨y, hy⟩ : ∃ y, L[frm + i]? = some y := ⟨L[frm + i], List.getElem?_eq_getElem hfi⟩
  by_cases hia : i < a
  · have h3 := h2 (.inl (by omega))
    obtain ⟨s, hs⟩ : ∃ s, E[i]? = some s := ⟨E[i]'(by omega), List.getElem?_eq_getElem _⟩
    rw [h3, hdone i s hia hs] at hb
    cases hb
    exact .inl ⟨s, hs, rfl⟩
  · by_cases hie : i < E.length
    · obtain ⟨s, hs⟩ : ∃ s, E[i]? = some s := ⟨E[i], List.getElem?_eq_getElem hie⟩
      obtain ⟨k, hk, h3⟩ := h1 (secB s) y (by omega) (by rw [show frm + i - (frm + a) = i - a by omega, List.getElem?_map, List.getElem?_drop, show a + (i - a) = i by omega, hs]; rfl) hy
      rw [h3] at hb
      cases hb
      have ho := hold i y (by omega) hi hy
      obtain ⟨hok, hst⟩ := hE s (List.mem_of_getElem? hs)
      rcases mix_ok (t := t) (i := i) hok ho.len ho.small ho.ends (by rw [secB_take, hst]; exact ho.stamp _) (ho.other i) hk with h | h
      · exact .inl ⟨s, hs, h⟩
      · exact .inr h
    · rw [h2 (.inr (by rw [hlen]; omega)), hy] at hb
      cases hb
      exact .inr ((hold i b (by omega) hi hy).other i)
theorem secsJ_ok {t : Nat} (ht : t ≠ 0) (ht2 : t < 4294967296) (R : List (List Nat)) : ∀ k, (∀ r ∈ R, ∀ x ∈ r, x < 256) → k + (secsJ t k R).length ≤ 4294967295 → ∀ s ∈ secsJ t k R, s.Ok ∧ s.turn = t := by
  induction R with
  | nil => intro k _ _ s hs; simp [secsJ] at hs
  | cons r R ih =>
    intro k hb hk s hs
    have hlen : (secsJ t k (r :: R)).length = pieces r.length + (secsJ t (k + pieces r.length) R).length := by simp [secsJ, splitS_length]
    rcases List.mem_append.1 (show s ∈ splitS t k r ++ secsJ t (k + pieces r.length) R from hs) with h | h
    · unfold splitS at h
      obtain ⟨i, hi, rfl⟩ := List.mem_map.1 h
      have := List.mem_range.1 hi
      exact ⟨pieceS_ok ht ht2 (by omega) (hb r List.mem_cons_self), rfl⟩
    · exact ih (k + pieces r.length) (fun r' hr' => hb r' (List.mem_cons_of_mem _ hr')) (by omega) s h
theorem secsJ_take (t k : Nat) (R : List (List Nat)) (c : Nat) : ∀ (i : Nat) (s : Sec), (secsJ t k (R.take c))[i]? = some s → (secsJ t k R)[i]? = some s := by
  induction R generalizing k c with
  | nil => intro i s h; simp [secsJ] at h
  | cons r R ih =>
    intro i s h
    cases c with
    | zero => simp [secsJ] at h
    | succ c =>
      rw [List.take_succ_cons] at h
      have h : (splitS t k r ++ secsJ t (k + pieces r.length) (R.take c))[i]? = some s := h
      show (splitS t k r ++ secsJ t (k + pieces r.length) R)[i]? = some s
      by_cases hi : i < (splitS t k r).length
      · rw [List.getElem?_append_left hi] at h ⊢; exact h
      · rw [List.getElem?_append_right (by omega)] at h ⊢; exact ih _ _ _ _ h
/-- WHAT WAS COMMITTED IS KEPT: behind a crash the first c records are told, and of the others a beginning, each whole. -/
theorem read_crash {t frm n c keep : Nat} {torn bytes : Int} {L : List (List Nat)} {R : List (List Nat)} (ht : t ≠ 0) (ht2 : t < 4294967296) (hb : ∀ r ∈ R, ∀ x ∈ r, x < 256) (hL : Sect L) (hfn : frm + n ≤ L.length) (hn : n ≤ 8192) (hEn : (secsJ t 0 R).length ≤ n) (hc : c ≤ R.length)
    (ha : (secsJ t 0 (R.take c)).length ≤ (secsJ t 0 R).length)
    (hdone : ∀ i s, i < (secsJ t 0 (R.take c)).length → (secsJ t 0 R)[i]? = some s → L[frm + i]? = some (secB s)) (hold : ∀ i y, (secsJ t 0 (R.take c)).length ≤ i → i < n → L[frm + i]? = some y → OldAt t y) :
    ∃ j, c ≤ j ∧ j ≤ R.length ∧ readJ t 0 [] (((crashed keep torn bytes L ((posW (frm + (secsJ t 0 (R.take c)).length) (((secsJ t 0 R).drop (secsJ t 0 (R.take c)).length).map secB)).zipIdx)).drop frm).take n) = R.take j := by
  have hE := secsJ_ok ht ht2 R 0 hb (by omega)
  have hr := crash_right (keep := keep) (torn := torn) (bytes := bytes) hE hL hfn hEn ha hdone hold
  have hget : ∀ i, i < n → (((crashed keep torn bytes L ((posW (frm + (secsJ t 0 (R.take c)).length) (((secsJ t 0 R).drop (secsJ t 0 (R.take c)).length).map secB)).zipIdx)).drop frm).take n)[i]? = (crashed keep torn bytes L ((posW (frm + (secsJ t 0 (R.take c)).length) (((secsJ t 0 R).drop (secsJ t 0 (R.take c)).length).map secB)).zipIdx))[frm + i]? := fun i hi => by
    rw [List.getElem?_take_of_lt hi, List.getElem?_drop]
  obtain ⟨j, hj, hrd, hcc⟩ := read_begins ht ht2 R 0 (((crashed keep torn bytes L ((posW (frm + (secsJ t 0 (R.take c)).length) (((secsJ t 0 R).drop (secsJ t 0 (R.take c)).length).map secB)).zipIdx)).drop frm).take n) hb (by omega) (fun i b hi => by
    have hin : i < n := by have := (List.getElem?_eq_some_iff.1 hi).1; rw [List.length_take] at this; omega
    rw [hget i hin] at hi
    rw [Nat.zero_add]
    exact hr i b hin hi)
  refine ⟨j, hcc c hc (fun i s hs => ?_), hj, hrd⟩
  have hi : i < (secsJ t 0 (R.take c)).length := (List.getElem?_eq_some_iff.1 hs).1
  rw [hget i (by omega)]
  have hA : ∀ x ∈ ((secsJ t 0 R).drop (secsJ t 0 (R.take c)).length).map secB, x.length = 64 := fun x hx => by
    obtain ⟨s, hs, rfl⟩ := List.mem_map.1 hx
    exact secB_length (hE s (List.mem_of_mem_drop hs)).1.2.1
  rw [(crash_each keep torn bytes L (frm + (secsJ t 0 (R.take c)).length) 0 _ hA hL (frm + i) (by omega) (by rw [List.length_map, List.length_drop]; omega)).2 (.inl (by omega))]
  exact hdone i s hi (secsJ_take t 0 R c i s hs)
def SmallL (L : List (List Nat)) : Prop := ∀ s ∈ L, ∀ x ∈ s, x < 256
structure SmallD (d : Dev) : Prop where
  lies : SmallL d.lies
  waits : ∀ y ∈ d.waits, ∀ x ∈ y.2, x < 256
theorem SmallL.set {L : List (List Nat)} (h : SmallL L) {i : Nat} {b : List Nat} (hb : ∀ x ∈ b, x < 256) : SmallL (L.set i b) := fun s hs => by
  rcases List.mem_or_eq_of_mem_set hs with h1 | h1
  · exact h s h1
  · rw [h1]; exact hb
theorem SmallL.laid {L : List (List Nat)} (h : SmallL L) {ws : List (Nat × List Nat)} (hw : ∀ y ∈ ws, ∀ x ∈ y.2, x < 256) : SmallL (laid L ws) := by
  unfold Go.Proofs.YtngeilhdambgfaaDoor.laid
  induction ws generalizing L with
  | nil => exact h
  | cons y r ih => rw [List.foldl_cons]; exact ih (h.set (hw y List.mem_cons_self)) (fun z hz => hw z (List.mem_cons_of_mem _ hz))
theorem SmallL.crash1 {L : List (List Nat)} (h : SmallL L) (keep : Nat) (torn bytes : Int) {x : (Nat × List Nat) × Nat} (hx : ∀ y ∈ x.1.2, y < 256) : SmallL (crash1 keep torn bytes L x) := by
  unfold Go.Proofs.YtngeilhdambgfaaDoor.crash1
  split
  · refine h.set fun y hy => ?_
    rcases List.mem_append.1 hy with h1 | h1
    · exact hx y (List.mem_of_mem_take h1)
    · have h2 := List.mem_of_mem_drop h1
      by_cases hi : x.1.1 < L.length
      · rw [List.getD, List.getElem?_eq_getElem hi] at h2
        exact h _ (List.getElem_mem hi) y h2
      · rw [List.getD, List.getElem?_eq_none (by omega)] at h2
        simp at h2
  · exact h
theorem SmallL.crashed {L : List (List Nat)} (h : SmallL L) (keep : Nat) (torn bytes : Int) {ws : List ((Nat × List Nat) × Nat)} (hw : ∀ y ∈ ws, ∀ x ∈ y.1.2, x < 256) : SmallL (crashed keep torn bytes L ws) := by
  unfold Go.Proofs.YtngeilhdambgfaaDoor.crashed
  induction ws generalizing L with
  | nil => exact h
  | cons y r ih => rw [List.foldl_cons]; exact ih (h.crash1 keep torn bytes (hw y List.mem_cons_self)) (fun z hz => hw z (List.mem_cons_of_mem _ hz))
theorem padB_small {b : List Nat} (h : ∀ x ∈ b, x < 256) : ∀ x ∈ padB b, x < 256 := fun x hx => by
  unfold padB at hx
  rcases List.mem_append.1 hx with h1 | h1
  · exact h x h1
  · have := List.mem_replicate.1 h1; omega
theorem posW_small {A : List (List Nat)} (h : SmallL A) : ∀ off, ∀ y ∈ posW off A, ∀ x ∈ y.2, x < 256 := by
  induction A with
  | nil => intro off y hy; simp [posW] at hy
  | cons b r ih =>
    intro off y hy
    rcases List.mem_cons.1 hy with h1 | h1
    · rw [h1]; exact padB_small (h b List.mem_cons_self)
    · exact ih (fun s hs => h s (List.mem_cons_of_mem _ hs)) (off + 1) y h1
theorem SmallD.fresh (n : Nat) : SmallD (Dev.fresh n) := ⟨fun s hs x hx => by
  rw [(List.mem_replicate.1 hs).2] at hx
  have := List.mem_replicate.1 hx; omega, fun y hy => by simp [Dev.fresh] at hy⟩
theorem SmallD.writes {d : Dev} (h : SmallD d) {A : List (List Nat)} (hA : SmallL A) (off : Nat) : SmallD (d.writes off A) := ⟨h.lies, fun y hy => by
  rcases List.mem_append.1 hy with h1 | h1
  · exact h.waits y h1
  · exact posW_small hA off y h1⟩
theorem SmallD.told {d : Dev} (h : SmallD d) : SmallL d.told := h.lies.laid h.waits
theorem SmallD.flush {d : Dev} (h : SmallD d) : SmallD d.flush := ⟨h.told, fun y hy => by simp [Dev.flush] at hy⟩
theorem SmallD.crash {d : Dev} (h : SmallD d) (keep : Nat) (torn bytes : Int) : SmallD (d.crash keep torn bytes) := ⟨h.lies.crashed keep torn bytes (fun y hy => h.waits y.1 (by rw [(List.mem_zipIdx hy).2.2]; exact List.getElem_mem _)), fun y hy => by simp [Dev.crash] at hy⟩
theorem SmallD.up {d : Dev} (h : SmallD d) : SmallD d.up := ⟨h.lies, h.waits⟩
theorem SmallL.nils (n : Nat) : SmallL (List.replicate n []) := fun s hs x hx => by rw [(List.mem_replicate.1 hs).2] at hx; simp at hx
def usedJ (R : List (List Nat)) : Nat := (R.map fun r => pieces r.length).sum
theorem usedJ_nil : usedJ [] = 0 := rfl
theorem usedJ_append (R S : List (List Nat)) : usedJ (R ++ S) = usedJ R + usedJ S := by simp [usedJ]
theorem usedJ_one (r : List Nat) : usedJ [r] = pieces r.length := by simp [usedJ]
theorem usedJ_secs (t k : Nat) (R : List (List Nat)) : (secsJ t k R).length = usedJ R := secsJ_length t k R
theorem usedJ_take (R : List (List Nat)) (c : Nat) : usedJ (R.take c) ≤ usedJ R := by
  conv => rhs; rw [← List.take_append_drop c R, usedJ_append]
  omega
theorem usedJ_pos {R : List (List Nat)} (h : R ≠ []) : 1 ≤ usedJ R := by
  cases R with
  | nil => exact absurd rfl h
  | cons r R => have := pieces_pos r.length; simp [usedJ]; omega
theorem secsJ_append (t : Nat) (R S : List (List Nat)) : ∀ k, secsJ t k (R ++ S) = secsJ t k R ++ secsJ t (k + usedJ R) S := by
  induction R with
  | nil => intro k; rfl
  | cons r R ih =>
    intro k
    show splitS t k r ++ secsJ t (k + pieces r.length) (R ++ S) = (splitS t k r ++ secsJ t (k + pieces r.length) R) ++ _
    rw [ih, List.append_assoc, show usedJ (r :: R) = pieces r.length + usedJ R by simp [usedJ], Nat.add_assoc]
theorem secsJ_one (t k : Nat) (r : List Nat) : secsJ t k [r] = splitS t k r := by simp [secsJ]
theorem posW_append (off : Nat) (A B : List (List Nat)) : posW off (A ++ B) = posW off A ++ posW (off + A.length) B := by
  induction A generalizing off with
  | nil => rfl
  | cons c r ih => simp only [List.cons_append, posW, ih, List.length_cons]; rw [show off + 1 + r.length = off + (r.length + 1) by omega]
/-- t: its turn; from frm, n sectors; its records, the first c of them committed; z: 0 lay there -/
structure JKeep (z : Bool) (t frm n : Nat) (R : List (List Nat)) (c : Nat) (d : Dev) : Prop where
  turn : t ≠ 0 ∧ t < 4294967296
  small : ∀ r ∈ R, ∀ x ∈ r, x < 256
  fit : usedJ R ≤ n
  cl : c ≤ R.length
  up : d.down = false
  calm : d.after = 0
  range : frm + n ≤ d.lies.length
  waits : d.waits = posW (frm + usedJ (R.take c)) (((secsJ t 0 R).drop (usedJ (R.take c))).map secB)
  done : ∀ i s, i < usedJ (R.take c) → (secsJ t 0 R)[i]? = some s → d.lies[frm + i]? = some (secB s)
  old : ∀ i y, usedJ (R.take c) ≤ i → i < n → d.lies[frm + i]? = some y → OldAt t y ∧ (z = true → y = List.replicate 64 0)
section
variable {z : Bool} {t frm n c : Nat} {R : List (List Nat)} {d : Dev}
theorem JKeep.room (h : JKeep z t frm n R c d) (hok : d.Ok) : n ≤ 8192 := by have := h.range; have := hok.size; omega
theorem JKeep.secs (h : JKeep z t frm n R c d) (hok : d.Ok) : ∀ s ∈ secsJ t 0 R, s.Ok ∧ s.turn = t := secsJ_ok h.turn.1 h.turn.2 R 0 h.small (by have := h.fit; have := h.room hok; rw [usedJ_secs]; omega)
/-- nothing written yet -/
theorem JKeep.new (ht : t ≠ 0 ∧ t < 4294967296) (hup : d.down = false) (hc : d.after = 0) (hr : frm + n ≤ d.lies.length) (hw : d.waits = []) (hold : ∀ i y, i < n → d.lies[frm + i]? = some y → OldAt t y ∧ (z = true → y = List.replicate 64 0)) : JKeep z t frm n [] 0 d :=
  ⟨ht, fun r h => by simp at h, Nat.zero_le _, Nat.le_refl _, hup, hc, hr, by rw [hw]; rfl, fun i s h _ => by simp [usedJ] at h, fun i y _ h1 h2 => hold i y h1 h2⟩
/-- of a wiped device -/
theorem JKeep.zero (ht : t ≠ 0 ∧ t < 4294967296) (hup : d.down = false) (hc : d.after = 0) (hr : frm + n ≤ d.lies.length) (hw : d.waits = []) (hold : ∀ i y, i < n → d.lies[frm + i]? = some y → y = List.replicate 64 0) : JKeep z t frm n [] 0 d :=
  JKeep.new ht hup hc hr hw fun i y h1 h2 => by rw [hold i y h1 h2]; exact ⟨old_zero ht.1 ht.2, fun _ => rfl⟩
/-- a record more, written -/
theorem JKeep.write (h : JKeep z t frm n R c d) {r : List Nat} (hr : ∀ x ∈ r, x < 256) (hf : usedJ R + pieces r.length ≤ n) : JKeep z t frm n (R ++ [r]) c (d.writes (frm + usedJ R) ((splitS t (usedJ R) r).map secB)) := by
  have hE : secsJ t 0 (R ++ [r]) = secsJ t 0 R ++ splitS t (usedJ R) r := by rw [secsJ_append, secsJ_one, Nat.zero_add]
  have ht : (R ++ [r]).take c = R.take c := by rw [List.take_append_of_le_length h.cl]
  have hl := usedJ_secs t 0 R
  have ha := usedJ_take R c
  refine ⟨h.turn, fun x hx => ?_, by rw [usedJ_append, usedJ_one]; exact hf, by rw [List.length_append]; have := h.cl; omega, h.up, h.calm, h.range, ?_, fun i s hi hs => ?_, fun i y hi => ?_⟩
  · rcases List.mem_append.1 hx with h1 | h1
    · exact h.small x h1
    · rw [List.mem_singleton.1 h1]; exact hr
  · rw [ht, hE, List.drop_append_of_le_length (by omega), List.map_append, posW_append]
    show d.waits ++ _ = _
    rw [h.waits]
    congr 2
    rw [List.length_map, List.length_drop]
    omega
  · rw [ht] at hi
    rw [hE, List.getElem?_append_left (by omega)] at hs
    exact h.done i s hi hs
  · rw [ht] at hi
    exact h.old i y hi
theorem JKeep.told_at (h : JKeep z t frm n R c d) (hok : d.Ok) (i : Nat) (hi : i < n) : d.told[frm + i]? = if i < usedJ R then ((secsJ t 0 R)[i]?).map secB else d.lies[frm + i]? := by
  have hl := usedJ_secs t 0 R
  have ha := usedJ_take R c
  have hr := h.range
  unfold Dev.told
  rw [h.waits, laid_pos _ _ _ _ (by omega), List.length_map, List.length_drop]
  by_cases h1 : i < usedJ (R.take c)
  · rw [if_neg (by omega), if_pos (by omega)]
    obtain ⟨s, hs⟩ : ∃ s, (secsJ t 0 R)[i]? = some s := ⟨_, List.getElem?_eq_getElem (by omega)⟩
    rw [h.done i s h1 hs, hs]; rfl
  · by_cases h2 : i < usedJ R
    · rw [if_pos (by omega), if_pos h2, List.getElem?_map, List.getElem?_drop, show usedJ (R.take c) + (frm + i - (frm + usedJ (R.take c))) = i by omega]
      obtain ⟨s, hs⟩ : ∃ s, (secsJ t 0 R)[i]? = some s := ⟨_, List.getElem?_eq_getElem (by omega)⟩
      rw [hs]
      show some (padB (secB s)) = some (secB s)
      rw [padB_whole (secB_length (h.secs hok s (List.mem_of_getElem? hs)).1.2.1)]
    · rw [if_neg (by omega), if_neg h2]
/-- flushed -/
theorem JKeep.flush (h : JKeep z t frm n R c d) (hok : d.Ok) : JKeep z t frm n R R.length d.flush := by
  have hl := usedJ_secs t 0 R
  have ha := usedJ_take R c
  have hf := h.fit
  have hT : R.take R.length = R := List.take_length
  refine ⟨h.turn, h.small, h.fit, Nat.le_refl _, h.up, h.calm, by show _ ≤ d.told.length; rw [d.told_length]; exact h.range, ?_, fun i s hi hs => ?_, fun i y hi hin hy => ?_⟩
  · rw [hT, List.drop_of_length_le (by omega)]; rfl
  · rw [hT] at hi
    show d.told[frm + i]? = _
    rw [h.told_at hok i (by omega), if_pos hi, hs]; rfl
  · rw [hT] at hi
    have hy : d.told[frm + i]? = some y := hy
    rw [h.told_at hok i hin, if_neg (by omega)] at hy
    exact h.old i y (by omega) hin hy
/-- the turn of the first sector -/
def turn0 (L : List (List Nat)) : Nat := (stOf (L.getD 0 [])).turn
/-- what Read tells of these sectors -/
def readsJ (L : List (List Nat)) : List (List Nat) := readJ (turn0 L) 0 [] L
theorem accB_zero (k : Nat) (b : List Nat) : accB 0 k b = false := by
  unfold accB
  by_cases h : unpackE b = 0
  · have h1 : (stOf b).turn ≠ 0 := by
      unfold stOf
      rw [if_pos h]
      intro h2
      have h2 : (stampOf b).1 = 0 := h2
      unfold unpackE at h
      split at h
      · cases h
      · split at h
        · cases h
        · split at h
          · cases h
          · split at h
            · cases h
            · rw [if_pos (.inl h2)] at h; cases h
    rw [decide_eq_false h1]; simp
  · rw [decide_eq_false h]; rfl
theorem readJ_zero (acc : List Nat) (L : List (List Nat)) (k : Nat) : readJ 0 k acc L = [] := by
  cases L with
  | nil => rfl
  | cons b L => rw [readJ_cons, if_neg (by rw [accB_zero]; decide)]
theorem reads_turn {L : List (List Nat)} (h : readJ t 0 [] L ≠ []) : turn0 L = t := by
  cases L with
  | nil => exact absurd rfl h
  | cons b L =>
    rw [readJ_cons] at h
    by_cases h1 : accB t 0 b = true
    · unfold accB at h1
      simp only [Bool.and_eq_true, decide_eq_true_eq] at h1
      exact h1.1.2
    · rw [if_neg h1] at h; exact absurd rfl h
theorem reads_same {L : List (List Nat)} (h : readJ t 0 [] L ≠ [] ∨ turn0 L = t ∨ turn0 L = 0) : readsJ L = readJ t 0 [] L := by
  unfold readsJ
  rcases h with h | h | h
  · rw [reads_turn h]
  · rw [h]
  · rw [h, readJ_zero]
    cases e : readJ t 0 [] L with
    | nil => rfl
    | cons a l =>
      have h2 := reads_turn (t := t) (L := L) (by rw [e]; simp)
      rw [h] at h2
      rw [← h2, readJ_zero] at e; cases e
theorem part_get {L : List (List Nat)} {i : Nat} (hi : i < n) : ((L.drop frm).take n)[i]? = L[frm + i]? := by rw [List.getElem?_take_of_lt hi, List.getElem?_drop]
theorem part_turn {L : List (List Nat)} {b : List Nat} (hn : 0 < n) (h : L[frm]? = some b) : turn0 ((L.drop frm).take n) = (stOf b).turn := by
  unfold turn0
  rw [List.getD, part_get hn, Nat.add_zero, h]; rfl
/-- told of a device with nothing of it lost -/
theorem JKeep.tells (h : JKeep z t frm n R c d) (hok : d.Ok) : readJ t 0 [] ((d.told.drop frm).take n) = R := by
  have hl := usedJ_secs t 0 R
  have hf := h.fit
  have hroom := h.room hok
  have hp : ∀ i, i < n → ((d.told.drop frm).take n)[i]? = d.told[frm + i]? := fun i hi => part_get hi
  obtain ⟨j, hj, hrd, hc⟩ := read_begins h.turn.1 h.turn.2 R 0 ((d.told.drop frm).take n) h.small (by omega) (fun i b hi => by
    have hin : i < n := by have := (List.getElem?_eq_some_iff.1 hi).1; rw [List.length_take] at this; omega
    rw [hp i hin, h.told_at hok i hin] at hi
    by_cases h1 : i < usedJ R
    · rw [if_pos h1] at hi
      obtain ⟨s, hs⟩ : ∃ s, (secsJ t 0 R)[i]? = some s := ⟨_, List.getElem?_eq_getElem (by omega)⟩
      rw [hs] at hi
      cases hi
      exact .inl ⟨s, hs, rfl⟩
    · rw [if_neg h1] at hi
      have ha := usedJ_take R c
      exact .inr (((h.old i b (by omega) hin hi).1).other _))
  have hjR : R.length ≤ j := hc R.length (Nat.le_refl _) (fun i s hs => by
    rw [List.take_length] at hs
    have hi : i < usedJ R := by have := (List.getElem?_eq_some_iff.1 hs).1; omega
    rw [hp i (by omega), h.told_at hok i (by omega), if_pos hi, hs]; rfl)
  rw [hrd, List.take_of_length_le hjR]
theorem JKeep.first (h : JKeep z t frm n R c d) (hok : d.Ok) (hz : z = true) (hn : 0 < n) : turn0 ((d.told.drop frm).take n) = if R = [] then 0 else t := by
  by_cases h1 : R = []
  · rw [if_pos h1]
    obtain ⟨y, hy⟩ : ∃ y, d.lies[frm]? = some y := ⟨_, List.getElem?_eq_getElem (by have := h.range; omega)⟩
    have hT := h.told_at hok 0 hn
    rw [if_neg (by rw [h1]; simp [usedJ]), Nat.add_zero, hy] at hT
    rw [part_turn hn hT, (h.old 0 y (by rw [h1]; simp [usedJ]) hn hy).2 hz]
    unfold stOf
    rw [unpackE_zero]; rfl
  · rw [if_neg h1]
    exact reads_turn (by rw [h.tells hok]; exact h1)
theorem JKeep.reads (h : JKeep z t frm n R c d) (hok : d.Ok) (hz : z = true) (hn : 0 < n) : readsJ ((d.told.drop frm).take n) = R := by
  rw [reads_same, h.tells hok]
  rw [h.first hok hz hn]
  split
  · exact .inr (.inr rfl)
  · exact .inr (.inl rfl)
/-- behind a crash: the records that were committed, and a beginning of the others -/
theorem JKeep.crash (h : JKeep z t frm n R c d) (hok : d.Ok) (keep : Nat) (torn bytes : Int) (hn : 0 < n) (hz : z = true ∨ 0 < c) :
    ∃ j, c ≤ j ∧ j ≤ R.length ∧ readsJ ((((d.crash keep torn bytes).up.told).drop frm).take n) = R.take j ∧ (0 < c → turn0 ((((d.crash keep torn bytes).up.told).drop frm).take n) = t) := by
  have hT : (d.crash keep torn bytes).up.told = crashed keep torn bytes d.lies ((posW (frm + usedJ (R.take c)) (((secsJ t 0 R).drop (usedJ (R.take c))).map secB)).zipIdx) := by
    show laid (crashed keep torn bytes d.lies d.waits.zipIdx) [] = _
    rw [h.waits]; rfl
  have hl := usedJ_secs t 0 R
  have ha := usedJ_take R c
  have hlc := usedJ_secs t 0 (R.take c)
  have hf := h.fit
  have hr := h.range
  obtain ⟨j, h1, h2, h3⟩ := read_crash (t := t) (frm := frm) (n := n) (c := c) (keep := keep) (torn := torn) (bytes := bytes) (L := d.lies) (R := R) h.turn.1 h.turn.2 h.small hok.sect h.range (h.room hok) (by omega) h.cl (by omega)
    (by rw [hlc]; exact h.done) (by rw [hlc]; exact fun i y hi hin hy => (h.old i y hi hin hy).1)
  rw [hlc] at h3
  rw [← hT] at h3
  have hne : 0 < c → R.take j ≠ [] := fun hc e => by
    have h5 := congrArg List.length e
    rw [List.length_take, List.length_nil] at h5
    have := h.cl
    omega
  refine ⟨j, h1, h2, ?_, fun hc => reads_turn (by rw [h3]; exact hne hc)⟩
  rw [reads_same, h3]
  rw [h3]
  by_cases hc : 0 < c
  · exact .inl (hne hc)
  right
  have hzt : z = true := hz.resolve_right hc
  have hc0 : c = 0 := by omega
  subst hc0
  have h0 : usedJ (R.take 0) = 0 := by simp [usedJ]
  obtain ⟨y, hy⟩ : ∃ y, d.lies[frm]? = some y := ⟨_, List.getElem?_eq_getElem (by omega)⟩
  have hyz := (h.old 0 y (by omega) hn (by rw [Nat.add_zero]; exact hy)).2 hzt
  subst hyz
  have hA : ∀ x ∈ (secsJ t 0 R).map secB, x.length = 64 := fun x hx => by
    obtain ⟨s, hs, rfl⟩ := List.mem_map.1 hx
    exact secB_length (h.secs hok s hs).1.2.1
  rw [h0, List.drop_zero, Nat.add_zero] at hT
  obtain ⟨e1, e2⟩ := crash_each keep torn bytes d.lies frm 0 ((secsJ t 0 R).map secB) hA hok.sect frm (by omega) (by rw [List.length_map]; omega)
  have t0 : (stOf (List.replicate 64 0)).turn = 0 := by unfold stOf; rw [unpackE_zero]; rfl
  by_cases hR : 0 < usedJ R
  · obtain ⟨s, hs⟩ : ∃ s, (secsJ t 0 R)[0]? = some s := ⟨_, List.getElem?_eq_getElem (by omega)⟩
    have hsO := h.secs hok s (List.mem_of_getElem? hs)
    obtain ⟨k, hk, e3⟩ := e1 (secB s) (List.replicate 64 0) (Nat.le_refl _) (by rw [Nat.sub_self, List.getElem?_map, hs]; rfl) hy
    rw [← hT] at e3
    rw [part_turn hn e3]
    have ho := old_zero h.turn.1 h.turn.2
    rcases unpack_torn (secB_length hsO.1.2.1) ho.len (secB_small hsO.1) ho.small hk (by rw [secB_take, secB_drop hsO.1.2.1]) ho.ends (by rw [secB_take, hsO.2]; exact ho.stamp _) with e4 | e4 | e4
    · rw [e4, unpackS_secB hsO.1]; exact .inl hsO.2
    · rw [e4]; exact .inr t0
    · refine .inr ?_
      unfold stOf
      rw [if_neg (by rw [e4]; decide)]; rfl
  · have e3 := e2 (.inr (by rw [List.length_map]; omega))
    rw [← hT, hy] at e3
    rw [part_turn hn e3]
    exact .inr t0
theorem crashed_none (torn bytes : Int) (L : List (List Nat)) (ws : List ((Nat × List Nat) × Nat)) : crashed 0 torn bytes L ws = L := by
  unfold crashed
  induction ws generalizing L with
  | nil => rfl
  | cons x r ih =>
    rw [List.foldl_cons, show crash1 0 torn bytes L x = L from if_neg (by simp [kept])]
    exact ih L
/-- where nothing is kept -/
theorem JKeep.lost (h : JKeep z t frm n R c d) (torn bytes : Int) : JKeep z t frm n (R.take c) c (d.crash 0 torn bytes).up := by
  have hT : (R.take c).take c = R.take c := by rw [List.take_take, Nat.min_self]
  have hl := usedJ_secs t 0 (R.take c)
  have hL : (d.crash 0 torn bytes).up.lies = d.lies := crashed_none _ _ _ _
  have hE := secsJ_append t (R.take c) (R.drop c) 0
  rw [List.take_append_drop] at hE
  refine ⟨h.turn, fun r hr => h.small r (List.mem_of_mem_take hr), Nat.le_trans (usedJ_take R c) h.fit, by rw [List.length_take]; have := h.cl; omega, rfl, rfl, by rw [hL]; exact h.range, ?_, fun i s hi hs => ?_, fun i y hi hin hy => ?_⟩
  · rw [hT, List.drop_of_length_le (by omega)]; rfl
  · rw [hT] at hi
    rw [hL]
    exact h.done i s hi (by rw [hE, List.getElem?_append_left (by omega)]; exact hs)
  · rw [hT] at hi
    rw [hL] at hy
    exact h.old i y hi hin hy
/-- a journal of another turn over it -/
theorem JKeep.over (h : JKeep z t frm n R R.length d) (hok : d.Ok) (hz : z = true) {t' : Nat} (ht : t' ≠ 0 ∧ t' < 4294967296) (hne : t ≠ t') : JKeep false t' frm n [] 0 d := by
  have hT : R.take R.length = R := List.take_length
  have hl := usedJ_secs t 0 R
  have hw := h.waits
  rw [hT, List.drop_of_length_le (by omega)] at hw
  refine JKeep.new ht h.up h.calm h.range hw fun i y hi hy => ⟨?_, fun e => by cases e⟩
  by_cases h1 : i < usedJ R
  · obtain ⟨s, hs⟩ : ∃ s, (secsJ t 0 R)[i]? = some s := ⟨_, List.getElem?_eq_getElem (by omega)⟩
    have := h.done i s (by rw [hT]; exact h1) hs
    rw [this] at hy
    cases hy
    have hsO := h.secs hok s (List.mem_of_getElem? hs)
    exact old_other hsO.1 ht.2 (by rw [hsO.2]; exact hne)
  · rw [(h.old i y (by rw [hT]; omega) hi hy).2 hz]
    exact old_zero ht.1 ht.2
end
/-- wiped -/
theorem wiped_lies {d : Dev} {frm n : Nat} (hr : frm + n ≤ d.lies.length) : ∀ i y, i < n → ((d.writes frm (List.replicate n [])).flush).lies[frm + i]? = some y → d.waits = [] → y = List.replicate 64 0 := by
  intro i y hi hy hw
  have e : ((d.writes frm (List.replicate n [])).flush).lies = laid d.lies (posW frm (List.replicate n [])) := by
    show laid d.lies (d.waits ++ posW frm (List.replicate n [])) = _
    rw [hw]; rfl
  rw [e, laid_pos _ _ _ _ (by omega), List.length_replicate, if_pos (by omega), List.getElem?_replicate, if_pos (by omega)] at hy
  cases hy
  simp [padB]
/-- is it what was committed, and a beginning of the others? -/
def beginsL (got done behind : List (List Nat)) : Bool := decide (done.length ≤ got.length ∧ got.length ≤ done.length + behind.length ∧ got = (done ++ behind).take got.length)
theorem begins_take {done behind : List (List Nat)} {j : Nat} (h1 : done.length ≤ j) (h2 : j ≤ (done ++ behind).length) : beginsL ((done ++ behind).take j) done behind = true := by
  unfold beginsL
  rw [decide_eq_true_eq]
  have h3 : ((done ++ behind).take j).length = j := by rw [List.length_take]; omega
  rw [List.length_append] at h2
  rw [h3]
  exact ⟨h1, h2, rfl⟩
theorem begins_self (R : List (List Nat)) : beginsL R R [] = true := by simp [beginsL]
end Go.Proofs.YtngeilhdambgfaaDoor
