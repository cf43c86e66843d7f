/- A journal's sectors, read: of sectors that are each the right one, or none of this turn and place, the records are told up to the first that isn't whole. (The plain fact ahead of stage 10; no function of the program.) -/
import Derived.Test.YtngeilhdambgfaaDoorStBad
namespace Go.Proofs.YtngeilhdambgfaaDoor
open Go.RowKit

/-- is it the k-th sector of a journal of this turn? -/
def accB (t k : Nat) (b : List Nat) : Bool := decide (unpackE b = 0) && decide ((stOf b).turn = t) && decide ((stOf b).place = k)
/-- the records that are told from place k on, these bytes of one of them behind -/
def readJ (t : Nat) : Nat → List Nat → List (List Nat) → List (List Nat)
  | _, _, [] => []
  | k, acc, b :: L => if accB t k b = true then (if (stOf b).last = true then (acc ++ (stOf b).data) :: readJ t (k + 1) [] L else readJ t (k + 1) (acc ++ (stOf b).data) L) else []
theorem readJ_cons (t k : Nat) (acc b : List Nat) (L : List (List Nat)) : readJ t k acc (b :: L) = if accB t k b = true then (if (stOf b).last = true then (acc ++ (stOf b).data) :: readJ t (k + 1) [] L else readJ t (k + 1) (acc ++ (stOf b).data) L) else [] := by
  conv => lhs; unfold readJ
/-- the sectors of these records from place k on -/
def secsJ (t : Nat) : Nat → List (List Nat) → List Sec
  | _, [] => []
  | k, r :: R => splitS t k r ++ secsJ t (k + pieces r.length) R
theorem pieceS_ok {t k : Nat} {r : List Nat} {i : Nat} (ht : t ≠ 0) (ht2 : t < 4294967296) (hk : k + i < 4294967296) (hb : ∀ x ∈ r, x < 256) : (pieceS t k r i).Ok := by
  refine ⟨ht, ?_, ht2, hk, fun x hx => hb x (List.mem_of_mem_drop (List.mem_of_mem_take hx))⟩
  unfold pieceS
  simp only
  rw [List.length_take]; omega
theorem accB_right {t k : Nat} {r : List Nat} {i : Nat} (ht : t ≠ 0) (ht2 : t < 4294967296) (hk : k + i < 4294967296) (hb : ∀ x ∈ r, x < 256) : accB t (k + i) (secB (pieceS t k r i)) = true ∧ stOf (secB (pieceS t k r i)) = pieceS t k r i := by
  have h := pieceS_ok ht ht2 hk hb
  refine ⟨?_, unpackS_secB h⟩
  unfold accB
  rw [unpackE_secB h, unpackS_secB h]
  simp [pieceS]
theorem read_from {t k : Nat} {r : List Nat} {L : List (List Nat)} (ht : t ≠ 0) (ht2 : t < 4294967296) (hk : k + pieces r.length ≤ 4294967296) (hb : ∀ x ∈ r, x < 256)
    (hL : ∀ i b, i < pieces r.length → L[i]? = some b → b = secB (pieceS t k r i) ∨ accB t (k + i) b = false) : ∀ d i, i + (d + 1) = pieces r.length →
    (readJ t (k + i) (r.take (47 * i)) (L.drop i) = r :: readJ t (k + pieces r.length) [] (L.drop (pieces r.length)) ∧ ∀ x, i ≤ x → x < pieces r.length → L[x]? = some (secB (pieceS t k r x))) ∨
    (readJ t (k + i) (r.take (47 * i)) (L.drop i) = [] ∧ ∃ x, x < pieces r.length ∧ L[x]? ≠ some (secB (pieceS t k r x))) := by
  intro d
  induction d with
  | zero =>
    intro i hi
    cases hLi : L[i]? with
    | none =>
      refine .inr ⟨?_, i, by omega, by rw [hLi]; simp⟩
      rw [List.drop_of_length_le (List.getElem?_eq_none_iff.1 hLi)]; rfl
    | some b =>
      obtain ⟨hil, hbi⟩ := List.getElem?_eq_some_iff.1 hLi
      rw [List.drop_eq_getElem_cons hil, hbi]
      rcases hL i b (by omega) hLi with rfl | h
      · obtain ⟨h1, h2⟩ := accB_right (k := k) (i := i) ht ht2 (by omega) hb
        refine .inl ⟨?_, fun x h3 h4 => by rw [show x = i by omega]; exact hLi⟩
        have hlast : (pieceS t k r i).last = true := by unfold pieceS; simp; omega
        have hdata : r.take (47 * i) ++ (pieceS t k r i).data = r := by
          unfold pieceS
          simp only
          rw [← List.take_add, List.take_of_length_le]
          unfold pieces at hi; omega
        rw [readJ_cons, if_pos h1, h2, if_pos hlast, hdata, show k + i + 1 = k + pieces r.length by omega, show i + 1 = pieces r.length by omega]
      · refine .inr ⟨?_, i, by omega, fun e => ?_⟩
        · rw [readJ_cons, if_neg (by rw [h]; decide)]
        · rw [hLi] at e
          cases e
          rw [(accB_right (k := k) (r := r) (i := i) ht ht2 (by omega) hb).1] at h; cases h
  | succ d ih =>
    intro i hi
    cases hLi : L[i]? with
    | none =>
      refine .inr ⟨?_, i, by omega, by rw [hLi]; simp⟩
      rw [List.drop_of_length_le (List.getElem?_eq_none_iff.1 hLi)]; rfl
    | some b =>
      obtain ⟨hil, hbi⟩ := List.getElem?_eq_some_iff.1 hLi
      rw [List.drop_eq_getElem_cons hil, hbi]
      rcases hL i b (by omega) hLi with rfl | h
      · obtain ⟨h1, h2⟩ := accB_right (k := k) (i := i) ht ht2 (by omega) hb
        have hlast : (pieceS t k r i).last = false := by unfold pieceS; simp; omega
        have hstep : readJ t (k + i) (r.take (47 * i)) (secB (pieceS t k r i) :: L.drop (i + 1)) = readJ t (k + (i + 1)) (r.take (47 * (i + 1))) (L.drop (i + 1)) := by
          rw [readJ_cons, if_pos h1, h2, if_neg (by rw [hlast]; decide)]
          unfold pieceS
          simp only
          rw [← List.take_add, show 47 * i + 47 = 47 * (i + 1) by omega, Nat.add_assoc]
        rw [hstep]
        rcases ih (i + 1) (by omega) with ⟨h3, h4⟩ | h3
        · refine .inl ⟨h3, fun x h5 h6 => ?_⟩
          rcases Nat.eq_or_lt_of_le h5 with h7 | h7
          · rw [← h7]; exact hLi
          · exact h4 x h7 h6
        · exact .inr h3
      · refine .inr ⟨?_, i, by omega, fun e => ?_⟩
        · rw [readJ_cons, if_neg (by rw [h]; decide)]
        · rw [hLi] at e
          cases e
          rw [(accB_right (k := k) (r := r) (i := i) ht ht2 (by omega) hb).1] at h; cases h
theorem secsJ_length (t k : Nat) (R : List (List Nat)) : (secsJ t k R).length = (R.map fun r => pieces r.length).sum := by
  induction R generalizing k with
  | nil => rfl
  | cons r R ih => simp [secsJ, splitS_length, ih]
/-- What is told: a beginning of the records, each whole; all those whose sectors are there. -/
theorem read_begins {t : Nat} (ht : t ≠ 0) (ht2 : t < 4294967296) (R : List (List Nat)) : ∀ (k : Nat) (L : List (List Nat)), (∀ r ∈ R, ∀ x ∈ r, x < 256) → k + (secsJ t k R).length ≤ 4294967296 →
    (∀ (i : Nat) (b : List Nat), L[i]? = some b → (∃ s, (secsJ t k R)[i]? = some s ∧ b = secB s) ∨ accB t (k + i) b = false) →
    ∃ j, j ≤ R.length ∧ readJ t k [] L = R.take j ∧ ∀ c, c ≤ R.length → (∀ (i : Nat) (s : Sec), (secsJ t k (R.take c))[i]? = some s → L[i]? = some (secB s)) → c ≤ j := by
  induction R with
  | nil =>
    intro k L _ _ h
    refine ⟨0, Nat.le_refl _, ?_, fun c hc _ => hc⟩
    cases L with
    | nil => rfl
    | cons b L =>
      rcases h 0 b rfl with ⟨s, hs, _⟩ | h1
      · simp [secsJ] at hs
      · rw [readJ_cons, if_neg (by rw [Nat.add_zero] at h1; rw [h1]; decide)]; rfl
  | cons r R ih =>
    intro k L hb hk h
    have hn := pieces_pos r.length
    have hlen : (secsJ t k (r :: R)).length = pieces r.length + (secsJ t (k + pieces r.length) R).length := by simp [secsJ, splitS_length]
    have hget : ∀ i, i < pieces r.length → (secsJ t k (r :: R))[i]? = some (pieceS t k r i) := fun i hi => by
      show (splitS t k r ++ _)[i]? = _
      rw [List.getElem?_append_left (by rw [splitS_length]; exact hi), splitS_get hi]
    have hL : ∀ i b, i < pieces r.length → L[i]? = some b → b = secB (pieceS t k r i) ∨ accB t (k + i) b = false := fun i b hi hLi => by
      rcases h i b hLi with ⟨s, hs, hbs⟩ | h1
      · rw [hget i hi] at hs; cases hs; exact .inl hbs
      · exact .inr h1
    have h0 := read_from (L := L) ht ht2 (by omega) (hb r List.mem_cons_self) hL (pieces r.length - 1) 0 (by omega)
    rw [Nat.add_zero, Nat.mul_zero, List.take_zero, List.drop_zero] at h0
    rcases h0 with ⟨h1, h2⟩ | ⟨h1, x, hx, hxn⟩
    · obtain ⟨j, hj, hr, hc⟩ := ih (k + pieces r.length) (L.drop (pieces r.length)) (fun r' hr' => hb r' (List.mem_cons_of_mem _ hr')) (by omega) (fun i b hib => by
        rw [List.getElem?_drop] at hib
        rcases h _ b hib with ⟨s, hs, hbs⟩ | h3
        · refine .inl ⟨s, ?_, hbs⟩
          have e : (splitS t k r ++ secsJ t (k + pieces r.length) R)[pieces r.length + i]? = some s := hs
          rw [List.getElem?_append_right (by rw [splitS_length]; omega), splitS_length, show pieces r.length + i - pieces r.length = i by omega] at e
          exact e
        · exact .inr (by rw [Nat.add_assoc]; exact h3))
      refine ⟨j + 1, by simp; omega, by rw [h1, hr, List.take_succ_cons], fun c hcl hcr => ?_⟩
      cases c with
      | zero => omega
      | succ c =>
        have := hc c (by simp at hcl; omega) (fun i s hs => by
          rw [List.getElem?_drop]
          refine hcr (pieces r.length + i) s ?_
          rw [List.take_succ_cons]
          show (splitS t k r ++ secsJ t (k + pieces r.length) (R.take c))[pieces r.length + i]? = some s
          rw [List.getElem?_append_right (by rw [splitS_length]; omega), splitS_length, show pieces r.length + i - pieces r.length = i by omega]
          exact hs)
        omega
    · refine ⟨0, Nat.zero_le _, by rw [h1]; rfl, fun c hcl hcr => ?_⟩
      cases c with
      | zero => exact Nat.le_refl _
      | succ c =>
        refine absurd (hcr x (pieceS t k r x) ?_) hxn
        rw [List.take_succ_cons]
        show (splitS t k r ++ _)[x]? = _
        rw [List.getElem?_append_left (by rw [splitS_length]; exact hx), splitS_get hx]
end Go.Proofs.YtngeilhdambgfaaDoor
