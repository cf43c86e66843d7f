/- A series, plainly: where a tick stands among rising points, and what is put, got and cut by places. -/
import Derived.Test.YtpgbeebpeldjdaaSeL
namespace Go.Proofs.Ytpgbeebpeldjdaa

/-- how many points are ahead of a tick -/
def cntP : List Pt → Int → Nat
  | [], _ => 0
  | p :: r, x => if p.a < x then cntP r x + 1 else 0
theorem cnt_cons (p : Pt) (r : List Pt) (x : Int) : cntP (p :: r) x = if p.a < x then cntP r x + 1 else 0 := rfl
/-- is there a point of that tick? -/
def hasP (l : List Pt) (x : Int) : Bool := (atP l x).isSome
theorem cnt_le (l : List Pt) (x : Int) : cntP l x ≤ l.length := by
  induction l with
  | nil => exact Nat.le_refl _
  | cons p r ih => unfold cntP; split <;> simp <;> omega
theorem cnt_below {l : List Pt} {x : Int} {i : Nat} {q : Pt} (hi : i < cntP l x) (hq : l[i]? = some q) : q.a < x := by
  induction l generalizing i with
  | nil => simp at hq
  | cons p r ih =>
    unfold cntP at hi
    by_cases h : p.a < x
    · rw [if_pos h] at hi
      cases i with
      | zero => obtain rfl : p = q := by simpa using hq
                exact h
      | succ i => exact ih (i := i) (by omega) (by simpa using hq)
    · rw [if_neg h] at hi; omega
theorem cnt_above {l : List Pt} (hs : Srt l) {x : Int} {i : Nat} {q : Pt} (hi : cntP l x ≤ i) (hq : l[i]? = some q) : x ≤ q.a := by
  induction l generalizing i with
  | nil => simp at hq
  | cons p r ih =>
    obtain ⟨h1, h2⟩ := srt_cons.1 hs
    unfold cntP at hi
    by_cases h : p.a < x
    · rw [if_pos h] at hi
      cases i with
      | zero => omega
      | succ i => exact ih (i := i) h2 (by omega) (by simpa using hq)
    · cases i with
      | zero => obtain rfl : p = q := by simpa using hq
                omega
      | succ i => have := h1 q (List.mem_of_getElem? (by simpa using hq)); omega
/-- a place with just the lesser ticks ahead is the one -/
theorem cnt_is {l : List Pt} (hs : Srt l) {x : Int} {k : Nat} (hk : k ≤ l.length) (h1 : ∀ i q, i < k → l[i]? = some q → q.a < x) (h2 : ∀ i q, k ≤ i → l[i]? = some q → x ≤ q.a) : cntP l x = k := by
  have hc := cnt_le l x
  rcases Nat.lt_trichotomy (cntP l x) k with h | h | h
  · have hq : l[cntP l x]? = some (l[cntP l x]'(by omega)) := List.getElem?_eq_getElem (by omega)
    have a := h1 _ _ h hq
    have b := cnt_above hs (Nat.le_refl _) hq
    omega
  · exact h
  · have hq : l[k]? = some (l[k]'(by omega)) := List.getElem?_eq_getElem (by omega)
    have a := cnt_below h hq
    have b := h2 _ _ (Nat.le_refl _) hq
    omega
theorem has_at {l : List Pt} (hs : Srt l) (x : Int) : hasP l x = true ↔ ∃ q, l[cntP l x]? = some q ∧ q.a = x := by
  unfold hasP
  constructor
  · intro h
    obtain ⟨v, hv⟩ := Option.isSome_iff_exists.1 h
    obtain ⟨i, hi⟩ := List.mem_iff_getElem?.1 ((atP_mem hs).1 hv)
    rcases Nat.lt_trichotomy i (cntP l x) with h1 | h1 | h1
    · have := cnt_below h1 hi; simp at this
    · subst h1; exact ⟨_, hi, rfl⟩
    · have hlt := (List.getElem?_eq_some_iff.1 hi).1
      have hq : l[cntP l x]? = some (l[cntP l x]'(by omega)) := List.getElem?_eq_getElem (by omega)
      have a := cnt_above hs (Nat.le_refl _) hq
      have b := List.pairwise_iff_getElem.1 hs (cntP l x) i (by omega) hlt h1
      rw [(List.getElem?_eq_some_iff.1 hi).2] at b
      simp only at b; omega
  · rintro ⟨q, hq, rfl⟩
    rw [(atP_mem hs).2 (show (⟨q.a, q.v⟩ : Pt) ∈ l from List.mem_of_getElem? hq)]; rfl
theorem has_not {l : List Pt} (hs : Srt l) (x : Int) : hasP l x = false ↔ ∀ q, l[cntP l x]? = some q → q.a ≠ x := by
  constructor
  · intro h q hq e
    have := (has_at hs x).2 ⟨q, hq, e⟩
    rw [h] at this; cases this
  · intro h
    cases e : hasP l x with
    | false => rfl
    | true => obtain ⟨q, hq, e⟩ := (has_at hs x).1 e; exact absurd e (h q hq)
/-- a point put that is of a new tick -/
theorem put_new {l : List Pt} (hs : Srt l) (p : Pt) (h : hasP l p.a = false) : putP l p = l.take (cntP l p.a) ++ p :: l.drop (cntP l p.a) := by
  induction l with
  | nil => rfl
  | cons q r ih =>
    obtain ⟨h1, h2⟩ := srt_cons.1 hs
    unfold putP cntP
    by_cases hq : p.a < q.a
    · rw [if_pos hq, if_neg (show ¬ q.a < p.a by omega)]; rfl
    · rw [if_neg hq]
      by_cases hk : q.a < p.a
      · rw [if_pos hk, if_pos hk]
        have hr : hasP r p.a = false := by
          rw [← h]; unfold hasP
          rw [show atP (q :: r) p.a = if q.a = p.a then some q.v else atP r p.a from rfl, if_neg (by omega)]
        rw [ih h2 hr]; rfl
      · exfalso
        have : hasP (q :: r) p.a = true := by
          unfold hasP
          rw [show atP (q :: r) p.a = if q.a = p.a then some q.v else atP r p.a from rfl, if_pos (by omega)]; rfl
        rw [h] at this; cases this
/-- a point put over one of its tick -/
theorem put_old {l : List Pt} (hs : Srt l) (p : Pt) (h : hasP l p.a = true) : putP l p = l.set (cntP l p.a) p := by
  induction l with
  | nil => cases h
  | cons q r ih =>
    obtain ⟨h1, h2⟩ := srt_cons.1 hs
    unfold putP cntP
    by_cases hq : p.a < q.a
    · exfalso
      have : hasP (q :: r) p.a = false := by
        unfold hasP
        rw [atP_none (fun t ht => by
          rcases List.mem_cons.1 ht with rfl | ht
          · omega
          · have := h1 t ht; omega)]; rfl
      rw [h] at this; cases this
    · rw [if_neg hq]
      by_cases hk : q.a < p.a
      · rw [if_pos hk, if_pos hk]
        have hr : hasP r p.a = true := by
          rw [← h]; unfold hasP
          rw [show atP (q :: r) p.a = if q.a = p.a then some q.v else atP r p.a from rfl, if_neg (by omega)]
        rw [ih h2 hr]; rfl
      · rw [if_neg hk, if_neg hk]; rfl
theorem cnt_mono {l : List Pt} {a b : Int} (h : a ≤ b) : cntP l a ≤ cntP l b := by
  induction l with
  | nil => exact Nat.le_refl _
  | cons p r ih =>
    unfold cntP
    by_cases h1 : p.a < a
    · rw [if_pos h1, if_pos (show p.a < b by omega)]; omega
    · rw [if_neg h1]; omega
/-- where a range's points end -/
def endP (l : List Pt) (a b : Int) : Nat := max (cntP l a) (cntP l b)
theorem end_ge (l : List Pt) (a b : Int) : cntP l a ≤ endP l a b := Nat.le_max_left _ _
theorem end_le (l : List Pt) (a b : Int) : endP l a b ≤ l.length := Nat.max_le.2 ⟨cnt_le l a, cnt_le l b⟩
theorem end_cons (p : Pt) (r : List Pt) (a b : Int) : endP (p :: r) a b = if p.a < a then (if p.a < b then endP r a b + 1 else cntP r a + 1) else if p.a < b then cntP r b + 1 else 0 := by
  unfold endP
  rw [cnt_cons, cnt_cons]
  by_cases h1 : p.a < a
  · rw [if_pos h1, if_pos h1]
    by_cases h2 : p.a < b
    · rw [if_pos h2, if_pos h2]; omega
    · rw [if_neg h2, if_neg h2]; omega
  · rw [if_neg h1, if_neg h1]
    by_cases h2 : p.a < b
    · rw [if_pos h2]; omega
    · rw [if_neg h2]; rfl
theorem cnt_zero {r : List Pt} {x : Int} (h : ∀ q ∈ r, x ≤ q.a) : cntP r x = 0 := by
  cases r with
  | nil => rfl
  | cons q r => unfold cntP; rw [if_neg (by have := h q (by simp); omega)]
theorem get_all_of {r : List Pt} {x y b : Int} (hx : ∀ q ∈ r, x ≤ q.a ∧ y ≤ q.a) : (r.filter fun p => decide (x ≤ p.a) && decide (p.a < b)) = r.filter fun p => decide (y ≤ p.a) && decide (p.a < b) :=
  List.filter_congr fun q hq => by have := hx q hq; simp [this.1, this.2]
theorem take_cnt {r : List Pt} (hs : Srt r) {x b : Int} (hx : ∀ q ∈ r, x ≤ q.a) : (r.filter fun p => decide (x ≤ p.a) && decide (p.a < b)) = r.take (cntP r b) := by
  induction r with
  | nil => rfl
  | cons p r ih =>
    obtain ⟨h1, h2⟩ := srt_cons.1 hs
    have hp := hx p (by simp)
    unfold cntP
    by_cases hb : p.a < b
    · rw [if_pos hb, List.filter_cons_of_pos (by simp [hp, hb]), ih h2 (fun q hq => hx q (List.mem_cons_of_mem _ hq))]; rfl
    · rw [if_neg hb, List.take_zero]
      exact List.filter_eq_nil_iff.2 fun q hq => by
        rcases List.mem_cons.1 hq with rfl | hq
        · simp [hb]
        · have := h1 q hq; simp; omega
theorem drop_cnt {r : List Pt} (hs : Srt r) {x b : Int} (hx : ∀ q ∈ r, x ≤ q.a) : (r.filter fun p => !(decide (x ≤ p.a) && decide (p.a < b))) = r.drop (cntP r b) := by
  induction r with
  | nil => rfl
  | cons p r ih =>
    obtain ⟨h1, h2⟩ := srt_cons.1 hs
    have hp := hx p (by simp)
    unfold cntP
    by_cases hb : p.a < b
    · rw [if_pos hb, List.filter_cons_of_neg (by simp [hp, hb]), ih h2 (fun q hq => hx q (List.mem_cons_of_mem _ hq))]; rfl
    · rw [if_neg hb, List.drop_zero]
      exact List.filter_eq_self.2 fun q hq => by
        rcases List.mem_cons.1 hq with rfl | hq
        · simp [hb]
        · have := h1 q hq; simp; omega
/-- those in a range, by their places -/
theorem get_span {l : List Pt} (hs : Srt l) (a b : Int) : getL l a b = (l.drop (cntP l a)).take (endP l a b - cntP l a) := by
  unfold getL
  induction l with
  | nil => rfl
  | cons p r ih =>
    obtain ⟨h1, h2⟩ := srt_cons.1 hs
    have hi := ih h2
    rw [end_cons, cnt_cons]
    by_cases ha : p.a < a
    · rw [if_pos ha, if_pos ha, List.filter_cons_of_neg (by simp; omega)]
      by_cases hb : p.a < b
      · rw [if_pos hb, hi, show endP r a b + 1 - (cntP r a + 1) = endP r a b - cntP r a by omega]; rfl
      · have e : endP r a b = cntP r a := by
          have : cntP r b = 0 := cnt_zero fun q hq => by have := h1 q hq; omega
          unfold endP; omega
        rw [if_neg hb, hi, e, Nat.sub_self, Nat.sub_self]; rfl
    · rw [if_neg ha, if_neg ha]
      have hx : ∀ q ∈ p :: r, a ≤ q.a := fun q hq => by
        rcases List.mem_cons.1 hq with rfl | hq
        · omega
        · have := h1 q hq; omega
      rw [take_cnt hs hx, List.drop_zero, Nat.sub_zero]
      rw [cnt_cons]
/-- those that stay, by their places -/
theorem cut_span {l : List Pt} (hs : Srt l) (a b : Int) : cutL l a b = l.take (cntP l a) ++ l.drop (endP l a b) := by
  unfold cutL
  induction l with
  | nil => rfl
  | cons p r ih =>
    obtain ⟨h1, h2⟩ := srt_cons.1 hs
    have hi := ih h2
    rw [end_cons, cnt_cons]
    by_cases ha : p.a < a
    · rw [if_pos ha, if_pos ha, List.filter_cons_of_pos (by simp; omega)]
      by_cases hb : p.a < b
      · rw [if_pos hb, hi]; rfl
      · have e : endP r a b = cntP r a := by
          have : cntP r b = 0 := cnt_zero fun q hq => by have := h1 q hq; omega
          unfold endP; omega
        rw [if_neg hb, hi, e]; rfl
    · rw [if_neg ha, if_neg ha]
      have hx : ∀ q ∈ p :: r, a ≤ q.a := fun q hq => by
        rcases List.mem_cons.1 hq with rfl | hq
        · omega
        · have := h1 q hq; omega
      rw [drop_cnt hs hx, List.take_zero, List.nil_append]
      rw [cnt_cons]
theorem span_len {l : List Pt} (hs : Srt l) (a b : Int) : (getL l a b).length = endP l a b - cntP l a := by
  rw [get_span hs, List.length_take, List.length_drop]
  have := end_le l a b
  omega
end Go.Proofs.Ytpgbeebpeldjdaa
