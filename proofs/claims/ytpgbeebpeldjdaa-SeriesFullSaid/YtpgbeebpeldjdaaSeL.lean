/- A series, plainly: points of rising ticks; what is put, got and cut. -/
import Derived.Test.YtpgbeebpeldjdaaPtL
namespace Go.Proofs.Ytpgbeebpeldjdaa

/-- the value at a tick -/
def atP : List Pt → Int → Option Int
  | [], _ => none
  | p :: r, x => if p.a = x then some p.v else atP r x
/-- one point put -/
def putP : List Pt → Pt → List Pt
  | [], p => [p]
  | q :: r, p => if p.a < q.a then p :: q :: r else if q.a < p.a then q :: putP r p else p :: r
/-- all of these, one behind the other -/
def putL (s l : List Pt) : List Pt := l.foldl putP s
/-- those in a range -/
def getL (s : List Pt) (a b : Int) : List Pt := s.filter fun p => decide (a ≤ p.a) && decide (p.a < b)
/-- those that stay if it is cut -/
def cutL (s : List Pt) (a b : Int) : List Pt := s.filter fun p => !(decide (a ≤ p.a) && decide (p.a < b))

theorem srt_nil : Srt [] := List.Pairwise.nil
theorem srt_cons {p : Pt} {r : List Pt} : Srt (p :: r) ↔ (∀ q ∈ r, p.a < q.a) ∧ Srt r := List.pairwise_cons
theorem srt_tail {p : Pt} {r : List Pt} (h : Srt (p :: r)) : Srt r := (srt_cons.1 h).2
theorem atP_mem {s : List Pt} (hs : Srt s) {x v : Int} : atP s x = some v ↔ (⟨x, v⟩ : Pt) ∈ s := by
  induction s with
  | nil => simp [atP]
  | cons p r ih =>
    obtain ⟨h1, h2⟩ := srt_cons.1 hs
    unfold atP
    by_cases h : p.a = x
    · rw [if_pos h, List.mem_cons]
      constructor
      · intro e; injection e with e; exact .inl (by cases p; simp at h e; rw [h, e])
      · rintro (e | e)
        · rw [← e]
        · have := h1 _ e; simp only at this; omega
    · rw [if_neg h, ih h2, List.mem_cons]
      constructor
      · exact .inr
      · rintro (e | e)
        · exact absurd (by rw [← e]) h
        · exact e
theorem atP_none {s : List Pt} {x : Int} (h : ∀ p ∈ s, p.a ≠ x) : atP s x = none := by
  induction s with
  | nil => rfl
  | cons p r ih =>
    unfold atP
    rw [if_neg (h p (by simp))]
    exact ih fun q hq => h q (List.mem_cons_of_mem _ hq)
/-- two series of the same values at all ticks are the same -/
theorem ser_ext {s t : List Pt} (hs : Srt s) (ht : Srt t) (h : ∀ x, atP s x = atP t x) : s = t := by
  induction s generalizing t with
  | nil =>
    cases t with
    | nil => rfl
    | cons q t =>
      have := h q.a
      simp [atP] at this
  | cons p s ih =>
    obtain ⟨h1, h2⟩ := srt_cons.1 hs
    cases t with
    | nil =>
      have := h p.a
      simp [atP] at this
    | cons q t =>
      obtain ⟨k1, k2⟩ := srt_cons.1 ht
      have hp : (⟨p.a, p.v⟩ : Pt) ∈ q :: t := (atP_mem ht).1 ((h p.a).symm.trans ((atP_mem hs).2 (by cases p; simp)))
      have hq : (⟨q.a, q.v⟩ : Pt) ∈ p :: s := (atP_mem hs).1 ((h q.a).trans ((atP_mem ht).2 (by cases q; simp)))
      have e : p = q := by
        rcases List.mem_cons.1 hp with e | e
        · cases p; exact e
        · rcases List.mem_cons.1 hq with e' | e'
          · cases q; exact e'.symm
          · have a1 := k1 _ e
            have a2 := h1 _ e'
            simp only at a1 a2; omega
      subst e
      refine congrArg _ (ih h2 k2 fun x => ?_)
      have hx := h x
      simp only [atP] at hx
      by_cases hpx : p.a = x
      · rw [atP_none (fun r hr => by have := h1 r hr; omega), atP_none (fun r hr => by have := k1 r hr; omega)]
      · rw [if_neg hpx, if_neg hpx] at hx; exact hx
theorem putP_mem {s : List Pt} {p t : Pt} (h : t ∈ putP s p) : t = p ∨ t ∈ s := by
  induction s with
  | nil => simp [putP] at h; exact .inl h
  | cons q r ih =>
    unfold putP at h
    split at h
    · rcases List.mem_cons.1 h with h | h
      · exact .inl h
      · exact .inr h
    · split at h
      · rcases List.mem_cons.1 h with h | h
        · exact .inr (by rw [h]; simp)
        · rcases ih h with h | h
          · exact .inl h
          · exact .inr (List.mem_cons_of_mem _ h)
      · rcases List.mem_cons.1 h with h | h
        · exact .inl h
        · exact .inr (List.mem_cons_of_mem _ h)
theorem putP_srt {s : List Pt} (hs : Srt s) (p : Pt) : Srt (putP s p) := by
  induction s with
  | nil => exact srt_cons.2 ⟨fun q h => by simp at h, srt_nil⟩
  | cons q r ih =>
    obtain ⟨h1, h2⟩ := srt_cons.1 hs
    unfold putP
    split
    · rename_i h
      exact srt_cons.2 ⟨fun t ht => by
        rcases List.mem_cons.1 ht with rfl | ht
        · exact h
        · have := h1 t ht; omega, hs⟩
    · split
      · rename_i h
        exact srt_cons.2 ⟨fun t ht => by
          rcases putP_mem ht with rfl | ht
          · exact h
          · exact h1 t ht, ih h2⟩
      · rename_i h k
        exact srt_cons.2 ⟨fun t ht => by have := h1 t ht; omega, h2⟩
theorem putP_at {s : List Pt} (hs : Srt s) (p : Pt) (x : Int) : atP (putP s p) x = if p.a = x then some p.v else atP s x := by
  induction s with
  | nil => rfl
  | cons q r ih =>
    obtain ⟨h1, h2⟩ := srt_cons.1 hs
    unfold putP
    split
    · rfl
    · split
      · rename_i h
        show (if q.a = x then some q.v else atP (putP r p) x) = _
        rw [ih h2]
        by_cases hq : q.a = x
        · rw [if_pos hq, if_neg (by omega)]
          show _ = atP (q :: r) x
          unfold atP; rw [if_pos hq]
        · rw [if_neg hq]
          by_cases hp : p.a = x
          · rw [if_pos hp, if_pos hp]
          · rw [if_neg hp, if_neg hp]
            show _ = atP (q :: r) x
            conv => rhs; unfold atP
            rw [if_neg hq]
      · rename_i h k
        show (if p.a = x then some p.v else atP r x) = _
        by_cases hp : p.a = x
        · rw [if_pos hp, if_pos hp]
        · rw [if_neg hp, if_neg hp]
          show _ = atP (q :: r) x
          conv => rhs; unfold atP
          rw [if_neg (by omega)]
theorem putL_srt {s : List Pt} (hs : Srt s) (l : List Pt) : Srt (putL s l) := by
  induction l generalizing s with
  | nil => exact hs
  | cons p l ih => exact ih (putP_srt hs p)
/-- the last one of a tick counts -/
def lastP : List Pt → Int → Option Int
  | [], _ => none
  | p :: l, x => match lastP l x with
    | some v => some v
    | none => if p.a = x then some p.v else none
theorem putL_at {s : List Pt} (hs : Srt s) (l : List Pt) (x : Int) : atP (putL s l) x = match lastP l x with | some v => some v | none => atP s x := by
  induction l generalizing s with
  | nil => rfl
  | cons p l ih =>
    have h := ih (putP_srt hs p)
    show atP (putL (putP s p) l) x = _
    rw [h, show lastP (p :: l) x = (match lastP l x with | some v => some v | none => if p.a = x then some p.v else none) from rfl]
    cases lastP l x with
    | some v => rfl
    | none =>
      simp only
      rw [putP_at hs]
      by_cases hp : p.a = x
      · rw [if_pos hp, if_pos hp]
      · rw [if_neg hp, if_neg hp]
theorem putL_append (s l k : List Pt) : putL s (l ++ k) = putL (putL s l) k := by simp [putL, List.foldl_append]
/-- what is there already, put again, changes nothing -/
theorem putL_again {s : List Pt} (hs : Srt s) (l : List Pt) : putL (putL s l) l = putL s l := by
  refine ser_ext (putL_srt (putL_srt hs l) l) (putL_srt hs l) fun x => ?_
  rw [putL_at (putL_srt hs l), putL_at hs]
  cases lastP l x <;> rfl
theorem filter_srt {s : List Pt} (hs : Srt s) (f : Pt → Bool) : Srt (s.filter f) := List.Pairwise.filter f hs
theorem getL_srt {s : List Pt} (hs : Srt s) (a b : Int) : Srt (getL s a b) := filter_srt hs _
theorem cutL_srt {s : List Pt} (hs : Srt s) (a b : Int) : Srt (cutL s a b) := filter_srt hs _
theorem filter_at {s : List Pt} (hs : Srt s) (f : Int → Bool) (x : Int) : atP (s.filter fun p => f p.a) x = if f x = true then atP s x else none := by
  induction s with
  | nil => simp [atP]
  | cons p r ih =>
    obtain ⟨h1, h2⟩ := srt_cons.1 hs
    have hi := ih h2
    by_cases hf : f p.a = true
    · rw [List.filter_cons_of_pos (by exact hf)]
      unfold atP
      rw [hi]
      by_cases hp : p.a = x
      · rw [if_pos hp, if_pos hp, if_pos (by rw [← hp]; exact hf)]
      · rw [if_neg hp, if_neg hp]
    · rw [List.filter_cons_of_neg (by exact hf), hi]
      conv => rhs; unfold atP
      by_cases hp : p.a = x
      · rw [if_neg (by rw [← hp]; exact hf), if_neg (by rw [← hp]; exact hf)]
      · rw [if_neg hp]
theorem getL_at {s : List Pt} (hs : Srt s) (a b x : Int) : atP (getL s a b) x = if (decide (a ≤ x) && decide (x < b)) = true then atP s x else none := filter_at hs (fun y => decide (a ≤ y) && decide (y < b)) x
theorem cutL_at {s : List Pt} (hs : Srt s) (a b x : Int) : atP (cutL s a b) x = if (!(decide (a ≤ x) && decide (x < b))) = true then atP s x else none := filter_at hs (fun y => !(decide (a ≤ y) && decide (y < b))) x
theorem lastP_srt {l : List Pt} (hl : Srt l) (x : Int) : lastP l x = atP l x := by
  induction l with
  | nil => rfl
  | cons p l ih =>
    obtain ⟨h1, h2⟩ := srt_cons.1 hl
    unfold lastP atP
    rw [ih h2]
    by_cases hp : p.a = x
    · rw [atP_none (fun q hq => by have := h1 q hq; omega)]
    · rw [if_neg hp, if_neg hp]
      cases atP l x <;> rfl
/-- a range that is cut, and put again, is as it was -/
theorem cut_put {s : List Pt} (hs : Srt s) (a b : Int) : putL (cutL s a b) (getL s a b) = s := by
  refine ser_ext (putL_srt (cutL_srt hs a b) _) hs fun x => ?_
  rw [putL_at (cutL_srt hs a b), lastP_srt (getL_srt hs a b), getL_at hs, cutL_at hs]
  cases h : (decide (a ≤ x) && decide (x < b)) with
  | true => simp; cases atP s x <;> rfl
  | false => simp
theorem cut_len_two (s : List Pt) (a b : Int) : (cutL s a b).length + (getL s a b).length = s.length := by
  unfold cutL getL
  induction s with
  | nil => rfl
  | cons p r ih =>
    cases h : (decide (a ≤ p.a) && decide (p.a < b)) with
    | true => rw [List.filter_cons_of_neg (by simp [h]), List.filter_cons_of_pos (by simp [h]), List.length_cons, List.length_cons]; omega
    | false => rw [List.filter_cons_of_pos (by simp [h]), List.filter_cons_of_neg (by simp [h]), List.length_cons, List.length_cons]; omega
/-- what two ranges, one behind the other, have -/
theorem getL_parts {s : List Pt} (hs : Srt s) {a b c : Int} (hab : a ≤ b) (hbc : b ≤ c) : getL s a b ++ getL s b c = getL s a c := by
  unfold getL
  induction s with
  | nil => rfl
  | cons p r ih =>
    obtain ⟨h1, h2⟩ := srt_cons.1 hs
    have hi := ih h2
    have f1 : ∀ u v : Int, List.filter (fun p : Pt => decide (u ≤ p.a) && decide (p.a < v)) (p :: r) = if u ≤ p.a ∧ p.a < v then p :: List.filter (fun p : Pt => decide (u ≤ p.a) && decide (p.a < v)) r else List.filter (fun p : Pt => decide (u ≤ p.a) && decide (p.a < v)) r := fun u v => by
      by_cases h : u ≤ p.a ∧ p.a < v
      · rw [if_pos h, List.filter_cons_of_pos (by simp [h])]
      · rw [if_neg h, List.filter_cons_of_neg (by simpa using h)]
    rw [f1, f1, f1]
    by_cases k1 : a ≤ p.a
    · by_cases k2 : p.a < b
      · rw [if_pos ⟨k1, k2⟩, if_neg (by omega), if_pos (by omega), List.cons_append, hi]
      · have e : List.filter (fun p : Pt => decide (a ≤ p.a) && decide (p.a < b)) r = [] := List.filter_eq_nil_iff.2 fun q hq => by have := h1 q hq; simp; omega
        rw [e, List.nil_append] at hi
        rw [if_neg (by omega), e, List.nil_append, hi]
        by_cases k3 : p.a < c
        · rw [if_pos (by omega), if_pos (by omega)]
        · rw [if_neg (by omega), if_neg (by omega)]
    · rw [if_neg (by omega), if_neg (by omega), if_neg (by omega), hi]
theorem putP_len (s : List Pt) (p : Pt) (hs : Srt s) : (putP s p).length = if (atP s p.a).isSome = true then s.length else s.length + 1 := by
  induction s with
  | nil => rfl
  | cons q r ih =>
    obtain ⟨h1, h2⟩ := srt_cons.1 hs
    have e0 : atP (q :: r) p.a = if q.a = p.a then some q.v else atP r p.a := rfl
    rw [e0]
    unfold putP
    by_cases h : p.a < q.a
    · rw [if_pos h, if_neg (show ¬ q.a = p.a by omega), atP_none (fun t ht => by have := h1 t ht; omega)]; simp
    · rw [if_neg h]
      by_cases k : q.a < p.a
      · rw [if_pos k, if_neg (show ¬ q.a = p.a by omega), List.length_cons, ih h2, List.length_cons]
        by_cases m : (atP r p.a).isSome = true
        · rw [if_pos m, if_pos m]
        · rw [if_neg m, if_neg m]
      · rw [if_neg k, if_pos (show q.a = p.a by omega)]; simp
theorem putP_le (s : List Pt) (p : Pt) (hs : Srt s) : s.length ≤ (putP s p).length ∧ (putP s p).length ≤ s.length + 1 := by
  rw [putP_len s p hs]; split <;> omega
theorem putL_le {s : List Pt} (hs : Srt s) (l : List Pt) : s.length ≤ (putL s l).length ∧ (putL s l).length ≤ s.length + l.length := by
  induction l generalizing s with
  | nil => exact ⟨Nat.le_refl _, Nat.le_refl _⟩
  | cons p l ih =>
    have h1 := putP_le s p hs
    have h2 := ih (putP_srt hs p)
    show s.length ≤ (putL (putP s p) l).length ∧ (putL (putP s p) l).length ≤ s.length + (l.length + 1)
    omega
/-- what may be put stays so -/
theorem putL_all {s l : List Pt} {Q : Pt → Prop} (hs : ∀ p ∈ s, Q p) (hl : ∀ p ∈ l, Q p) : ∀ p ∈ putL s l, Q p := by
  induction l generalizing s with
  | nil => exact hs
  | cons q l ih =>
    refine ih (fun p hp => ?_) (fun p hp => hl p (List.mem_cons_of_mem _ hp))
    rcases putP_mem hp with rfl | hp
    · exact hl _ (by simp)
    · exact hs p hp
/-- of points that may be, all are got by the whole range -/
theorem getL_all {s : List Pt} {a b : Int} (h : ∀ p ∈ s, a ≤ p.a ∧ p.a < b) : getL s a b = s := List.filter_eq_self.2 fun p hp => by have := h p hp; simp; omega
/-- points that are there already change nothing -/
theorem putL_sub {s l : List Pt} (hs : Srt s) (hl : Srt l) (h : ∀ p ∈ l, p ∈ s) : putL s l = s := by
  refine ser_ext (putL_srt hs l) hs fun x => ?_
  rw [putL_at hs, lastP_srt hl]
  cases e : atP l x with
  | none => rfl
  | some v => exact ((atP_mem hs).2 (h _ ((atP_mem hl).1 e))).symm
/-- rising points, put into an empty series, are it -/
theorem putL_own {l : List Pt} (hl : Srt l) : putL [] l = l := by
  refine ser_ext (putL_srt srt_nil l) hl fun x => ?_
  rw [putL_at srt_nil, lastP_srt hl]
  cases atP l x <;> rfl
theorem srt_take {s : List Pt} (hs : Srt s) (n : Nat) : Srt (s.take n) := List.Pairwise.sublist (List.take_sublist n s) hs
end Go.Proofs.Ytpgbeebpeldjdaa
