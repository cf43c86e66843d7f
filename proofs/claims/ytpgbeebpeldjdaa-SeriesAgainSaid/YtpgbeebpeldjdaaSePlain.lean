/- What Put tells, plainly. -/
import Derived.Test.YtpgbeebpeldjdaaSeLives
import Derived.Test.YtpgbeebpeldjdaaSeFree
namespace Go.Proofs.Ytpgbeebpeldjdaa
open Go.RowKit

theorem putE_ok {l k : List Pt} (h : (putE l k).2.1 = 0) : putE l k = (((putL l k).length : Int) - l.length, 0, putL l k) ∧ k.any outP = false ∧ (putL l k).length ≤ 256 := by
  unfold putE at h ⊢
  by_cases h1 : k.any outP = true
  · rw [if_pos h1] at h; cases h
  · rw [if_neg h1] at h ⊢
    by_cases h2 : 256 < (putL l k).length
    · rw [if_pos h2] at h; cases h
    · rw [if_neg h2]; exact ⟨rfl, by simpa using h1, by omega⟩
theorem putE_err {l k : List Pt} (h : (putE l k).2.1 ≠ 0) : (putE l k).1 = 0 ∧ (putE l k).2.2 = l := by
  unfold putE at h ⊢
  by_cases h1 : k.any outP = true
  · rw [if_pos h1]; exact ⟨rfl, rfl⟩
  · rw [if_neg h1] at h ⊢
    by_cases h2 : 256 < (putL l k).length
    · rw [if_pos h2]; exact ⟨rfl, rfl⟩
    · rw [if_neg h2] at h; exact absurd rfl h
theorem last_some {l : List Pt} {p : Pt} (h : p ∈ l) : (lastP l p.a).isSome = true := by
  induction l with
  | nil => simp at h
  | cons q r ih =>
    rw [show lastP (q :: r) p.a = (match lastP r p.a with | some v => some v | none => if q.a = p.a then some q.v else none) from rfl]
    cases hl : lastP r p.a with
    | some v => rfl
    | none =>
      rcases List.mem_cons.1 h with rfl | h
      · rw [if_pos rfl]; rfl
      · have := ih h; rw [hl] at this; cases this
/-- what was put is there -/
theorem put_has {s l : List Pt} (hs : Srt s) {p : Pt} (h : p ∈ l) : hasP (putL s l) p.a = true := by
  unfold hasP
  rw [putL_at hs]
  have h1 := last_some h
  cases hl : lastP l p.a with
  | none => rw [hl] at h1; cases h1
  | some v => rfl
theorem again_put {l : List Pt} (h1 : l.any outP = false) (h2 : (putL [] l).length ≤ 256) : putE (putL [] l) l = (0, 0, putL [] l) := by
  unfold putE
  rw [putL_again srt_nil, if_neg (by rw [h1]; simp), if_neg (by omega), Int.sub_self]
theorem good_out {l : List Pt} (h : GoodS l) : l.any outP = false := List.any_eq_false.2 fun p hp => by have := h.tick p hp; unfold outP; simp; omega
theorem back_put {l : List Pt} (h : GoodS l) (a b : Int) : putE (cutL l a b) (getL l a b) = (((getL l a b).length : Int), 0, l) := by
  unfold putE
  have h1 := h.len
  have h2 := cut_len_two l a b
  rw [cut_put h.srt, if_neg (by rw [good_out (h.get a b)]; simp), if_neg (by omega)]
  congr 1; omega
theorem all_get {l : List Pt} (h : GoodS l) : getL l 0 2199023255552 = l := getL_all fun p hp => by have := h.tick p hp; omega
end Go.Proofs.Ytpgbeebpeldjdaa
