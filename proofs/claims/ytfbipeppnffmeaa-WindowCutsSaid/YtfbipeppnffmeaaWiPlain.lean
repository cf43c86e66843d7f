/- What is cut of a range: filled, in order, and each tick once. -/
import Derived.Test.YtfbipeppnffmeaaWiLives
namespace Go.Proofs.Ytfbipeppnffmeaa
open Go.RowKit

/-- how many of these ranges have a tick -/
def cntR (l : List (Int × Int)) (x : Int) : Nat := (l.filter fun p => inR p.1 p.2 x).length
theorem cutR_cases (a b c d : Int) : (∃ p q, cutR a b c d = partR p q ∧ ((p = a ∧ q = b ∧ meetsR a b c d = false) ∨ (meetsR a b c d = true ∧ ((p = a ∧ q = c ∧ ¬ d < b) ∨ (p = d ∧ q = b ∧ ¬ a < c))))) ∨ (meetsR a b c d = true ∧ a < c ∧ d < b ∧ cutR a b c d = [(a, c), (d, b)]) := by
  unfold cutR
  cases hm : meetsR a b c d with
  | false => exact .inl ⟨a, b, by simp, .inl ⟨rfl, rfl, rfl⟩⟩
  | true =>
    simp only [if_true]
    by_cases h1 : a < c
    · by_cases h2 : d < b
      · exact .inr ⟨trivial, h1, h2, by unfold partR; rw [if_pos h1, if_pos h2]; rfl⟩
      · exact .inl ⟨a, c, by rw [show partR d b = [] by unfold partR; rw [if_neg h2], List.append_nil], .inr ⟨trivial, .inl ⟨rfl, rfl, h2⟩⟩⟩
    · exact .inl ⟨d, b, by rw [show partR a c = [] by unfold partR; rw [if_neg h1], List.nil_append], .inr ⟨trivial, .inr ⟨rfl, rfl, h1⟩⟩⟩
theorem part_get {a b : Int} {i : Nat} {p : Int × Int} (h : (partR a b)[i]? = some p) : i = 0 ∧ p = (a, b) ∧ a < b := by
  unfold partR at h
  by_cases hab : a < b
  · rw [if_pos hab] at h
    cases i with
    | zero => simp at h; exact ⟨rfl, h.symm, hab⟩
    | succ i => simp at h
  · rw [if_neg hab] at h; simp at h
theorem cut_filled {a b c d : Int} {i : Nat} {p : Int × Int} (h : (cutR a b c d)[i]? = some p) : p.1 < p.2 := by
  rcases cutR_cases a b c d with ⟨u, v, e, _⟩ | ⟨_, h1, h2, e⟩
  · rw [e] at h
    obtain ⟨_, rfl, hlt⟩ := part_get h
    exact hlt
  · rw [e] at h
    match i, h with
    | 0, h => simp at h; rw [← h]; exact h1
    | 1, h => simp at h; rw [← h]; exact h2
    | i + 2, h => simp at h
theorem meets_iff {a b c d : Int} : meetsR a b c d = true ↔ max a c < min b d := by unfold meetsR; exact decide_eq_true_iff
theorem meets_not {a b c d : Int} : meetsR a b c d = false ↔ ¬ max a c < min b d := by unfold meetsR; exact decide_eq_false_iff_not
theorem cut_order {a b c d : Int} {i : Nat} {p q : Int × Int} (h : (cutR a b c d)[i]? = some p) (k : (cutR a b c d)[i + 1]? = some q) : p.2 ≤ q.1 := by
  rcases cutR_cases a b c d with ⟨u, v, e, _⟩ | ⟨hm, h1, h2, e⟩
  · rw [e] at k
    have := (part_get k).1
    omega
  · rw [e] at h k
    have hm := meets_iff.1 hm
    match i, h, k with
    | 0, h, k => simp at h k; rw [← h, ← k]; show c ≤ d; omega
    | i + 1, h, k => simp at k
theorem part_count (a b x : Int) : cntR (partR a b) x = if inR a b x = true then 1 else 0 := by
  unfold partR cntR
  by_cases h : a < b
  · rw [if_pos h]
    by_cases k : inR a b x = true
    · simp [k]
    · simp [k]
  · rw [if_neg h, if_neg (by unfold inR; simp; omega)]; rfl
theorem in_iff {a b x : Int} : inR a b x = true ↔ a ≤ x ∧ x < b := by unfold inR; simp
theorem cut_count (a b c d x : Int) : cntR (cutR a b c d) x = if (inR a b x && !inR c d x) = true then 1 else 0 := by
  rcases cutR_cases a b c d with ⟨u, v, e, h⟩ | ⟨hm, h1, h2, e⟩
  · rw [e, part_count]
    have he : inR u v x = (inR a b x && !inR c d x) := by
      rw [Bool.eq_iff_iff]
      simp only [Bool.and_eq_true, Bool.not_eq_true', in_iff]
      have hb : inR c d x = false ↔ ¬ (c ≤ x ∧ x < d) := by rw [← in_iff]; simp
      rw [hb]
      rcases h with ⟨rfl, rfl, hm⟩ | ⟨hm, ⟨rfl, rfl, h3⟩ | ⟨rfl, rfl, h3⟩⟩
      · have := meets_not.1 hm; omega
      · have := meets_iff.1 hm; omega
      · have := meets_iff.1 hm; omega
    rw [he]
  · rw [e]
    have hm := meets_iff.1 hm
    have e2 : cntR [(a, c), (d, b)] x = (if inR a c x = true then 1 else 0) + (if inR d b x = true then 1 else 0) := by
      unfold cntR
      by_cases k1 : inR a c x = true <;> by_cases k2 : inR d b x = true <;> simp [k1, k2]
    rw [e2]
    by_cases k1 : inR a c x = true
    · have h3 := in_iff.1 k1
      have k2 : ¬ inR d b x = true := fun h => by have := in_iff.1 h; omega
      have k3 : (inR a b x && !inR c d x) = true := by
        simp only [Bool.and_eq_true, Bool.not_eq_true', in_iff]
        refine ⟨by omega, ?_⟩
        rw [← Bool.not_eq_true, in_iff]; omega
      rw [if_pos k1, if_neg k2, if_pos k3]
    · rw [if_neg k1]
      by_cases k2 : inR d b x = true
      · have h3 := in_iff.1 k2
        have k3 : (inR a b x && !inR c d x) = true := by
          simp only [Bool.and_eq_true, Bool.not_eq_true', in_iff]
          refine ⟨by omega, ?_⟩
          rw [← Bool.not_eq_true, in_iff]; omega
        rw [if_pos k2, if_pos k3]
      · have k3 : ¬ (inR a b x && !inR c d x) = true := fun h => by
          simp only [Bool.and_eq_true, Bool.not_eq_true', in_iff] at h
          rw [← Bool.not_eq_true, in_iff] at h
          rw [in_iff] at k1 k2
          omega
        rw [if_neg k2, if_neg k3]
theorem cut_len (a b c d : Int) : (cutR a b c d).length ≤ 2 := by
  rcases cutR_cases a b c d with ⟨u, v, e, h⟩ | ⟨hm, h1, h2, e⟩
  · rw [e]; have := part_len u v; omega
  · rw [e]; simp
theorem cnt_take {l : List (Int × Int)} {x : Int} {k : Nat} {p : Int × Int} (h : l[k]? = some p) : cntR (l.take (k + 1)) x = cntR (l.take k) x + if inR p.1 p.2 x = true then 1 else 0 := by
  rw [List.take_add_one, h]
  unfold cntR
  rw [List.filter_append, List.length_append]
  by_cases k : inR p.1 p.2 x = true <;> simp [k]
theorem cnt_le (l : List (Int × Int)) (x : Int) : cntR l x ≤ l.length := List.length_filter_le _ _
theorem cellsR_get {l : List (Int × Int)} {i : Nat} {p : Int × Int} (h : l[i]? = some p) : (cellsR l)[i * 2]? = some (.int .i64 p.1) ∧ (cellsR l)[i * 2 + 1]? = some (.int .i64 p.2) := by
  induction l generalizing i with
  | nil => simp at h
  | cons q r ih =>
    cases i with
    | zero => simp at h; subst h; exact ⟨rfl, rfl⟩
    | succ i =>
      rw [List.getElem?_cons_succ] at h
      obtain ⟨h1, h2⟩ := ih h
      have e : cellsR (q :: r) = .int .i64 q.1 :: .int .i64 q.2 :: cellsR r := by simp [cellsR]
      rw [e, show (i + 1) * 2 = i * 2 + 1 + 1 by omega, show i * 2 + 1 + 1 + 1 = (i * 2 + 1) + 1 + 1 by omega, List.getElem?_cons_succ, List.getElem?_cons_succ, List.getElem?_cons_succ, List.getElem?_cons_succ]
      exact ⟨h1, h2⟩
theorem cellsR_length (l : List (Int × Int)) : (cellsR l).length = l.length * 2 := by
  induction l with
  | nil => rfl
  | cons q r ih =>
    have e : cellsR (q :: r) = .int .i64 q.1 :: .int .i64 q.2 :: cellsR r := by simp [cellsR]
    rw [e, List.length_cons, List.length_cons, ih, List.length_cons]; omega
/-- a row of ranges, whatever its length, as it lies -/
theorem RgRow.form2 {B : Nat} {w : World} {v : Value} {l : List (Int × Int)} (h : RgRow B w v l) :
    ∃ (a : Option Addr) (cap : Nat), v = .slice a l.length cap ∧ l.length ≤ cap ∧ (l ≠ [] → ∃ g, a = some ⟨g, 0, none⟩) ∧ ∀ g, a = some ⟨g, 0, none⟩ → B ≤ g ∧ g < w.heap.size ∧ ∃ cur : List Value, w.heap[g]? = some (.cells cur.toArray 25 (0, 0)) ∧ l.length * 2 ≤ cur.length := by
  rcases h.2 with ⟨hv, h0⟩ | ⟨g, cap, cur, hv, hB, hg, hc, _, hcs, _⟩
  · exact ⟨none, 0, by rw [hv, h0], by omega, fun hn => absurd (List.length_eq_zero_iff.1 h0) hn, fun g h => by cases h⟩
  · refine ⟨_, cap, hv, hc, fun _ => ⟨g, rfl⟩, fun g' h => ?_⟩
    cases h
    exact ⟨hB, lt_of_block hg, cur.toList, by simpa using hg, by have e : cur.toList.length = cur.size := Array.length_toList; rw [e]; omega⟩
theorem RgRow.get {B : Nat} {w : World} {l : List (Int × Int)} {g n cap i : Nat} {p : Int × Int} (h : RgRow B w (.slice (some ⟨g, 0, none⟩) n cap) l) (hp : l[i]? = some p) :
    w.cell? ⟨g, i * 2, none⟩ = some (.int .i64 p.1) ∧ w.cell? ⟨g, i * 2 + 1, none⟩ = some (.int .i64 p.2) := by
  have hc := (h : w.ownsRow B 25 2 _ l.length (cellsR l)).cells (g := g) rfl
  obtain ⟨h1, h2⟩ := cellsR_get hp
  have e1 := hc _ _ h1
  have e2 := hc _ _ h2
  rw [add_at, Nat.zero_add] at e1 e2
  exact ⟨e1, e2⟩
end Go.Proofs.Ytfbipeppnffmeaa
