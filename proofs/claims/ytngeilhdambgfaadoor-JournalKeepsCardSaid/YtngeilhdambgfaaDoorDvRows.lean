/- Rows written one behind the other, and what a crash leaves of them. -/
import Derived.Test.YtngeilhdambgfaaDoorDvL
namespace Go.Proofs.YtngeilhdambgfaaDoor
open Go.RowKit

/-- writings of rows, from a sector on -/
def posW : Nat → List (List Nat) → List (Nat × List Nat)
  | _, [] => []
  | off, b :: r => (off, padB b) :: posW (off + 1) r
theorem posW_snoc (off : Nat) (A : List (List Nat)) (b : List Nat) : posW off (A ++ [b]) = posW off A ++ [(off + A.length, padB b)] := by
  induction A generalizing off with
  | nil => rfl
  | cons c r ih => simp only [List.cons_append, posW, ih, List.length_cons]; rw [show off + 1 + r.length = off + (r.length + 1) by omega]
theorem posW_length (off : Nat) (A : List (List Nat)) : (posW off A).length = A.length := by
  induction A generalizing off with
  | nil => rfl
  | cons c r ih => simp [posW, ih]
def Dev.writes (d : Dev) (off : Nat) (A : List (List Nat)) : Dev := { d with waits := d.waits ++ posW off A }
theorem Dev.writes_nil (d : Dev) (off : Nat) : d.writes off [] = d := by simp [Dev.writes, posW]
theorem Dev.writes_next (d : Dev) (off : Nat) {A : List (List Nat)} {k : Nat} {b : List Nat} (h : A[k]? = some b) : (d.writes off (A.take k)).write (off + k) b = d.writes off (A.take (k + 1)) := by
  have hk := (List.getElem?_eq_some_iff.1 h).1
  rw [take_more h]
  simp [Dev.writes, Dev.write, posW_snoc, List.length_take, Nat.min_eq_left (Nat.le_of_lt hk)]
theorem laid_pos (L : List (List Nat)) (off : Nat) (A : List (List Nat)) (j : Nat) (hj : j < L.length) : (laid L (posW off A))[j]? = if off ≤ j ∧ j < off + A.length then (A[j - off]?).map padB else L[j]? := by
  induction A generalizing L off with
  | nil => rw [if_neg (by rintro ⟨h1, h2⟩; rw [List.length_nil] at h2; omega)]; rfl
  | cons b r ih =>
    have h := ih (L.set off (padB b)) (off + 1) (by simpa using hj)
    show (laid (L.set off (padB b)) (posW (off + 1) r))[j]? = _
    rw [h, List.length_cons]
    by_cases h1 : off + 1 ≤ j ∧ j < off + 1 + r.length
    · rw [if_pos h1, if_pos (by omega), show j - off = (j - (off + 1)) + 1 by omega, List.getElem?_cons_succ]
    · rw [if_neg h1]
      by_cases h2 : off = j
      · subst h2
        rw [List.getElem?_set_self hj, if_pos (by omega), Nat.sub_self]; rfl
      · rw [List.getElem?_set_ne h2, if_neg (by omega)]
theorem crash_pos (keep : Nat) (L : List (List Nat)) (off s : Nat) (A : List (List Nat)) (hA : ∀ b ∈ A, b.length ≤ 64) (hL : Sect L) (j : Nat) (hj : j < L.length) (hoff : off + A.length ≤ L.length) :
    (crashed keep (-1) 0 L ((posW off A).zipIdx s))[j]? = if off ≤ j ∧ j < off + A.length ∧ kept keep (s + (j - off)) = true then (A[j - off]?).map padB else L[j]? := by
  induction A generalizing L off s with
  | nil => rw [if_neg (by simp; omega)]; rfl
  | cons b r ih =>
    have hb := padB_length (hA b (by simp))
    have hlt : off < L.length := by rw [List.length_cons] at hoff; omega
    have e1 : crash1 keep (-1) 0 L ((off, padB b), s) = if kept keep s = true then L.set off (padB b) else L := by
      unfold crash1
      simp only
      rw [if_neg (show ¬ ((s : Int) = -1) by omega), List.take_of_length_le (by omega), List.drop_eq_nil_of_le (by rw [show (L.getD off []).length = 64 by simp [List.getD, hlt]; exact hL _ (List.getElem_mem hlt)]; omega), List.append_nil]
    have hS : Sect (crash1 keep (-1) 0 L ((off, padB b), s)) := crash1_sect hL hlt hb
    have hl : (crash1 keep (-1) 0 L ((off, padB b), s)).length = L.length := crash1_length _ _ _ _ _
    have h := ih (crash1 keep (-1) 0 L ((off, padB b), s)) (off + 1) (s + 1) (fun c hc => hA c (List.mem_cons_of_mem _ hc)) hS (by rw [hl]; exact hj) (by rw [hl]; rw [List.length_cons] at hoff; omega)
    show (crashed keep (-1) 0 (crash1 keep (-1) 0 L ((off, padB b), s)) ((posW (off + 1) r).zipIdx (s + 1)))[j]? = _
    rw [h, List.length_cons, e1]
    by_cases h1 : off + 1 ≤ j ∧ j < off + 1 + r.length
    · have e2 : s + 1 + (j - (off + 1)) = s + (j - off) := by omega
      rw [e2, show j - off = (j - (off + 1)) + 1 by omega, List.getElem?_cons_succ]
      have h3 : (if kept keep s = true then L.set off (padB b) else L)[j]? = L[j]? := by
        split
        · rw [List.getElem?_set_ne (by omega)]
        · rfl
      rw [h3, show j - (off + 1) + 1 = j - off by omega]
      by_cases h2 : kept keep (s + (j - off)) = true
      · rw [if_pos ⟨h1.1, h1.2, h2⟩, if_pos ⟨by omega, by omega, h2⟩]
      · rw [if_neg (fun h => h2 h.2.2), if_neg (fun h => h2 h.2.2)]
    · rw [if_neg (fun h => h1 ⟨h.1, h.2.1⟩)]
      by_cases h2 : off = j
      · subst h2
        rw [Nat.sub_self, Nat.add_zero]
        by_cases h3 : kept keep s = true
        · rw [if_pos h3, List.getElem?_set_self hlt, if_pos ⟨by omega, by omega, h3⟩]; rfl
        · rw [if_neg h3, if_neg (fun h => h3 h.2.2)]
      · have h3 : (if kept keep s = true then L.set off (padB b) else L)[j]? = L[j]? := by
          split
          · rw [List.getElem?_set_ne h2]
          · rfl
        rw [h3, if_neg (fun hh => by have := hh.1; have := hh.2.1; omega)]
/-- behind the crash -/
def flushD (A Bs : List (List Nat)) (keep : Nat) : Dev := ((((Dev.fresh 50).writes 0 A).flush).writes 25 Bs).crash keep (-1) 0
/-- a sector, as the law wants it -/
def wantB (A Bs : List (List Nat)) (keep i : Nat) : List Nat :=
  if i < A.length then padB (A.getD i []) else if 25 ≤ i ∧ i < 25 + Bs.length ∧ kept keep (i - 25) = true then padB (Bs.getD (i - 25) []) else padB []
theorem writes_wok {n : Nat} {off : Nat} {A : List (List Nat)} (hA : ∀ b ∈ A, b.length ≤ 64) (h : off + A.length ≤ n) : WOk n (posW off A) := by
  induction A generalizing off with
  | nil => intro x hx; simp [posW] at hx
  | cons b r ih =>
    intro x hx
    rw [List.length_cons] at h
    rcases List.mem_cons.1 hx with h1 | h1
    · subst h1; exact ⟨by show off < n; omega, padB_length (hA b (by simp))⟩
    · exact ih (fun c hc => hA c (List.mem_cons_of_mem _ hc)) (by omega) x h1
theorem flush_get {A Bs : List (List Nat)} (keep : Nat) (hA : ∀ b ∈ A, b.length ≤ 64) (hB : ∀ b ∈ Bs, b.length ≤ 64) (la : A.length ≤ 20) (lb : Bs.length ≤ 20) {i : Nat} (hi : i < 50) : (flushD A Bs keep).lies[i]? = some (wantB A Bs keep i) := by
  have hfl : (Dev.fresh 50).lies.length = 50 := by simp [Dev.fresh]
  have hS0 : Sect (Dev.fresh 50).lies := (Dev.fresh_ok (n := 50) (by omega) (by omega)).sect
  have e0 : (((Dev.fresh 50).writes 0 A).flush).lies = laid (Dev.fresh 50).lies (posW 0 A) := by simp [Dev.flush, Dev.told, Dev.writes, Dev.fresh]
  have hS : Sect (laid (Dev.fresh 50).lies (posW 0 A)) := laid_sect hS0 (writes_wok (n := 50) hA (by omega))
  have hlen : (laid (Dev.fresh 50).lies (posW 0 A)).length = 50 := by rw [laid_length, hfl]
  have e1 : (flushD A Bs keep).lies = crashed keep (-1) 0 (laid (Dev.fresh 50).lies (posW 0 A)) ((posW 25 Bs).zipIdx 0) := by
    unfold flushD Dev.crash
    show crashed keep (-1) 0 (((Dev.fresh 50).writes 0 A).flush).lies (((((Dev.fresh 50).writes 0 A).flush).writes 25 Bs).waits.zipIdx) = _
    rw [e0]
    simp [Dev.writes, Dev.flush]
  rw [e1, crash_pos keep _ 25 0 Bs hB hS i (by omega) (by omega), laid_pos _ 0 A i (by omega)]
  unfold wantB
  have hZ : (Dev.fresh 50).lies[i]? = some (padB []) := by
    simp only [Dev.fresh, List.getElem?_replicate, hi, if_true]; rfl
  rw [hZ, Nat.zero_add, Nat.zero_add, Nat.sub_zero]
  by_cases h1 : i < A.length
  · rw [if_neg (by omega), if_pos ⟨Nat.zero_le _, h1⟩, if_pos h1]
    simp [List.getD, h1]
  · rw [if_neg (show ¬ (0 ≤ i ∧ i < A.length) by omega), if_neg h1]
    by_cases h2 : 25 ≤ i ∧ i < 25 + Bs.length ∧ kept keep (i - 25) = true
    · rw [if_pos h2, if_pos h2]
      have : i - 25 < Bs.length := by omega
      simp [List.getD, this]
    · rw [if_neg h2, if_neg h2]
end Go.Proofs.YtngeilhdambgfaaDoor
