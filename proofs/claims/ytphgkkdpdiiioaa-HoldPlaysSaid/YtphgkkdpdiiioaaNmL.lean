/- Package name, in plain words: which rows of bytes are names, what is folded, where a text is cut. No function of the program. -/
import Derived.Test.YtphgkkdpdiiioaaGen
namespace Go.Proofs.Ytphgkkdpdiiioaa

def letN (x : Nat) : Bool := decide (97 ≤ x) && decide (x ≤ 122)
def fitN (x : Nat) : Bool := letN x || (decide (48 ≤ x) && decide (x ≤ 57)) || decide (x = 45)
def smallN (x : Nat) : Nat := if 65 ≤ x ∧ x ≤ 90 then x + 32 else x
/-- a name: 1 to 16 signs that may stand in one, a letter first -/
def rightN (l : List Nat) : Bool := decide (1 ≤ l.length) && decide (l.length ≤ 16) && letN (l.getD 0 0) && l.all fitN
/-- one more sign of what is folded -/
def putN (a : List Nat) (x : Nat) : List Nat := if a.length < 16 ∧ (letN (smallN x) = true ∨ a ≠ [] ∧ fitN (smallN x) = true) then a ++ [smallN x] else a
def foldN (l : List Nat) : List Nat := l.foldl putN []

theorem let_fit {x : Nat} (h : letN x = true) : fitN x = true := by simp [fitN, h]
theorem let_iff {x : Nat} : letN x = true ↔ 97 ≤ x ∧ x ≤ 122 := by simp [letN]
theorem fit_iff {x : Nat} : fitN x = true ↔ (97 ≤ x ∧ x ≤ 122) ∨ (48 ≤ x ∧ x ≤ 57) ∨ x = 45 := by simp [fitN, letN, or_assoc]
theorem small_fit {x : Nat} (h : fitN x = true) : smallN x = x := by
  rw [fit_iff] at h
  unfold smallN
  rw [if_neg (by omega)]
theorem small_lt {x : Nat} (h : x < 256) : smallN x < 256 := by unfold smallN; split <;> omega
theorem right_iff {l : List Nat} : rightN l = true ↔ (1 ≤ l.length ∧ l.length ≤ 16) ∧ letN (l.getD 0 0) = true ∧ ∀ x ∈ l, fitN x = true := by
  simp [rightN, and_assoc]
theorem put_step {a : List Nat} {x : Nat} (h : a.length < 16 ∧ (letN (smallN x) = true ∨ a ≠ [] ∧ fitN (smallN x) = true)) : putN a x = a ++ [smallN x] := if_pos h
theorem put_left {a : List Nat} {x : Nat} (h : ¬ (a.length < 16 ∧ (letN (smallN x) = true ∨ a ≠ [] ∧ fitN (smallN x) = true))) : putN a x = a := if_neg h
theorem put_full {a : List Nat} (h : 16 ≤ a.length) : ∀ l : List Nat, l.foldl putN a = a
  | [] => rfl
  | x :: l => by rw [List.foldl_cons, put_left (by omega), put_full h l]
/-- what is folded so far: nothing, or a name -/
def PartN (a : List Nat) : Prop := a.length ≤ 16 ∧ (a = [] ∨ letN (a.getD 0 0) = true) ∧ ∀ x ∈ a, fitN x = true
theorem PartN.nil : PartN [] := ⟨Nat.zero_le _, .inl rfl, fun _ h => by simp at h⟩
theorem PartN.put {a : List Nat} (h : PartN a) (x : Nat) : PartN (putN a x) := by
  by_cases hp : a.length < 16 ∧ (letN (smallN x) = true ∨ a ≠ [] ∧ fitN (smallN x) = true)
  · rw [put_step hp]
    obtain ⟨h1, h2, h3⟩ := h
    refine ⟨by rw [List.length_append]; exact hp.1, .inr ?_, fun y hy => ?_⟩
    · rcases h2 with rfl | h2
      · rcases hp.2 with h | ⟨h, _⟩
        · exact h
        · exact absurd rfl h
      · cases a with
        | nil => simp [letN] at h2
        | cons b r => simpa using h2
    · rcases List.mem_append.1 hy with h | h
      · exact h3 y h
      · rw [List.mem_singleton.1 h]
        rcases hp.2 with h | ⟨_, h⟩
        · exact let_fit h
        · exact h
  · rw [put_left hp]; exact h
theorem PartN.fold {a : List Nat} (h : PartN a) : ∀ l : List Nat, PartN (l.foldl putN a)
  | [] => h
  | x :: l => by rw [List.foldl_cons]; exact (h.put x).fold l
theorem PartN.right {a : List Nat} (h : PartN a) (h0 : a ≠ []) : rightN a = true :=
  right_iff.2 ⟨⟨Nat.pos_of_ne_zero fun e => h0 (List.length_eq_zero_iff.1 e), h.1⟩, h.2.1.resolve_left h0, h.2.2⟩
theorem fold_part (l : List Nat) : PartN (foldN l) := PartN.nil.fold l
theorem fold_len (l : List Nat) : (foldN l).length ≤ 16 := (fold_part l).1
theorem fold_right {l : List Nat} (h : foldN l ≠ []) : rightN (foldN l) = true := (fold_part l).right h
theorem fold_lt (l : List Nat) : ∀ x ∈ foldN l, x < 256 := fun x hx => by
  have := (fold_part l).2.2 x hx
  rw [fit_iff] at this; omega
theorem fold_on {a : List Nat} : ∀ l : List Nat, a ≠ [] → a.length + l.length ≤ 16 → (∀ x ∈ l, fitN x = true) → l.foldl putN a = a ++ l
  | [], _, _, _ => by simp
  | x :: l, h0, hn, hf => by
    have hx := hf x (by simp)
    rw [List.length_cons] at hn
    rw [List.foldl_cons, put_step ⟨by omega, .inr ⟨h0, by rw [small_fit hx]; exact hx⟩⟩, small_fit hx, fold_on l (by simp) (by simp; omega) (fun y hy => hf y (by simp [hy]))]
    simp
/-- a name is folded to itself -/
theorem fold_name {l : List Nat} (h : rightN l = true) : foldN l = l := by
  obtain ⟨⟨h1, h2⟩, h3, h4⟩ := right_iff.1 h
  cases l with
  | nil => simp at h1
  | cons x r =>
    have h3 : letN x = true := by simpa using h3
    have hx := let_fit h3
    unfold foldN
    rw [List.foldl_cons, put_step ⟨by simp, .inl (by rw [small_fit hx]; exact h3)⟩, small_fit hx, fold_on r (by simp) (by simpa [Nat.add_comm] using h2) (fun y hy => h4 y (by simp [hy]))]
    simp
theorem right_slash {l : List Nat} (h : rightN l = true) : 47 ∉ l := fun hm => by
  have := (right_iff.1 h).2.2 47 hm
  simp [fit_iff] at this
theorem right_lt {l : List Nat} (h : rightN l = true) : ∀ x ∈ l, x < 256 := fun x hx => by
  have := (right_iff.1 h).2.2 x hx
  rw [fit_iff] at this; omega
/-- two ways to be cut at the first sign are one -/
theorem cut_once {a b a' b' : List Nat} {c : Nat} (h : a ++ c :: b = a' ++ c :: b') (ha : c ∉ a) (ha' : c ∉ a') : a = a' ∧ b = b' := by
  induction a generalizing a' with
  | nil =>
    cases a' with
    | nil => exact ⟨rfl, by simpa using h⟩
    | cons x r => simp only [List.nil_append, List.cons_append, List.cons.injEq] at h; exact absurd (by rw [← h.1]; simp) ha'
  | cons y s ih =>
    cases a' with
    | nil => simp only [List.nil_append, List.cons_append, List.cons.injEq] at h; exact absurd (by rw [h.1]; simp) ha
    | cons x r =>
      simp only [List.cons_append, List.cons.injEq] at h
      obtain ⟨h1, h2⟩ := ih h.2 (fun hm => ha (by simp [hm])) (fun hm => ha' (by simp [hm]))
      exact ⟨by rw [h.1, h1], h2⟩
theorem first_of : ∀ {l : List Nat} {c : Nat}, c ∈ l → ∃ p q, l = p ++ c :: q ∧ c ∉ p
  | x :: l, c, h => by
    by_cases hx : x = c
    · exact ⟨[], l, by rw [hx]; rfl, by simp⟩
    · obtain ⟨p, q, h1, h2⟩ := first_of (l := l) ((List.mem_cons.1 h).resolve_left fun e => hx e.symm)
      exact ⟨x :: p, q, by rw [h1]; rfl, by simp only [List.mem_cons, not_or]; exact ⟨fun e => hx e.symm, h2⟩⟩
/-- where a text is cut: nowhere; or at the first / -/
def CutN (l : List Nat) (a b : List Nat) (ok : Bool) : Prop := (47 ∉ l ∧ a = l ∧ b = [] ∧ ok = false) ∨ (l = a ++ 47 :: b ∧ 47 ∉ a ∧ ok = true)
end Go.Proofs.Ytphgkkdpdiiioaa
