/- Stamped sectors as bytes: packed, unpacked, torn. -/
import Derived.Test.YtngeilhdambgfaaDoorOctRd
namespace Go.Proofs.YtngeilhdambgfaaDoor
open Go.RowKit

/-- a stamped sector -/
structure Sec where
  turn : Nat
  place : Nat
  last : Bool
  data : List Nat
/-- none -/
def Sec.none : Sec := ⟨0, 0, false, []⟩
/-- one that came in -/
def Sec.In (s : Sec) : Prop := s.turn < 4294967296 ∧ s.place < 4294967296 ∧ ∀ x ∈ s.data, x < 256
/-- one that may be packed -/
def Sec.Ok (s : Sec) : Prop := s.turn ≠ 0 ∧ s.data.length ≤ 47 ∧ s.In
def stampB (t p : Nat) : List Nat := numB t 4 ++ numB p 4
def Sec.mark (s : Sec) : Nat := s.data.length + if s.last = true then 128 else 0
def Sec.body (s : Sec) : List Nat := s.data ++ List.replicate (47 - s.data.length) 0
/-- its bytes -/
def secB (s : Sec) : List Nat := stampB s.turn s.place ++ ([s.mark] ++ (s.body ++ stampB s.turn s.place))
theorem stampB_length (t p : Nat) : (stampB t p).length = 8 := by simp [stampB, numB_length]
theorem stampB_small (t p : Nat) : ∀ x ∈ stampB t p, x < 256 := by
  intro x hx
  rcases List.mem_append.1 hx with h | h
  · exact numB_small _ _ x h
  · exact numB_small _ _ x h
theorem body_length {s : Sec} (h : s.data.length ≤ 47) : s.body.length = 47 := by unfold Sec.body; rw [List.length_append, List.length_replicate]; omega
theorem secB_length {s : Sec} (h : s.data.length ≤ 47) : (secB s).length = 64 := by
  unfold secB
  rw [List.length_append, List.length_append, List.length_append, stampB_length, body_length h]
  rfl
theorem secB_small {s : Sec} (h : s.Ok) : ∀ x ∈ secB s, x < 256 := by
  intro x hx
  have hm : s.mark < 256 := by have := h.2.1; unfold Sec.mark; split <;> omega
  simp only [secB, Sec.body, List.mem_append, List.mem_singleton, List.mem_replicate] at hx
  rcases hx with hx | hx | (hx | hx) | hx
  · exact stampB_small _ _ x hx
  · omega
  · exact h.2.2.2.2 x hx
  · omega
  · exact stampB_small _ _ x hx

theorem valB_inj : ∀ (n : Nat) (a b : List Nat), a.length = n → b.length = n → (∀ x ∈ a, x < 256) → (∀ x ∈ b, x < 256) → valB a = valB b → a = b := by
  intro n
  induction n with
  | zero => intro a b ha hb _ _ _; rw [List.length_eq_zero_iff.1 ha, List.length_eq_zero_iff.1 hb]
  | succ n ih =>
    intro a b ha hb h1 h2 he
    rcases List.eq_nil_or_concat a with rfl | ⟨a', x, rfl⟩
    · simp at ha
    rcases List.eq_nil_or_concat b with rfl | ⟨b', y, rfl⟩
    · simp at hb
    rw [List.concat_eq_append] at ha h1 he ⊢
    rw [List.concat_eq_append] at hb h2 he ⊢
    rw [valB_snoc, valB_snoc] at he
    have hx : x < 256 := h1 x (by simp)
    have hy : y < 256 := h2 y (by simp)
    have e1 : valB a' = valB b' := by omega
    have e2 : x = y := by omega
    rw [ih a' b' (by simpa using ha) (by simpa using hb) (fun z hz => h1 z (by simp [hz])) (fun z hz => h2 z (by simp [hz])) e1, e2]
theorem stampB_inj {t p t' p' : Nat} (h1 : t < 4294967296) (h2 : p < 4294967296) (h3 : t' < 4294967296) (h4 : p' < 4294967296) (h : stampB t p = stampB t' p') : t = t' ∧ p = p' := by
  unfold stampB at h
  obtain ⟨e1, e2⟩ := List.append_inj h (by rw [numB_length, numB_length])
  have k1 := congrArg valB e1
  have k2 := congrArg valB e2
  rw [valB_numB (by omega), valB_numB (by omega)] at k1 k2
  exact ⟨k1, k2⟩

/-- what eight bytes are as a stamp -/
def stampOf (l : List Nat) : Nat × Nat := (valB (l.take 4), valB ((l.drop 4).take 4))
theorem stampOf_B {t p : Nat} (h1 : t < 4294967296) (h2 : p < 4294967296) : stampOf (stampB t p) = (t, p) := by
  unfold stampOf stampB
  have e1 : (numB t 4 ++ numB p 4).take 4 = numB t 4 := List.take_left' (numB_length t 4)
  have e2 : (numB t 4 ++ numB p 4).drop 4 = numB p 4 := List.drop_left' (numB_length t 4)
  rw [e1, e2, List.take_of_length_le (by rw [numB_length]; omega), valB_numB (by omega), valB_numB (by omega)]
theorem stampOf_inj {a b : List Nat} (ha : a.length = 8) (hb : b.length = 8) (h1 : ∀ x ∈ a, x < 256) (h2 : ∀ x ∈ b, x < 256) (h : stampOf a = stampOf b) : a = b := by
  unfold stampOf at h
  obtain ⟨e1, e2⟩ := Prod.mk.inj h
  have k1 := valB_inj 4 _ _ (by rw [List.length_take]; omega) (by rw [List.length_take]; omega) (fun x hx => h1 x (List.mem_of_mem_take hx)) (fun x hx => h2 x (List.mem_of_mem_take hx)) e1
  have k2 := valB_inj 4 _ _ (by rw [List.length_take, List.length_drop]; omega) (by rw [List.length_take, List.length_drop]; omega) (fun x hx => h1 x (List.mem_of_mem_drop (List.mem_of_mem_take hx))) (fun x hx => h2 x (List.mem_of_mem_drop (List.mem_of_mem_take hx))) e2
  rw [List.take_of_length_le (by rw [List.length_drop]; omega), List.take_of_length_le (by rw [List.length_drop]; omega)] at k2
  rw [← List.take_append_drop 4 a, ← List.take_append_drop 4 b, k1, k2]

/-- are all of them 0? -/
def zeroL (l : List Nat) : Bool := l.all (· == 0)
theorem zeroL_iff {l : List Nat} : zeroL l = true ↔ ∀ x ∈ l, x = 0 := by simp [zeroL]
theorem zeroL_rep (n : Nat) : zeroL (List.replicate n 0) = true := by rw [zeroL_iff]; intro x hx; exact (List.mem_replicate.1 hx).2
theorem zeroL_getD {l : List Nat} (h : zeroL l = true) (i : Nat) : l.getD i 0 = 0 := by
  by_cases hi : i < l.length
  · simp [List.getD, hi]; exact zeroL_iff.1 h _ (List.getElem_mem hi)
  · simp [List.getD, List.getElem?_eq_none (Nat.le_of_not_lt hi)]
theorem zeroL_of {l : List Nat} (h : ∀ i, i < l.length → l.getD i 0 = 0) : zeroL l = true := by
  rw [zeroL_iff]
  intro x hx
  obtain ⟨i, hi, rfl⟩ := List.getElem_of_mem hx
  have := h i hi
  simpa [List.getD, hi] using this
theorem zeroL_not {l : List Nat} {i : Nat} (h : l.getD i 0 ≠ 0) : zeroL l = false := by
  cases hz : zeroL l with
  | false => rfl
  | true => exact absurd (zeroL_getD hz i) h
/-- how many bytes it bears, of a byte that tells it -/
def bears (b : List Nat) : Nat := b.getD 8 0 % 128
def stRowOf (b : List Nat) : List Nat := (b.drop 9).take 47
/-- which error there is -/
def unpackE (b : List Nat) : Int :=
  if b.length < 64 then 4 else if 64 < b.length then 12 else if zeroL b = true then 7 else if stampOf b ≠ stampOf (b.drop 56) then 5
  else if (stampOf b).1 = 0 ∨ 47 < bears b ∨ zeroL ((stRowOf b).drop (bears b)) = false then 2 else 0
/-- the sector that is told -/
def stOf (b : List Nat) : Sec := if unpackE b = 0 then ⟨(stampOf b).1, (stampOf b).2, decide (128 ≤ b.getD 8 0), (stRowOf b).take (bears b)⟩ else Sec.none

theorem getD_append_left {a b : List Nat} {i : Nat} (h : i < a.length) : (a ++ b).getD i 0 = a.getD i 0 := by simp [List.getD, List.getElem?_append_left h]
theorem stampOf_take (b : List Nat) : stampOf b = stampOf (b.take 8) := by
  unfold stampOf
  rw [List.take_take, List.drop_take, List.take_take]
  simp
theorem secB_take (s : Sec) : (secB s).take 8 = stampB s.turn s.place := by unfold secB; exact List.take_left' (stampB_length _ _)
theorem secB_drop {s : Sec} (h : s.data.length ≤ 47) : (secB s).drop 56 = stampB s.turn s.place := by
  have e : secB s = (stampB s.turn s.place ++ ([s.mark] ++ s.body)) ++ stampB s.turn s.place := by simp [secB]
  rw [e]
  exact List.drop_left' (by rw [List.length_append, List.length_append, stampB_length, body_length h]; rfl)
theorem secB_mark (s : Sec) : (secB s).getD 8 0 = s.mark := by
  unfold secB
  simp [List.getD, stampB_length]
theorem secB_row {s : Sec} (h : s.data.length ≤ 47) : stRowOf (secB s) = s.body := by
  have e : secB s = (stampB s.turn s.place ++ [s.mark]) ++ (s.body ++ stampB s.turn s.place) := by simp [secB]
  unfold stRowOf
  rw [e, List.drop_left' (by rw [List.length_append, stampB_length]; rfl), List.take_left' (body_length h)]
theorem secB_bears {s : Sec} (h : s.data.length ≤ 47) : bears (secB s) = s.data.length := by
  unfold bears
  rw [secB_mark]
  unfold Sec.mark
  split <;> omega
theorem stampOf_secB {s : Sec} (h : s.In) : stampOf (secB s) = (s.turn, s.place) := by rw [stampOf_take, secB_take, stampOf_B h.1 h.2.1]
theorem numB_zero {n : Nat} (h : zeroL (numB n 4) = true) (hn : n < 4294967296) : n = 0 := by
  have h1 : numB n 4 = numB 0 4 := by
    refine List.ext_getElem (by rw [numB_length, numB_length]) fun i h1 h2 => ?_
    rw [zeroL_iff.1 h _ (List.getElem_mem h1)]
    have : numB 0 4 = [0, 0, 0, 0] := rfl
    rw [numB_length] at h1
    rcases (show i = 0 ∨ i = 1 ∨ i = 2 ∨ i = 3 by omega) with rfl | rfl | rfl | rfl <;> rfl
  have h2 := congrArg valB h1
  rwa [valB_numB (by omega), valB_numB (by omega)] at h2
theorem secB_nonzero {s : Sec} (h : s.Ok) : zeroL (secB s) = false := by
  cases hz : zeroL (secB s) with
  | false => rfl
  | true =>
    refine absurd (numB_zero (n := s.turn) (zeroL_iff.2 fun x hx => zeroL_iff.1 hz x ?_) h.2.2.1) h.1
    unfold secB stampB
    simp [hx]
theorem unpackE_secB {s : Sec} (h : s.Ok) : unpackE (secB s) = 0 := by
  unfold unpackE
  have hl := secB_length h.2.1
  rw [if_neg (by omega), if_neg (by omega), if_neg (by rw [secB_nonzero h]; decide), if_neg, if_neg]
  · rw [stampOf_secB h.2.2, secB_bears h.2.1, secB_row h.2.1]
    rintro (h1 | h1 | h1)
    · exact h.1 h1
    · have := h.2.1; omega
    · unfold Sec.body at h1
      rw [List.drop_left' rfl, zeroL_rep] at h1
      cases h1
  · rw [stampOf_secB h.2.2, secB_drop h.2.1, stampOf_B h.2.2.1 h.2.2.2.1]
    simp
/-- what is packed is unpacked -/
theorem unpackS_secB {s : Sec} (h : s.Ok) : stOf (secB s) = s := by
  unfold stOf
  rw [if_pos (unpackE_secB h), stampOf_secB h.2.2, secB_bears h.2.1, secB_row h.2.1, secB_mark]
  have e : s.body.take s.data.length = s.data := by unfold Sec.body; exact List.take_left' rfl
  have e2 : decide (128 ≤ s.mark) = s.last := by
    have := h.2.1
    unfold Sec.mark
    cases s.last
    · simp; omega
    · simp
  rw [e, e2]
theorem unpackE_zero : unpackE (List.replicate 64 0) = 7 := by
  unfold unpackE
  rw [if_neg (by simp), if_neg (by simp), if_pos (zeroL_rep 64)]

/-! ### Torn -/
theorem torn_at {X Y : List Nat} {k : Nat} (hX : X.length = 64) (_hY : Y.length = 64) (hk : k ≤ 64) (i : Nat) : (X.take k ++ Y.drop k)[i]? = if i < k then X[i]? else Y[i]? := by
  by_cases h : i < k
  · rw [if_pos h, List.getElem?_append_left (by rw [List.length_take]; omega), List.getElem?_take_of_lt h]
  · rw [if_neg h, List.getElem?_append_right (by rw [List.length_take]; omega), List.length_take, List.getElem?_drop]
    congr 1; omega
theorem torn_length {X Y : List Nat} {k : Nat} (hX : X.length = 64) (hY : Y.length = 64) (hk : k ≤ 64) : (X.take k ++ Y.drop k).length = 64 := by
  rw [List.length_append, List.length_take, List.length_drop]; omega
theorem ends_at {Z : List Nat} (h : Z.take 8 = Z.drop 56) (i : Nat) (hi : i < 8) : Z[i]? = Z[56 + i]? := by
  have := congrArg (·[i]?) h
  simpa [List.getElem?_take_of_lt hi] using this
theorem torn_same {X Y : List Nat} {k : Nat} (hX : X.length = 64) (hY : Y.length = 64) (hk : k ≤ 64) (hXe : X.take 8 = X.drop 56) (hYe : Y.take 8 = Y.drop 56) (hne : X.take 8 ≠ Y.take 8)
    (h : (X.take k ++ Y.drop k).take 8 = (X.take k ++ Y.drop k).drop 56) : X.take k ++ Y.drop k = X ∨ X.take k ++ Y.drop k = Y := by
  have hz : ∀ i, i < 8 → (if i < k then X[i]? else Y[i]?) = if 56 + i < k then X[56 + i]? else Y[56 + i]? := fun i hi => by
    have := ends_at h i hi
    rwa [torn_at hX hY hk, torn_at hX hY hk] at this
  have hx := ends_at hXe
  have hy := ends_at hYe
  by_cases h1 : k ≤ 8
  · refine .inr (List.ext_getElem? fun i => ?_)
    rw [torn_at hX hY hk]
    by_cases hi : i < k
    · have := hz i (by omega)
      rw [if_pos hi, if_neg (by omega)] at this
      rw [if_pos hi, this, ← hy i (by omega)]
    · rw [if_neg hi]
  · by_cases h2 : k ≤ 56
    · refine absurd (List.ext_getElem? fun i => ?_) hne
      by_cases hi : i < 8
      · have := hz i hi
        rw [if_pos (by omega), if_neg (by omega)] at this
        rw [List.getElem?_take_of_lt hi, List.getElem?_take_of_lt hi, this, ← hy i hi]
      · rw [List.getElem?_eq_none (by rw [List.length_take]; omega), List.getElem?_eq_none (by rw [List.length_take]; omega)]
    · refine .inl (List.ext_getElem? fun i => ?_)
      rw [torn_at hX hY hk]
      by_cases hi : i < k
      · rw [if_pos hi]
      · rw [if_neg hi]
        by_cases hi2 : i < 64
        · have := hz (i - 56) (by omega)
          rw [if_pos (by omega), if_neg (by omega), show 56 + (i - 56) = i by omega, hx (i - 56) (by omega), show 56 + (i - 56) = i by omega] at this
          exact this.symm
        · rw [List.getElem?_eq_none (by omega), List.getElem?_eq_none (by omega)]
/-- of a torn one: the one, the other, or that it is torn -/
theorem unpack_torn {X Y : List Nat} {k : Nat} (hX : X.length = 64) (hY : Y.length = 64) (hXb : ∀ x ∈ X, x < 256) (hYb : ∀ x ∈ Y, x < 256) (hk : k ≤ 64) (hXe : X.take 8 = X.drop 56) (hYe : Y.take 8 = Y.drop 56) (hne : X.take 8 ≠ Y.take 8) :
    X.take k ++ Y.drop k = X ∨ X.take k ++ Y.drop k = Y ∨ unpackE (X.take k ++ Y.drop k) = 5 := by
  have hb : ∀ x ∈ X.take k ++ Y.drop k, x < 256 := by
    intro x hx
    rcases List.mem_append.1 hx with h | h
    · exact hXb x (List.mem_of_mem_take h)
    · exact hYb x (List.mem_of_mem_drop h)
  have hl := torn_length hX hY hk
  by_cases h : (X.take k ++ Y.drop k).take 8 = (X.take k ++ Y.drop k).drop 56
  · rcases torn_same hX hY hk hXe hYe hne h with h | h
    · exact .inl h
    · exact .inr (.inl h)
  · refine .inr (.inr ?_)
    generalize X.take k ++ Y.drop k = Z at hl hb h
    unfold unpackE
    rw [if_neg (by omega), if_neg (by omega), if_neg, if_pos]
    · intro he
      rw [stampOf_take] at he
      exact h (stampOf_inj (by rw [List.length_take]; omega) (by rw [List.length_drop]; omega) (fun x hx => hb x (List.mem_of_mem_take hx)) (fun x hx => hb x (List.mem_of_mem_drop hx)) he)
    · intro hz
      have hz := zeroL_iff.1 hz
      refine h (List.ext_getElem (by rw [List.length_take, List.length_drop]; omega) fun i h1 h2 => ?_)
      rw [hz _ (List.mem_of_mem_take (List.getElem_mem h1)), hz _ (List.mem_of_mem_drop (List.getElem_mem h2))]
end Go.Proofs.YtngeilhdambgfaaDoor
