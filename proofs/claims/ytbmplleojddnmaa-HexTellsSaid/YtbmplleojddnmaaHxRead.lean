/- Package hex, over plain numbers: the bytes that signs tell. -/
import Derived.Test.YtbmplleojddnmaaHxL
import Derived.Laws.MakeOwn
namespace Go.Proofs.Ytbmplleojddnmaa
open Go.RowKit

/-- the half at a place, or nought -/
def halfAt (S : List Nat) (k : Nat) : Nat := (halfB (S.getD k 0)).getD 0
theorem halfAt_lt (S : List Nat) (k : Nat) : halfAt S k < 16 := by
  unfold halfAt
  cases h : halfB (S.getD k 0) with
  | none => decide
  | some x => exact (half_lt h).1
/-- the bytes that halves tell, two by two -/
def pairsB (S : List Nat) : List Nat := (List.range ((S.length + 1) / 2)).map fun j => 16 * halfAt S (2 * j) + halfAt S (2 * j + 1)
theorem pairsB_length (S : List Nat) : (pairsB S).length = (S.length + 1) / 2 := by simp [pairsB]
theorem pairsB_at {S : List Nat} {j : Nat} (h : j < (S.length + 1) / 2) : (pairsB S).getD j 0 = 16 * halfAt S (2 * j) + halfAt S (2 * j + 1) := by simp [pairsB, List.getD, h]
theorem pairsB_lt (S : List Nat) : ∀ x ∈ pairsB S, x < 256 := by
  intro x hx
  obtain ⟨j, _, rfl⟩ := List.mem_map.1 hx
  have h1 := halfAt_lt S (2 * j)
  have h2 := halfAt_lt S (2 * j + 1)
  show 16 * halfAt S (2 * j) + halfAt S (2 * j + 1) < 256
  omega
theorem sign_of_half {S : List Nat} {k : Nat} (h : (halfB (S.getD k 0)).isSome = true) : S.getD k 0 = signB (halfAt S k) := by
  unfold halfAt
  cases e : halfB (S.getD k 0) with
  | none => rw [e] at h; cases h
  | some x => exact (half_lt e).2
/-- as many signs as twice the bytes: they are the bytes' signs -/
theorem pairs_signs {S : List Nat} {m : Nat} (hm : S.length = 2 * m) (h : ∀ k, k < S.length → (halfB (S.getD k 0)).isSome = true) : S = signsB (pairsB S) := by
  have hl : (pairsB S).length = m := by rw [pairsB_length]; omega
  refine List.ext_getElem? fun k => ?_
  by_cases hk : k < S.length
  · have g : S[k]? = some (S.getD k 0) := by simp [List.getD, hk]
    rw [g, sign_of_half (h k hk)]
    obtain ⟨j, hj⟩ : ∃ j, k = 2 * j ∨ k = 2 * j + 1 := ⟨k / 2, by omega⟩
    have h1 := halfAt_lt S (2 * j)
    have h2 := halfAt_lt S (2 * j + 1)
    obtain ⟨a1, a2⟩ := signsB_at (pairsB S) j (by omega)
    rw [pairsB_at (by omega)] at a1 a2
    rcases hj with rfl | rfl
    · rw [a1, show (16 * halfAt S (2 * j) + halfAt S (2 * j + 1)) / 16 = halfAt S (2 * j) by omega]
    · rw [a2, show (16 * halfAt S (2 * j) + halfAt S (2 * j + 1)) % 16 = halfAt S (2 * j + 1) by omega]
  · rw [List.getElem?_eq_none (by omega), List.getElem?_eq_none (by rw [signsB_len]; omega)]
/-- signs of bytes: each is one -/
theorem signs_half {l : List Nat} (hl : ∀ x ∈ l, x < 256) {k : Nat} (hk : k < 2 * l.length) : (halfB ((signsB l).getD k 0)).isSome = true := by
  obtain ⟨j, hj⟩ : ∃ j, k = 2 * j ∨ k = 2 * j + 1 := ⟨k / 2, by omega⟩
  obtain ⟨a1, a2⟩ := signsB_at l j (by omega)
  have hb := getD_byte hl j
  rcases hj with rfl | rfl
  · rw [List.getD, a1, Option.getD_some, half_sign _ (by omega)]; rfl
  · rw [List.getD, a2, Option.getD_some, half_sign _ (by omega)]; rfl
theorem signs_inj : ∀ {a b : List Nat}, (∀ x ∈ a, x < 256) → (∀ x ∈ b, x < 256) → signsB a = signsB b → a = b
  | [], [], _, _, _ => rfl
  | [], y :: b, _, _, h => by rw [signsB_cons] at h; cases h
  | x :: a, [], _, _, h => by rw [signsB_cons] at h; cases h
  | x :: a, y :: b, ha, hb, h => by
    rw [signsB_cons, signsB_cons] at h
    have hx := ha x (by simp)
    have hy := hb y (by simp)
    have h1 := (sign_order (x / 16) (by omega) (y / 16) (by omega)).2.1 (List.cons.inj h).1
    have h2 := (sign_order (x % 16) (by omega) (y % 16) (by omega)).2.1 (List.cons.inj (List.cons.inj h).2).1
    rw [signs_inj (fun z hz => ha z (by simp [hz])) (fun z hz => hb z (by simp [hz])) (List.cons.inj (List.cons.inj h).2).2, show x = y by omega]
theorem arr_full {w : World} {B g n : Nat} {e : TypeId} {xs : List Value} (h : w.ownsRow B e 1 (.slice (some ⟨g, 0, none⟩) n n) n xs) : Arr w g e xs := by
  rcases h.2 with ⟨hv, _⟩ | ⟨g', cap, cur, hv, _, hg, _, _, hc, ht⟩
  · cases hv
  · cases hv
    have : cur.toList = xs := by rw [← ht, List.take_of_length_le (by simp at hc ⊢; omega)]
    unfold Arr; rw [← this]; simpa using hg
theorem full_arr {w : World} {B g n : Nat} {e : TypeId} {xs : List Value} (h : Arr w g e xs) (hB : B ≤ g) (hn : xs.length = n) (hm : n ≤ maxLen) : w.ownsRow B e 1 (.slice (some ⟨g, 0, none⟩) n n) n xs := by
  refine ⟨by omega, .inr ⟨g, n, xs.toArray, rfl, hB, h, Nat.le_refl _, hm, by simpa using hn, ?_⟩⟩
  rw [Nat.mul_one, List.take_of_length_le (by simpa using Nat.le_of_eq hn)]
theorem made_u8 (n : Nat) : (madeCells (Value.int .u8 0).cells (n * 1)).toList = u8s (List.replicate n 0) := by
  unfold madeCells u8s
  rw [Nat.mul_one, Array.toList_map, Array.toList_range, List.map_replicate]
  refine List.ext_getElem (by simp) fun i h1 h2 => ?_
  simp [Value.cells, Nat.mod_one]
/-- what Parse tells of a text -/
def ParseIs (w : World) (B : Nat) (s : ByteArray) (v : Value) (m : Int) : Prop :=
  (m = 0 ∧ ∃ bs : List Nat, ordsOf s = signsB bs ∧ (∀ x ∈ bs, x < 256) ∧ w.ownsRow B 5 1 v bs.length (u8s bs)) ∨
  (m = 2 ∧ v = .slice none 0 0 ∧ ∃ k, k < s.size ∧ halfB ((ordsOf s).getD k 0) = none) ∨
  (m = 4 ∧ v = .slice none 0 0 ∧ s.size % 2 = 1 ∧ ∀ k, k < s.size → (halfB ((ordsOf s).getD k 0)).isSome = true)
/-- signs of bytes are parsed to these -/
theorem parse_own {w : World} {B : Nat} {l : List Nat} {v : Value} {m : Int} (hl : ∀ x ∈ l, x < 256) (h : ParseIs w B (strOf (signsB l)) v m) : m = 0 ∧ w.ownsRow B 5 1 v l.length (u8s l) := by
  have ho : ordsOf (strOf (signsB l)) = signsB l := ords_strOf (signsB_byte hl)
  have hz : (strOf (signsB l)).size = 2 * l.length := by rw [strOf_size, signsB_len]
  rcases h with ⟨h0, bs, h1, h2, h3⟩ | ⟨_, _, k, hk, h1⟩ | ⟨_, _, h1, _⟩
  · rw [ho] at h1
    obtain rfl := signs_inj hl h2 h1
    exact ⟨h0, h3⟩
  · rw [ho] at h1
    have h2 := signs_half hl (k := k) (by omega)
    rw [h1] at h2; cases h2
  · omega
end Go.Proofs.Ytbmplleojddnmaa
