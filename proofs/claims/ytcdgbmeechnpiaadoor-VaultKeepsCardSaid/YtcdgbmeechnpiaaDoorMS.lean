/- StL, StAt, StUnp, StRow, StPack, StSplit, StJoin, StBad, StTurn: laid into one. -/
import Derived.Test.YtcdgbmeechnpiaaDoorMO
import Derived.Test.YtcdgbmeechnpiaaDoorMA
import Derived.Deep.DeepCutAuto
/- Stamped sectors as bytes: packed, unpacked, torn. -/
namespace Go.Proofs.YtcdgbmeechnpiaaDoor
open Go.RowKit

/-- a stamped sector -/
structure Sec where
  turn : Nat
  place : Nat
  last : Bool
  data : List Nat
/-- none -/
def Sec.none : Sec := ⟨0, 0, false, []⟩
/-- one that came in -/
def Sec.In (s : Sec) : Prop := s.turn < 4294967296 ∧ s.place < 4294967296 ∧ ∀ x ∈ s.data, x < 256
/-- one that may be packed -/
def Sec.Ok (s : Sec) : Prop := s.turn ≠ 0 ∧ s.data.length ≤ 47 ∧ s.In
def stampB (t p : Nat) : List Nat := numB t 4 ++ numB p 4
def Sec.mark (s : Sec) : Nat := s.data.length + if s.last = true then 128 else 0
def Sec.body (s : Sec) : List Nat := s.data ++ List.replicate (47 - s.data.length) 0
/-- its bytes -/
def secB (s : Sec) : List Nat := stampB s.turn s.place ++ ([s.mark] ++ (s.body ++ stampB s.turn s.place))
theorem stampB_length (t p : Nat) : (stampB t p).length = 8 := by simp [stampB, numB_length]
theorem stampB_small (t p : Nat) : ∀ x ∈ stampB t p, x < 256 := by
  intro x hx
  rcases List.mem_append.1 hx with h | h
  · exact numB_small _ _ x h
  · exact numB_small _ _ x h
theorem body_length {s : Sec} (h : s.data.length ≤ 47) : s.body.length = 47 := by unfold Sec.body; rw [List.length_append, List.length_replicate]; omega
theorem secB_length {s : Sec} (h : s.data.length ≤ 47) : (secB s).length = 64 := by
  unfold secB
  rw [List.length_append, List.length_append, List.length_append, stampB_length, body_length h]
  rfl
theorem secB_small {s : Sec} (h : s.Ok) : ∀ x ∈ secB s, x < 256 := by
  intro x hx
  have hm : s.mark < 256 := by have := h.2.1; unfold Sec.mark; split <;> omega
  simp only [secB, Sec.body, List.mem_append, List.mem_singleton, List.mem_replicate] at hx
  rcases hx with hx | hx | (hx | hx) | hx
  · exact stampB_small _ _ x hx
  · omega
  · exact h.2.2.2.2 x hx
  · omega
  · exact stampB_small _ _ x hx

theorem valB_inj : ∀ (n : Nat) (a b : List Nat), a.length = n → b.length = n → (∀ x ∈ a, x < 256) → (∀ x ∈ b, x < 256) → valB a = valB b → a = b := by
  intro n
  induction n with
  | zero => intro a b ha hb _ _ _; rw [List.length_eq_zero_iff.1 ha, List.length_eq_zero_iff.1 hb]
  | succ n ih =>
    intro a b ha hb h1 h2 he
    rcases List.eq_nil_or_concat a with rfl | ⟨a', x, rfl⟩
    · simp at ha
    rcases List.eq_nil_or_concat b with rfl | ⟨b', y, rfl⟩
    · simp at hb
    rw [List.concat_eq_append] at ha h1 he ⊢
    rw [List.concat_eq_append] at hb h2 he ⊢
    rw [valB_snoc, valB_snoc] at he
    have hx : x < 256 := h1 x (by simp)
    have hy : y < 256 := h2 y (by simp)
    have e1 : valB a' = valB b' := by omega
    have e2 : x = y := by omega
    rw [ih a' b' (by simpa using ha) (by simpa using hb) (fun z hz => h1 z (by simp [hz])) (fun z hz => h2 z (by simp [hz])) e1, e2]
theorem stampB_inj {t p t' p' : Nat} (h1 : t < 4294967296) (h2 : p < 4294967296) (h3 : t' < 4294967296) (h4 : p' < 4294967296) (h : stampB t p = stampB t' p') : t = t' ∧ p = p' := by
  unfold stampB at h
  obtain ⟨e1, e2⟩ := List.append_inj h (by rw [numB_length, numB_length])
  have k1 := congrArg valB e1
  have k2 := congrArg valB e2
  rw [valB_numB (by omega), valB_numB (by omega)] at k1 k2
  exact ⟨k1, k2⟩

/-- what eight bytes are as a stamp -/
def stampOf (l : List Nat) : Nat × Nat := (valB (l.take 4), valB ((l.drop 4).take 4))
theorem stampOf_B {t p : Nat} (h1 : t < 4294967296) (h2 : p < 4294967296) : stampOf (stampB t p) = (t, p) := by
  unfold stampOf stampB
  have e1 : (numB t 4 ++ numB p 4).take 4 = numB t 4 := List.take_left' (numB_length t 4)
  have e2 : (numB t 4 ++ numB p 4).drop 4 = numB p 4 := List.drop_left' (numB_length t 4)
  rw [e1, e2, List.take_of_length_le (by rw [numB_length]; omega), valB_numB (by omega), valB_numB (by omega)]
theorem stampOf_inj {a b : List Nat} (ha : a.length = 8) (hb : b.length = 8) (h1 : ∀ x ∈ a, x < 256) (h2 : ∀ x ∈ b, x < 256) (h : stampOf a = stampOf b) : a = b := by
  unfold stampOf at h
  obtain ⟨e1, e2⟩ := Prod.mk.inj h
  have k1 := valB_inj 4 _ _ (by rw [List.length_take]; omega) (by rw [List.length_take]; omega) (fun x hx => h1 x (List.mem_of_mem_take hx)) (fun x hx => h2 x (List.mem_of_mem_take hx)) e1
  have k2 := valB_inj 4 _ _ (by rw [List.length_take, List.length_drop]; omega) (by rw [List.length_take, List.length_drop]; omega) (fun x hx => h1 x (List.mem_of_mem_drop (List.mem_of_mem_take hx))) (fun x hx => h2 x (List.mem_of_mem_drop (List.mem_of_mem_take hx))) e2
  rw [List.take_of_length_le (by rw [List.length_drop]; omega), List.take_of_length_le (by rw [List.length_drop]; omega)] at k2
  rw [← List.take_append_drop 4 a, ← List.take_append_drop 4 b, k1, k2]

/-- are all of them 0? -/
def zeroL (l : List Nat) : Bool := l.all (· == 0)
theorem zeroL_iff {l : List Nat} : zeroL l = true ↔ ∀ x ∈ l, x = 0 := by simp [zeroL]
theorem zeroL_rep (n : Nat) : zeroL (List.replicate n 0) = true := by rw [zeroL_iff]; intro x hx; exact (List.mem_replicate.1 hx).2
theorem zeroL_getD {l : List Nat} (h : zeroL l = true) (i : Nat) : l.getD i 0 = 0 := by
  by_cases hi : i < l.length
  · simp [List.getD, hi]; exact zeroL_iff.1 h _ (List.getElem_mem hi)
  · simp [List.getD, List.getElem?_eq_none (Nat.le_of_not_lt hi)]
theorem zeroL_of {l : List Nat} (h : ∀ i, i < l.length → l.getD i 0 = 0) : zeroL l = true := by
  rw [zeroL_iff]
  intro x hx
  obtain ⟨i, hi, rfl⟩ := List.getElem_of_mem hx
  have := h i hi
  simpa [List.getD, hi] using this
theorem zeroL_not {l : List Nat} {i : Nat} (h : l.getD i 0 ≠ 0) : zeroL l = false := by
  cases hz : zeroL l with
  | false => rfl
  | true => exact absurd (zeroL_getD hz i) h
/-- how many bytes it bears, of a byte that tells it -/
def bears (b : List Nat) : Nat := b.getD 8 0 % 128
def stRowOf (b : List Nat) : List Nat := (b.drop 9).take 47
/-- which error there is -/
def unpackE (b : List Nat) : Int :=
  if b.length < 64 then 4 else if 64 < b.length then 12 else if zeroL b = true then 7 else if stampOf b ≠ stampOf (b.drop 56) then 5
  else if (stampOf b).1 = 0 ∨ 47 < bears b ∨ zeroL ((stRowOf b).drop (bears b)) = false then 2 else 0
/-- the sector that is told -/
def stOf (b : List Nat) : Sec := if unpackE b = 0 then ⟨(stampOf b).1, (stampOf b).2, decide (128 ≤ b.getD 8 0), (stRowOf b).take (bears b)⟩ else Sec.none

theorem getD_append_left {a b : List Nat} {i : Nat} (h : i < a.length) : (a ++ b).getD i 0 = a.getD i 0 := by simp [List.getD, List.getElem?_append_left h]
theorem stampOf_take (b : List Nat) : stampOf b = stampOf (b.take 8) := by
  unfold stampOf
  rw [List.take_take, List.drop_take, List.take_take]
  simp
theorem secB_take (s : Sec) : (secB s).take 8 = stampB s.turn s.place := by unfold secB; exact List.take_left' (stampB_length _ _)
theorem secB_drop {s : Sec} (h : s.data.length ≤ 47) : (secB s).drop 56 = stampB s.turn s.place := by
  have e : secB s = (stampB s.turn s.place ++ ([s.mark] ++ s.body)) ++ stampB s.turn s.place := by simp [secB]
  rw [e]
  exact List.drop_left' (by rw [List.length_append, List.length_append, stampB_length, body_length h]; rfl)
theorem secB_mark (s : Sec) : (secB s).getD 8 0 = s.mark := by
  unfold secB
  simp [List.getD, stampB_length]
theorem secB_row {s : Sec} (h : s.data.length ≤ 47) : stRowOf (secB s) = s.body := by
  have e : secB s = (stampB s.turn s.place ++ [s.mark]) ++ (s.body ++ stampB s.turn s.place) := by simp [secB]
  unfold stRowOf
  rw [e, List.drop_left' (by rw [List.length_append, stampB_length]; rfl), List.take_left' (body_length h)]
theorem secB_bears {s : Sec} (h : s.data.length ≤ 47) : bears (secB s) = s.data.length := by
  unfold bears
  rw [secB_mark]
  unfold Sec.mark
  split <;> omega
theorem stampOf_secB {s : Sec} (h : s.In) : stampOf (secB s) = (s.turn, s.place) := by rw [stampOf_take, secB_take, stampOf_B h.1 h.2.1]
theorem numB_zero {n : Nat} (h : zeroL (numB n 4) = true) (hn : n < 4294967296) : n = 0 := by
  have h1 : numB n 4 = numB 0 4 := by
    refine List.ext_getElem (by rw [numB_length, numB_length]) fun i h1 h2 => ?_
    rw [zeroL_iff.1 h _ (List.getElem_mem h1)]
    have : numB 0 4 = [0, 0, 0, 0] := rfl
    rw [numB_length] at h1
    rcases (show i = 0 ∨ i = 1 ∨ i = 2 ∨ i = 3 by omega) with rfl | rfl | rfl | rfl <;> rfl
  have h2 := congrArg valB h1
  rwa [valB_numB (by omega), valB_numB (by omega)] at h2
theorem secB_nonzero {s : Sec} (h : s.Ok) : zeroL (secB s) = false := by
  cases hz : zeroL (secB s) with
  | false => rfl
  | true =>
    refine absurd (numB_zero (n := s.turn) (zeroL_iff.2 fun x hx => zeroL_iff.1 hz x ?_) h.2.2.1) h.1
    unfold secB stampB
    simp [hx]
theorem unpackE_secB {s : Sec} (h : s.Ok) : unpackE (secB s) = 0 := by
  unfold unpackE
  have hl := secB_length h.2.1
  rw [if_neg (by omega), if_neg (by omega), if_neg (by rw [secB_nonzero h]; decide), if_neg, if_neg]
  · rw [stampOf_secB h.2.2, secB_bears h.2.1, secB_row h.2.1]
    rintro (h1 | h1 | h1)
    · exact h.1 h1
    · have := h.2.1; omega
    · unfold Sec.body at h1
      rw [List.drop_left' rfl, zeroL_rep] at h1
      cases h1
  · rw [stampOf_secB h.2.2, secB_drop h.2.1, stampOf_B h.2.2.1 h.2.2.2.1]
    simp
/-- what is packed is unpacked -/
theorem unpackS_secB {s : Sec} (h : s.Ok) : stOf (secB s) = s := by
  unfold stOf
  rw [if_pos (unpackE_secB h), stampOf_secB h.2.2, secB_bears h.2.1, secB_row h.2.1, secB_mark]
  have e : s.body.take s.data.length = s.data := by unfold Sec.body; exact List.take_left' rfl
  have e2 : decide (128 ≤ s.mark) = s.last := by
    have := h.2.1
    unfold Sec.mark
    cases s.last
    · simp; omega
    · simp
  rw [e, e2]
theorem unpackE_zero : unpackE (List.replicate 64 0) = 7 := by
  unfold unpackE
  rw [if_neg (by simp), if_neg (by simp), if_pos (zeroL_rep 64)]

/-! ### Torn -/
theorem torn_at {X Y : List Nat} {k : Nat} (hX : X.length = 64) (_hY : Y.length = 64) (hk : k ≤ 64) (i : Nat) : (X.take k ++ Y.drop k)[i]? = if i < k then X[i]? else Y[i]? := by
  by_cases h : i < k
  · rw [if_pos h, List.getElem?_append_left (by rw [List.length_take]; omega), List.getElem?_take_of_lt h]
  · rw [if_neg h, List.getElem?_append_right (by rw [List.length_take]; omega), List.length_take, List.getElem?_drop]
    congr 1; omega
theorem torn_length {X Y : List Nat} {k : Nat} (hX : X.length = 64) (hY : Y.length = 64) (hk : k ≤ 64) : (X.take k ++ Y.drop k).length = 64 := by
  rw [List.length_append, List.length_take, List.length_drop]; omega
theorem ends_at {Z : List Nat} (h : Z.take 8 = Z.drop 56) (i : Nat) (hi : i < 8) : Z[i]? = Z[56 + i]? := by
  have := congrArg (·[i]?) h
  simpa [List.getElem?_take_of_lt hi] using this
theorem torn_same {X Y : List Nat} {k : Nat} (hX : X.length = 64) (hY : Y.length = 64) (hk : k ≤ 64) (hXe : X.take 8 = X.drop 56) (hYe : Y.take 8 = Y.drop 56) (hne : X.take 8 ≠ Y.take 8)
    (h : (X.take k ++ Y.drop k).take 8 = (X.take k ++ Y.drop k).drop 56) : X.take k ++ Y.drop k = X ∨ X.take k ++ Y.drop k = Y := by
  have hz : ∀ i, i < 8 → (if i < k then X[i]? else Y[i]?) = if 56 + i < k then X[56 + i]? else Y[56 + i]? := fun i hi => by
    have := ends_at h i hi
    rwa [torn_at hX hY hk, torn_at hX hY hk] at this
  have hx := ends_at hXe
  have hy := ends_at hYe
  by_cases h1 : k ≤ 8
  · refine .inr (List.ext_getElem? fun i => ?_)
    rw [torn_at hX hY hk]
    by_cases hi : i < k
    · have := hz i (by omega)
      rw [if_pos hi, if_neg (by omega)] at this
      rw [if_pos hi, this, ← hy i (by omega)]
    · rw [if_neg hi]
  · by_cases h2 : k ≤ 56
    · refine absurd (List.ext_getElem? fun i => ?_) hne
      by_cases hi : i < 8
      · have := hz i hi
        rw [if_pos (by omega), if_neg (by omega)] at this
        rw [List.getElem?_take_of_lt hi, List.getElem?_take_of_lt hi, this, ← hy i hi]
      · rw [List.getElem?_eq_none (by rw [List.length_take]; omega), List.getElem?_eq_none (by rw [List.length_take]; omega)]
    · refine .inl (List.ext_getElem? fun i => ?_)
      rw [torn_at hX hY hk]
      by_cases hi : i < k
      · rw [if_pos hi]
      · rw [if_neg hi]
        by_cases hi2 : i < 64
        · have := hz (i - 56) (by omega)
          rw [if_pos (by omega), if_neg (by omega), show 56 + (i - 56) = i by omega, hx (i - 56) (by omega), show 56 + (i - 56) = i by omega] at this
          exact this.symm
        · rw [List.getElem?_eq_none (by omega), List.getElem?_eq_none (by omega)]
/-- of a torn one: the one, the other, or that it is torn -/
theorem unpack_torn {X Y : List Nat} {k : Nat} (hX : X.length = 64) (hY : Y.length = 64) (hXb : ∀ x ∈ X, x < 256) (hYb : ∀ x ∈ Y, x < 256) (hk : k ≤ 64) (hXe : X.take 8 = X.drop 56) (hYe : Y.take 8 = Y.drop 56) (hne : X.take 8 ≠ Y.take 8) :
    X.take k ++ Y.drop k = X ∨ X.take k ++ Y.drop k = Y ∨ unpackE (X.take k ++ Y.drop k) = 5 := by
  have hb : ∀ x ∈ X.take k ++ Y.drop k, x < 256 := by
    intro x hx
    rcases List.mem_append.1 hx with h | h
    · exact hXb x (List.mem_of_mem_take h)
    · exact hYb x (List.mem_of_mem_drop h)
  have hl := torn_length hX hY hk
  by_cases h : (X.take k ++ Y.drop k).take 8 = (X.take k ++ Y.drop k).drop 56
  · rcases torn_same hX hY hk hXe hYe hne h with h | h
    · exact .inl h
    · exact .inr (.inl h)
  · refine .inr (.inr ?_)
    generalize X.take k ++ Y.drop k = Z at hl hb h
    unfold unpackE
    rw [if_neg (by omega), if_neg (by omega), if_neg, if_pos]
    · intro he
      rw [stampOf_take] at he
      exact h (stampOf_inj (by rw [List.length_take]; omega) (by rw [List.length_drop]; omega) (fun x hx => hb x (List.mem_of_mem_take hx)) (fun x hx => hb x (List.mem_of_mem_drop hx)) he)
    · intro hz
      have hz := zeroL_iff.1 hz
      refine h (List.ext_getElem (by rw [List.length_take, List.length_drop]; omega) fun i h1 h2 => ?_)
      rw [hz _ (List.mem_of_mem_take (List.getElem_mem h1)), hz _ (List.mem_of_mem_drop (List.getElem_mem h2))]
end Go.Proofs.YtcdgbmeechnpiaaDoor
/- A sector in memory; isZero, fits, on, readStamp: walked. -/
namespace Go.Proofs.YtcdgbmeechnpiaaDoor
open Go.RowKit

def stampV (t p : Nat) : Value := .agg #[.int .u32 (t : Int), .int .u32 (p : Int)]
def secV (s : Sec) (u : Value) : Value := .agg #[.int .u32 (s.turn : Int), .int .u32 (s.place : Int), .bool s.last, u]

set_option maxHeartbeats 1000000 in
theorem isZero_any {w : World} {v : Value} {bs : List Nat} (h : Lies w v bs) (hb : ∀ x ∈ bs, x < 256) (hbig : bs.length ≤ 1000000000) :
    Calls Tryd.prog 61 #[v] w fun e w' => e = .returned (.bool (zeroL bs)) ∧ w = w' := by
  obtain ⟨a, c, rfl, hform⟩ := lies_form h
  obtain ⟨n, hn⟩ : ∃ n, n = bs.length := ⟨_, rfl⟩
  have HF := Lib.hid hform
  have HB := Lib.hid hb
  have HN := Lib.hid hn
  rw [← hn] at hbig ⊢
  clear h hform hb hn
  go_enter Tryd.func61, Tryd.ntmps61
  go_wp2
  go_loop [7] (fun i => ∃ q : Nat, q ≤ n ∧ i = .int .i64 q ∧ ∀ j, j < q → bs.getD j 0 = 0) (fun i => n - (intOf i).toNat)
  case atStart => exact ⟨0, by omega, rfl, fun j hj => by omega⟩
  case round =>
    obtain ⟨q, hq, rfl, hz⟩ := hrel
    have HZ := Lib.hid hz
    clear hz
    by_cases hlt : q < n
    · have hne : bs ≠ [] := fun e => by have := HN.out; rw [e] at this; simp at this; omega
      obtain ⟨b, off, rfl, hc⟩ := HF.out hne
      have hcell := hc q (by rw [← HN.out]; exact hlt)
      obtain ⟨y, hy⟩ : ∃ y, y = bs.getD q 0 := ⟨_, rfl⟩
      rw [← hy] at hcell
      have HY := Lib.hid hy
      have HC := Lib.hid hc
      clear hy hc
      by_cases hy0 : y = 0
      · subst hy0
        go_wp2
        go_round
        case rel => exact ⟨q + 1, by omega, by go_num, fun j hj => by
          rcases Nat.lt_succ_iff_lt_or_eq.1 hj with h | h
          · exact HZ.out j h
          · rw [h]; exact HY.out.symm⟩
        case measure => simp [intOf]; omega
      · have t1 : ((y : Int) == 0) = false := by simp; omega
        have t2 : ((y : Int) != 0) = true := by simp; omega
        go_wp2
        go_ret
        exact ⟨by rw [zeroL_not (i := q) (by rw [← HY.out]; exact hy0)]; rfl, rfl⟩
    · obtain rfl : q = n := by omega
      go_wp2
      go_ret
      exact ⟨by rw [zeroL_of fun i hi => HZ.out i (by rw [HN.out]; exact hi)]; rfl, rfl⟩

theorem fits_any {p n : Nat} (hp : p < 4294967296) (hn : 1 ≤ n) (hbig : n ≤ 1000000000000) (w : World) :
    Calls Tryd.prog 65 #[.int .u32 (p : Int), .int .i64 (n : Int)] w fun e w' => e = .returned (.bool (decide (p + (n - 1) ≤ 4294967295))) ∧ w = w' := by
  have e1 : IntKind.i64.wrap ((n : Int) - 1) = ((n - 1 : Nat) : Int) := by rw [IntKind.wrap_i64]; omega
  have e2 : IntKind.u64.wrap ((n - 1 : Nat) : Int) = ((n - 1 : Nat) : Int) := by rw [IntKind.wrap_u64]; omega
  have e3 : IntKind.u32.wrap (4294967295 - (p : Int)) = ((4294967295 - p : Nat) : Int) := by rw [IntKind.wrap_u32]; omega
  have e4 : IntKind.u64.wrap ((4294967295 - p : Nat) : Int) = ((4294967295 - p : Nat) : Int) := by rw [IntKind.wrap_u64]; omega
  obtain ⟨x, hx⟩ : ∃ x : Nat, x = n - 1 := ⟨_, rfl⟩
  obtain ⟨y, hy⟩ : ∃ y : Nat, y = 4294967295 - p := ⟨_, rfl⟩
  have hd : decide (p + x ≤ 4294967295) = decide (x ≤ y) := by apply decide_eq_decide.2; omega
  rw [← hx] at e1 e2 ⊢
  rw [← hy] at e3 e4
  rw [hd]
  clear hx hy hd
  go_enter Tryd.func65, Tryd.ntmps65
  go_wp2
  go_ret
  exact ⟨by simp, rfl⟩

/-- a stamp, handed back out of a variable of its own -/
theorem results_cell {fn : Func} {p : Tmp} {ty : TypeId} (h : fn.results = #[.cell p ty]) (tmps : Array Value) (P : Program) (w : World) :
    (results fn tmps).run P w = ((asAddr (tmps.getD p undef)).run P w).andThen fun a w₁ => (loadVar ty a).run P w₁ := by
  simp only [results, h]
  simp [Sem.run_bind, Result.andThen]
theorem ret_stamp {fn : Func} {p : Tmp} (h : fn.results = #[.cell p 92]) {tmps : Array Value} {w : World} {Q : Nat} {x y : Int} (hp : tmps.getD p undef = .pointer (some ⟨Q, 0, none⟩)) (hq : w.heap[Q]? = some (.cells #[.int .u32 x, .int .u32 y] 92 (0, 0))) :
    (results fn tmps).run Tryd.prog w = .ok (.agg #[.int .u32 x, .int .u32 y]) w := by
  obtain ⟨c0, c1, _, _⟩ := cells2 hq
  rw [results_cell h, hp]
  go_simp
theorem on_any {t p i : Nat} (hpi : p + i < 4294967296) (w : World) :
    Calls Tryd.prog 67 #[stampV t p, .int .i64 (i : Int)] w fun e w' => e = .returned (stampV t (p + i)) ∧ Below w.heap.size w w' := by
  have e1 : IntKind.u32.wrap (i : Int) = i := by rw [IntKind.wrap_u32]; omega
  obtain ⟨q, hq⟩ : ∃ q, q = p + i := ⟨_, rfl⟩
  have e2 : IntKind.u32.wrap ((p : Int) + i) = (q : Int) := by rw [IntKind.wrap_u32]; omega
  rw [← hq]
  clear hq hpi
  unfold stampV
  go_enter Tryd.func67, Tryd.ntmps67
  go_wp2
  refine bodyPost_ret (ret_stamp (Q := w.heap.size + 1) rfl rfl (by simpa using heap_alloc_new (w.alloc (.cells #[.int .u32 (t : Int), .int .u32 (p : Int)] 92)) (.cells #[.int .u32 (t : Int), .int .u32 (q : Int)] 92))) rfl ?_
  exact ⟨rfl, ((Below.refl _ w).alloc (Nat.le_refl _) _).alloc (by simp) _⟩

theorem OReaderAt.only {B : Nat} {w w' : World} {R : Nat} {bs : List Nat} {S : Nat → Prop} (h : OReaderAt B w R bs) (ho : Only S w w') (hR : ¬ S R) (hS : ∀ b off j x, B ≤ b → w.cell? ⟨b, off + j, none⟩ = some (.int .u8 x) → ¬ S b) : OReaderAt B w' R bs := by
  obtain ⟨h1, v, hh, hl⟩ := h
  exact ⟨h1, v, (ho.block R (lt_of_block hh) hR).trans hh, hl.only ho hS⟩
theorem OReaderAt.lt {B : Nat} {w : World} {R : Nat} {bs : List Nat} (h : OReaderAt B w R bs) : R < w.heap.size := by obtain ⟨_, v, hh, _⟩ := h; exact lt_of_block hh
/-- a block of stamps holds no bytes -/
theorem no_bytes {w : World} {V : Nat} {cs : Array Value} {t : TypeId} {fr : Nat × Nat} (h : w.heap[V]? = some (.cells cs t fr)) (hc : ∀ (k : Nat) (x : Int), cs[k]? ≠ some (Value.int .u8 x)) : ∀ b off j x, w.cell? ⟨b, off + j, none⟩ = some (.int .u8 x) → b ≠ V := by
  rintro b off j x hb rfl
  rw [cell_of_row w b (off + j) _ _ _ h] at hb
  exact hc _ x hb
/-- what is stored into a variable of the call's own is no byte's place -/
theorem reader_var {B : Nat} {w w1 w2 : World} {R V : Nat} {bs : List Nat} {cs : Array Value} {t : TypeId} {fr : Nat × Nat} {T : Nat → Prop} (h : OReaderAt B w1 R bs) (ho : Only T w w1) (hV : w.heap.size ≤ V) (hR : R < w.heap.size) (hh : w1.heap[V]? = some (.cells cs t fr)) (hc : ∀ (k : Nat) (x : Int), cs[k]? ≠ some (Value.int .u8 x))
    (h1 : Only (fun k => k = V) w1 w2) : OReaderAt B w2 R bs ∧ Only T w w2 :=
  ⟨h.only h1 (by omega) (fun b off j x _ hb => no_bytes hh hc b off j x hb), ho.trans h1 (fun i hi h => by omega)⟩
theorem two_set (w : World) (V : Nat) (x y : Value) : Only (fun k => k = V) w ((w.setCell ⟨V, 0, none⟩ x).setCell ⟨V, 1, none⟩ y) :=
  (Only.setCell (S := fun k => k = V) _ rfl _).trans (Only.setCell (S := fun k => k = V) _ rfl _) (fun _ _ h => h)
theorem two_at {w : World} {V : Nat} {a b : Value} {t : TypeId} (h : w.heap[V]? = some (.cells #[a, b] t (0, 0))) (x y : Value) : ((w.setCell ⟨V, 0, none⟩ x).setCell ⟨V, 1, none⟩ y).heap[V]? = some (.cells #[x, y] t (0, 0)) := by
  have h1 := heap_setCell_same w V 0 _ _ x h
  have h2 := heap_setCell_same _ V 1 _ _ y h1
  rw [h2]; simp
theorem no_u32 (a b : Int) : ∀ (k : Nat) (x : Int), (#[.int .u32 a, .int .u32 b] : Array Value)[k]? ≠ some (Value.int .u8 x) := by
  intro k x h
  rcases (show k = 0 ∨ k = 1 ∨ 2 ≤ k by omega) with rfl | rfl | h2
  · simp at h
  · simp at h
  · rw [Array.getElem?_eq_none (by simpa using h2)] at h; cases h
set_option maxHeartbeats 1000000 in
/-- eight bytes more are read: a stamp -/
theorem readStamp_any {B : Nat} {w : World} {R : Nat} {bs : List Nat} (h : OReaderAt B w R bs) (hl : 8 ≤ bs.length) (hb : ∀ x ∈ bs, x < 256) (hbig : bs.length ≤ 1000000000) :
    Calls Tryd.prog 58 #[.pointer (some ⟨R, 0, none⟩)] w fun e w' => e = .returned (stampV (stampOf bs).1 (stampOf bs).2) ∧ OReaderAt B w' R (bs.drop 8) ∧ Only (fun k => k = R) w w' := by
  have H := Lib.hid h
  have HB := Lib.hid hb
  have hR : R < w.heap.size := by obtain ⟨_, v, hh, _⟩ := h; exact lt_of_block hh
  have hx1 : valB (bs.take 4) < 4294967296 := by have := valB_lt bs hb 4 (by omega); omega
  have hx2 : valB ((bs.drop 4).take 4) < 4294967296 := by have := valB_lt (bs.drop 4) (drop_small 4 hb) 4 (by rw [List.length_drop]; omega); omega
  obtain ⟨x, hx⟩ : ∃ x, x = valB (bs.take 4) := ⟨_, rfl⟩
  obtain ⟨y, hy⟩ : ∃ y, y = valB ((bs.drop 4).take 4) := ⟨_, rfl⟩
  have he : stampOf bs = (x, y) := by unfold stampOf; rw [hx, hy]
  rw [he]
  rw [← hx] at hx1
  rw [← hy] at hx2
  have e1 : IntKind.u32.wrap (x : Int) = x := by rw [IntKind.wrap_u32]; omega
  have e2 : IntKind.u32.wrap (y : Int) = y := by rw [IntKind.wrap_u32]; omega
  have HX := Lib.hid hx
  have HY := Lib.hid hy
  clear h hb hx hy he
  unfold stampV
  go_enter Tryd.func58, Tryd.ntmps58
  have HA : Hid (OReaderAt B (w.alloc (.cells #[.int .u32 0, .int .u32 0] 92)) R bs) := Lib.hid (H.out.beyond ((Below.refl _ w).alloc (Nat.le_refl _) _))
  go_wp2_with fail
  refine (onum_ok (n := 4) HA.out (by unfold Wide; omega) (by omega) HB.out hbig).mono ?_
  rw [← HX.out]
  rintro e w1 ⟨rfl, hr1, ho1⟩
  have HR1 := Lib.hid hr1
  have HO1 := Lib.hid ho1
  clear hr1 ho1
  go_wp2_with fail
  refine (onum_ok (n := 4) HR1.out (by unfold Wide; omega) (by rw [List.length_drop]; omega) (drop_small 4 HB.out) (by rw [List.length_drop]; omega)).mono ?_
  rw [← HY.out, List.drop_drop]
  rintro e w2 ⟨rfl, hr2, ho2⟩
  have HR2 := Lib.hid hr2
  have ho : Only (fun k => k = R) (w.alloc (.cells #[.int .u32 0, .int .u32 0] 92)) w2 := HO1.out.trans ho2 (fun _ _ h => h)
  have HO := Lib.hid ho
  have hv : w2.heap[w.heap.size]? = some (.cells #[.int .u32 0, .int .u32 0] 92 (0, 0)) := (ho.block _ (by simp) (by omega)).trans (heap_alloc_new w _)
  have HV := Lib.hid hv
  obtain ⟨c0, c1, f0, f1⟩ := cells2 hv
  clear hr2 ho2 ho hv
  go_wp2
  refine bodyPost_ret (ret_stamp rfl rfl (two_at HV.out _ _)) rfl ?_
  obtain ⟨h1, h2⟩ := reader_var HR2.out ((only_beyond (S := fun k => k = R) ((Below.refl _ w).alloc (Nat.le_refl _) _)).trans HO.out (fun _ _ h => h)) (Nat.le_refl _) hR HV.out (no_u32 _ _) (two_set w2 w.heap.size (.int .u32 (x : Int)) (.int .u32 (y : Int)))
  exact ⟨rfl, h1, h2⟩
/-- stamps held against one another -/
theorem run_eqs_op (w : World) {o : Oper} {a : Act} (x y : Operand) (ho : o.op = .binOp .eql 92 x y 92) (t p t' p' : Int) (hx : a.eval x = .agg #[.int .u32 t, .int .u32 p]) (hy : a.eval y = .agg #[.int .u32 t', .int .u32 p']) (B : Bool) (hB : ((t == t') && (p == p')) = B) :
    (execOp a.eval o).run Tryd.prog w = .ok (.value (.bool B)) w := by
  unfold execOp
  simp only [ho, hx, hy]
  go_simp
  subst hB
  by_cases h1 : t = t'
  · by_cases h2 : p = p'
    · simp [h1, h2]
    · simp [h1, h2]
  · simp [h1]
theorem run_nes_op (w : World) {o : Oper} {a : Act} (x y : Operand) (ho : o.op = .binOp .neq 92 x y 92) (t p t' p' : Int) (hx : a.eval x = .agg #[.int .u32 t, .int .u32 p]) (hy : a.eval y = .agg #[.int .u32 t', .int .u32 p']) (B : Bool) (hB : ((t == t') && (p == p')) = B) :
    (execOp a.eval o).run Tryd.prog w = .ok (.value (.bool !B)) w := by
  unfold execOp
  simp only [ho, hx, hy]
  go_simp
  subst hB
  by_cases h1 : t = t'
  · by_cases h2 : p = p'
    · simp [h1, h2]
    · simp [h1, h2]
  · simp [h1]
end Go.Proofs.YtcdgbmeechnpiaaDoor
/- Unpack, walked: of any bytes. -/
namespace Go.Proofs.YtcdgbmeechnpiaaDoor
open Go.RowKit

theorem ret_sec {fn : Func} {p u : Tmp} (h : fn.results = #[.cell p 94, .tmp u]) {tmps : Array Value} {w : World} {Q : Nat} {x y z v : Value} (hp : tmps.getD p undef = .pointer (some ⟨Q, 0, none⟩)) (hq : w.heap[Q]? = some (.cells #[x, y, z, v] 94 (0, 0))) :
    (results fn tmps).run Tryd.prog w = .ok (.tuple #[.agg #[x, y, z, v], tmps.getD u undef]) w := by
  have c0 : w.cell? ⟨Q, 0, none⟩ = some x := by rw [cell_of_row w Q 0 _ _ _ hq]; rfl
  have c1 : w.cell? ⟨Q, 1, none⟩ = some y := by rw [cell_of_row w Q 1 _ _ _ hq]; rfl
  have c2 : w.cell? ⟨Q, 2, none⟩ = some z := by rw [cell_of_row w Q 2 _ _ _ hq]; rfl
  have c3 : w.cell? ⟨Q, 3, none⟩ = some v := by rw [cell_of_row w Q 3 _ _ _ hq]; rfl
  rw [results_cell_tmp h, hp]
  go_simp
theorem cells4 {w : World} {P : Nat} {x y z v : Value} {t : TypeId} (h : w.heap[P]? = some (.cells #[x, y, z, v] t (0, 0))) :
    (w.cell? ⟨P, 0, none⟩ = some x ∧ w.cell? ⟨P, 1, none⟩ = some y ∧ w.cell? ⟨P, 2, none⟩ = some z ∧ w.cell? ⟨P, 3, none⟩ = some v) ∧ w.frozen? ⟨P, 0, none⟩ = false ∧ w.frozen? ⟨P, 1, none⟩ = false ∧ w.frozen? ⟨P, 2, none⟩ = false ∧ w.frozen? ⟨P, 3, none⟩ = false :=
  ⟨⟨by simp [World.cell?, h], by simp [World.cell?, h], by simp [World.cell?, h], by simp [World.cell?, h]⟩, by simp [World.frozen?, h], by simp [World.frozen?, h], by simp [World.frozen?, h], by simp [World.frozen?, h]⟩
def set4 (w : World) (P : Nat) (x y z v : Value) : World := (((w.setCell ⟨P, 0, none⟩ x).setCell ⟨P, 1, none⟩ y).setCell ⟨P, 2, none⟩ z).setCell ⟨P, 3, none⟩ v
theorem set4_only (w : World) (P : Nat) (x y z v : Value) : Only (fun k => k = P) w (set4 w P x y z v) :=
  (((Only.setCell (S := fun k => k = P) _ rfl _).trans (Only.setCell (S := fun k => k = P) _ rfl _) (fun _ _ h => h)).trans (Only.setCell (S := fun k => k = P) _ rfl _) (fun _ _ h => h)).trans (Only.setCell (S := fun k => k = P) _ rfl _) (fun _ _ h => h)
theorem set4_at {w : World} {P : Nat} {a b c d : Value} {t : TypeId} (h : w.heap[P]? = some (.cells #[a, b, c, d] t (0, 0))) (x y z v : Value) : (set4 w P x y z v).heap[P]? = some (.cells #[x, y, z, v] t (0, 0)) := by
  have h1 := heap_setCell_same w P 0 _ _ x h
  have h2 := heap_setCell_same _ P 1 _ _ y h1
  have h3 := heap_setCell_same _ P 2 _ _ z h2
  have h4 := heap_setCell_same _ P 3 _ _ v h3
  unfold set4
  rw [h4]; simp
/-- nothing is told: the variable of the call's own -/
def zeroSec : Array Value := #[.int .u32 0, .int .u32 0, .bool false, .slice none 0 0]

/-- what Unpack tells -/
def Unpacked (w : World) (bs : List Nat) (e : Ending) (w' : World) : Prop :=
  ∃ u, e = .returned (.tuple #[secV (stOf bs) u, .int .i64 (unpackE bs)]) ∧ LiesFrom w.heap.size w' u (stOf bs).data ∧ Fits u ∧ Below w.heap.size w w'
theorem unpacked_none {w w' : World} {bs : List Nat} {z : Int} (hz : z ≠ 0) (h : unpackE bs = z) (hb : Below w.heap.size w w') : Unpacked w bs (.returned (.tuple #[.agg #[.int .u32 0, .int .u32 0, .bool false, .slice none 0 0], .int .i64 z])) w' := by
  have e : stOf bs = Sec.none := by unfold stOf; rw [if_neg (by rw [h]; exact hz)]
  exact ⟨.slice none 0 0, by rw [e, h]; rfl, .inl ⟨rfl, by rw [e]; rfl⟩, fits_slice (Nat.le_refl _), hb⟩

set_option maxHeartbeats 1000000 in
theorem unpack_short {w : World} {v : Value} {bs : List Nat} (h : Lies w v bs) (hl : bs.length < 64) : Calls Tryd.prog 49 #[v] w (Unpacked w bs) := by
  obtain ⟨a, c, rfl⟩ := lies_len h
  have t1 : decide ((bs.length : Int) < 64) = true := by simp; omega
  have hE : unpackE bs = 4 := by unfold unpackE; rw [if_pos hl]
  have HE := Lib.hid hE
  clear h hl hE
  go_enter Tryd.func49, Tryd.ntmps49
  go_wp2
  refine bodyPost_ret (ret_sec (Q := w.heap.size) rfl rfl (heap_alloc_new _ _)) rfl ?_
  exact unpacked_none (by decide) HE.out ((Below.refl _ w).alloc (Nat.le_refl _) _)
set_option maxHeartbeats 1000000 in
theorem unpack_long {w : World} {v : Value} {bs : List Nat} (h : Lies w v bs) (hl : 64 < bs.length) : Calls Tryd.prog 49 #[v] w (Unpacked w bs) := by
  obtain ⟨a, c, rfl⟩ := lies_len h
  have t1 : decide ((bs.length : Int) < 64) = false := by simp; omega
  have t2 : decide ((64 : Int) < bs.length) = true := by simp; omega
  have hE : unpackE bs = 12 := by unfold unpackE; rw [if_neg (by omega), if_pos hl]
  have HE := Lib.hid hE
  clear h hl hE
  go_enter Tryd.func49, Tryd.ntmps49
  go_wp2
  refine bodyPost_ret (ret_sec (Q := w.heap.size) rfl rfl (heap_alloc_new _ _)) rfl ?_
  exact unpacked_none (by decide) HE.out ((Below.refl _ w).alloc (Nat.le_refl _) _)

theorem liesFrom_cut {B : Nat} {w : World} {g off n : Nat} {D : List Nat} (hl : D.length = n) (hB : B ≤ g) (hc : BytesAt w g off D) : LiesFrom B w (.slice (some ⟨g, off, none⟩) n n) D := by
  subst hl
  by_cases h : D = []
  · subst h; exact .inr (.inl ⟨_, _, rfl, rfl⟩)
  · exact .inr (.inr ⟨g, off, _, rfl, by omega, hB, hc, h⟩)
theorem BytesAt.only {S : Nat → Prop} {w w' : World} {g off : Nat} {D : List Nat} (h : BytesAt w g off D) (ho : Only S w w') (hS : ¬ S g) : BytesAt w' g off D := fun j hj => by
  have h1 := h j hj
  rw [← h1]
  exact World.cell?_of_block (w := w) (a := ⟨g, off + j, none⟩) (ho.block g (by have := cell_lt h1; exact this) hS)
theorem unpacked_ok {w W7 : World} {bs : List Nat} {x y m n g : Nat} (hE : unpackE bs = 0) (hst : stampOf bs = (x, y)) (hm : bs.getD 8 0 = m) (hn : bears bs = n) (hrl : (stRowOf bs).length = 47) (hrow : BytesAt W7 g 0 (stRowOf bs)) (hg : w.heap.size < g) (hb : Below w.heap.size w W7) (hn47 : n ≤ 47) {L : Bool} (hL : L = decide (128 ≤ m)) :
    Unpacked w bs (.returned (.tuple #[.agg #[.int .u32 (x : Int), .int .u32 (y : Int), .bool L, .slice (some ⟨g, 0, none⟩) n n], .int .i64 0])) (set4 W7 w.heap.size (.int .u32 (x : Int)) (.int .u32 (y : Int)) (.bool L) (.slice (some ⟨g, 0, none⟩) n n)).drew := by
  have e : stOf bs = ⟨x, y, L, (stRowOf bs).take n⟩ := by unfold stOf; rw [if_pos hE, hst, hm, hn, hL]
  have ho := (set4_only W7 w.heap.size (.int .u32 (x : Int)) (.int .u32 (y : Int)) (.bool L) (.slice (some ⟨g, 0, none⟩) n n)).trans (Only.drew (fun _ => False) _) (fun _ _ h => h.elim)
  refine ⟨.slice (some ⟨g, 0, none⟩) n n, by rw [e, hE]; rfl, ?_, fits_slice (Nat.le_refl _), hb.trans (ho.below hb.size (fun k hk => by omega))⟩
  rw [e]
  exact liesFrom_cut (by rw [List.length_take]; omega) (Nat.le_of_lt hg) ((bytesAt_take n hrow).only ho (fun h => by omega))

set_option maxHeartbeats 4000000 in
theorem unpack_whole {w : World} {v : Value} {bs : List Nat} (h : Lies w v bs) (hb : ∀ x ∈ bs, x < 256) (hl : bs.length = 64) : Calls Tryd.prog 49 #[v] w (Unpacked w bs) := by
  obtain ⟨a, c, rfl⟩ := lies_len h
  have H := Lib.hid h
  have HB := Lib.hid hb
  have HL := Lib.hid hl
  rw [hl]
  clear h hb hl
  go_enter Tryd.func49, Tryd.ntmps49
  go_wp2_with fail
  refine calls_name fun W0 hW0 => ?_
  have HV0 : Hid (W0.heap[w.heap.size]? = some (.cells #[.int .u32 0, .int .u32 0, .bool false, .slice none 0 0] 94 (0, 0))) := Lib.hid (by rw [hW0]; exact heap_alloc_new _ _)
  have HB0 : Hid (Below w.heap.size w W0) := Lib.hid (by rw [hW0]; exact (Below.refl _ w).alloc (Nat.le_refl _) _)
  have HS0 : Hid (w.heap.size < W0.heap.size) := Lib.hid (lt_of_block HV0.out)
  clear hW0
  refine (oread_any (bs := bs) (by have h := lies_keep H.out HB0.out; rw [HL.out] at h; exact h) (by rw [HL.out]; omega)).mono ?_
  rintro e w1 ⟨R, rfl, hr1, hb1⟩
  have HR1 := Lib.hid hr1
  have HB1 := Lib.hid hb1
  clear hr1 hb1
  go_wp2_with fail
  refine (readStamp_any HR1.out (by rw [HL.out]; omega) HB.out (by rw [HL.out]; omega)).mono ?_
  obtain ⟨x, hx⟩ : ∃ x, x = (stampOf bs).1 := ⟨_, rfl⟩
  obtain ⟨y, hy⟩ : ∃ y, y = (stampOf bs).2 := ⟨_, rfl⟩
  rw [← hx, ← hy]
  unfold stampV
  have HX := Lib.hid hx
  have HY := Lib.hid hy
  clear hx hy
  rintro e w2 ⟨rfl, hr2, ho2⟩
  have HR2 := Lib.hid hr2
  have HB2 : Hid (Below W0.heap.size W0 w2) := Lib.hid (HB1.out.trans ((ho2.below HB1.out.size (fun k hk => hk ▸ HR1.out.1))))
  clear hr2 ho2
  go_wp2_with fail
  obtain ⟨V5, hV5⟩ : ∃ V, V = w2.heap.size := ⟨_, rfl⟩
  rw [← hV5]
  have HS5 := Lib.hid hV5
  refine calls_name fun W3 hW3 => ?_
  have HV3 : Hid (W3.heap[V5]? = some (.cells #[.int .u32 x, .int .u32 y] 92 (0, 0))) := Lib.hid (by rw [hW3, hV5]; exact heap_alloc_new _ _)
  have HBa : Hid (Below w2.heap.size w2 W3) := Lib.hid (by rw [hW3]; exact (Below.refl _ w2).alloc (Nat.le_refl _) _)
  have HB3 : Hid (Below W0.heap.size W0 W3) := Lib.hid (HB2.out.trans (HBa.out.mono HB2.out.size))
  have HR3 : Hid (OReaderAt W0.heap.size W3 R (bs.drop 8)) := Lib.hid (HR2.out.beyond HBa.out)
  have HRV : Hid (R < V5) := Lib.hid (by rw [hV5]; exact HR2.out.lt)
  clear hV5 hW3
  refine (onum_ok (n := 1) HR3.out (by unfold Wide; omega) (by rw [List.length_drop, HL.out]; omega) (drop_small 8 HB.out) (by rw [List.length_drop, HL.out]; omega)).mono ?_
  rw [List.drop_drop]
  obtain ⟨m, hm⟩ : ∃ m, m = valB ((bs.drop 8).take 1) := ⟨_, rfl⟩
  rw [← hm]
  have HM := Lib.hid hm
  clear hm
  rintro e w4 ⟨rfl, hr4, ho4⟩
  have HR4 := Lib.hid hr4
  have HB4 : Hid (Below W0.heap.size W0 w4) := Lib.hid (HB3.out.trans ((ho4.below HB3.out.size (fun k hk => hk ▸ HR1.out.1))))
  have HV4 : Hid (w4.heap[V5]? = some (.cells #[.int .u32 x, .int .u32 y] 92 (0, 0))) := Lib.hid ((ho4.block V5 (lt_of_block HV3.out) (by have := HRV.out; omega)).trans HV3.out)
  clear hr4 ho4
  go_wp2_with fail
  refine (oraw_ok (n := 47) HR4.out (by rw [List.length_drop, HL.out]; omega) (by rw [List.length_drop, HL.out]; omega)).mono ?_
  rw [List.drop_drop]
  rintro e w5 ⟨v5, rfl, hown, hr5, ho5⟩
  have HR5 := Lib.hid hr5
  have HB5 : Hid (Below W0.heap.size W0 w5) := Lib.hid (HB4.out.trans ((ho5.below HB4.out.size (fun k hk => hk ▸ HR1.out.1))))
  have HV5 : Hid (w5.heap[V5]? = some (.cells #[.int .u32 x, .int .u32 y] 92 (0, 0))) := Lib.hid ((ho5.block V5 (lt_of_block HV4.out) (by have := HRV.out; omega)).trans HV4.out)
  obtain ⟨g, cap, cur, rfl, hBg, hg, hnc, hcm, hcs, htk⟩ : ∃ g cap cur, v5 = .slice (some ⟨g, 0, none⟩) 47 cap ∧ w4.heap.size ≤ g ∧ w5.heap[g]? = some (.cells cur 5 (0, 0)) ∧ 47 ≤ cap ∧ cap ≤ maxLen ∧ cur.size = cap * 1 ∧ cur.toList.take (47 * 1) = u8s ((bs.drop 9).take 47) := by
    rcases hown.2 with ⟨_, h0⟩ | h
    · omega
    · exact h
  have HG : Hid (Arr w5 g 5 cur.toList) := Lib.hid (by unfold Arr; simpa using hg)
  have HT := Lib.hid htk
  have HGV : Hid (V5 < g) := Lib.hid (Nat.lt_of_lt_of_le (lt_of_block HV4.out) hBg)
  have HGR : Hid (R < g) := Lib.hid (Nat.lt_of_lt_of_le HR4.out.lt hBg)
  have HBG : Hid (W0.heap.size ≤ g) := Lib.hid (Nat.le_trans HB4.out.size hBg)
  clear hr5 ho5 hown hBg hg hcm hcs htk
  go_wp2_with fail
  refine (readStamp_any HR5.out (by rw [List.length_drop, HL.out]; omega) (drop_small _ HB.out) (by rw [List.length_drop, HL.out]; omega)).mono ?_
  obtain ⟨x', hx⟩ : ∃ x, x = (stampOf (bs.drop 56)).1 := ⟨_, rfl⟩
  obtain ⟨y', hy⟩ : ∃ y, y = (stampOf (bs.drop 56)).2 := ⟨_, rfl⟩
  rw [show 8 + 1 + 47 = 56 from rfl, ← hx, ← hy]
  unfold stampV
  have HX' := Lib.hid hx
  have HY' := Lib.hid hy
  clear hx hy
  rintro e w6 ⟨rfl, hr6, ho6⟩
  have HB6 : Hid (Below W0.heap.size W0 w6) := Lib.hid (HB5.out.trans ((ho6.below HB5.out.size (fun k hk => hk ▸ HR1.out.1))))
  have HV6 : Hid (w6.heap[V5]? = some (.cells #[.int .u32 x, .int .u32 y] 92 (0, 0))) := Lib.hid ((ho6.block V5 (lt_of_block HV5.out) (by have := HRV.out; omega)).trans HV5.out)
  have HG6 : Hid (Arr w6 g 5 cur.toList) := Lib.hid (HG.out.only ho6 (by have := HGR.out; omega))
  clear hr6 ho6
  obtain ⟨n, hn⟩ : ∃ n, n = m % 128 := ⟨_, rfl⟩
  have e1 : (m : Int) % 128 = (n : Int) := by omega
  have e3 : IntKind.i64.wrap (n : Int) = n := by rw [IntKind.wrap_i64]; omega
  have e4 : IntKind.u64.wrap (n : Int) = n := by rw [IntKind.wrap_u64]; omega
  have hn128 : n < 128 := by omega
  have HN := Lib.hid hn
  clear hn
  go_wp2_with fail
  obtain ⟨V8, hV8⟩ : ∃ V, V = w6.heap.size := ⟨_, rfl⟩
  rw [← hV8]
  refine calls_name fun W7 hW7 => ?_
  have hBa : Below w6.heap.size w6 W7 := by rw [hW7]; exact (Below.refl _ w6).alloc (Nat.le_refl _) _
  have hv8 : W7.heap[V8]? = some (.cells #[.int .u32 x', .int .u32 y'] 92 (0, 0)) := by rw [hW7, hV8]; exact heap_alloc_new _ _
  have hv5 : W7.heap[V5]? = some (.cells #[.int .u32 x, .int .u32 y] 92 (0, 0)) := (hBa.block V5 (lt_of_block HV6.out)).trans HV6.out
  have HB7 : Hid (Below W0.heap.size W0 W7) := Lib.hid (HB6.out.trans (hBa.mono HB6.out.size))
  have HBw : Hid (Below w.heap.size w W7) := Lib.hid (HB0.out.trans (HB7.out.mono HB0.out.size))
  have hv2 := (HB7.out.block w.heap.size HS0.out).trans HV0.out
  have HV2 := Lib.hid hv2
  have HG7 : Hid (Arr W7 g 5 cur.toList) := Lib.hid ((hBa.block g HG6.out.lt).trans HG6.out)
  obtain ⟨c80, c81, _, _⟩ := cells2 hv8
  obtain ⟨c50, c51, _, _⟩ := cells2 hv5
  obtain ⟨_, f20, f21, f22, f23⟩ := cells4 hv2
  clear hBa hv8 hv5 hW7 hV8 hv2
  have HLI : Hid (Lies W7 (.slice a 64 c) bs) := Lib.hid (by have h := lies_keep H.out HBw.out; rw [HL.out] at h; exact h)
  refine (isZero_any HLI.out HB.out (by rw [HL.out]; omega)).mono ?_
  obtain ⟨z, hz⟩ : ∃ z, z = zeroL bs := ⟨_, rfl⟩
  rw [← hz]
  have HZ := Lib.hid hz
  clear hz
  rintro e w8 ⟨rfl, rfl⟩
  have hno : ∀ zz : Int, zz ≠ 0 → unpackE bs = zz → Unpacked w bs (.returned (.tuple #[.agg #[.int .u32 0, .int .u32 0, .bool false, .slice none 0 0], .int .i64 zz])) (set4 W7 w.heap.size (.int .u32 0) (.int .u32 0) (.bool false) (.slice none 0 0)) := fun zz h1 h2 =>
    unpacked_none h1 h2 (HBw.out.trans ((set4_only W7 w.heap.size _ _ _ _).below (by have := HBw.out.size; omega) (fun k hk => by omega)))
  have HNO := Lib.hid hno
  clear hno
  have h12 : ¬ bs.length < 64 ∧ ¬ 64 < bs.length := by have := HL.out; omega
  have H12 := Lib.hid h12
  clear h12
  cases z
  · have hEz : unpackE bs = if stampOf bs ≠ stampOf (bs.drop 56) then 5 else if (stampOf bs).1 = 0 ∨ 47 < bears bs ∨ zeroL ((stRowOf bs).drop (bears bs)) = false then 2 else 0 := by
      unfold unpackE
      rw [if_neg H12.out.1, if_neg H12.out.2, if_neg (by rw [← HZ.out]; decide)]
    have HEz := Lib.hid hEz
    clear hEz
    have hst : stampOf bs = (x, y) := by rw [HX.out, HY.out]
    have hst' : stampOf (bs.drop 56) = (x', y') := by rw [HX'.out, HY'.out]
    have HST := Lib.hid hst
    have HST' := Lib.hid hst'
    clear hst hst'
    by_cases hxx : x = x'
    · by_cases hyy : y = y'
      · have hbears : bs.getD 8 0 = m ∧ bears bs = n := by
          have h1 : (bs.drop 8).take 1 = [bs.getD 8 0] := by
            have h8 : 8 < bs.length := by rw [HL.out]; omega
            rw [List.drop_eq_getElem_cons h8, List.take_succ_cons, List.take_zero]
            simp [List.getD, h8]
          have h2 : bs.getD 8 0 = m := by rw [HM.out, h1]; simp [valB]
          exact ⟨h2, by unfold bears; rw [h2, HN.out]⟩
        have HBE := Lib.hid hbears
        have hEq : unpackE bs = if x = 0 ∨ 47 < n ∨ zeroL ((stRowOf bs).drop n) = false then 2 else 0 := by
          rw [HEz.out, HST.out, HST'.out, if_neg (by rw [hxx, hyy]; simp), hbears.2]
        have HEQ := Lib.hid hEq
        have t1 : ((x : Int) == (x' : Int)) = true := by simp; omega
        have t2 : ((y : Int) == (y' : Int)) = true := by simp; omega
        clear hEq hxx hyy hbears
        by_cases hx0 : x = 0
        · have hE : unpackE bs = 2 := by rw [HEQ.out, if_pos (.inl hx0)]
          have HE := Lib.hid hE
          have t3 : ((x : Int) == 0) = true := by simp; omega
          clear hE hx0
          go_wp2
          refine bodyPost_ret (ret_sec (Q := w.heap.size) rfl rfl (set4_at HV2.out _ _ _ _)) rfl ?_
          exact HNO.out 2 (by decide) (HE.out)
        · have t3 : ((x : Int) == 0) = false := by simp; omega
          by_cases hn47 : 47 < n
          · have hE : unpackE bs = 2 := by rw [HEQ.out, if_pos (.inr (.inl hn47))]
            have HE := Lib.hid hE
            have t4 : decide ((47 : Int) < (n : Int)) = true := by simp; omega
            clear hE hx0 hn47
            go_wp2
            refine bodyPost_ret (ret_sec (Q := w.heap.size) rfl rfl (set4_at HV2.out _ _ _ _)) rfl ?_
            exact HNO.out 2 (by decide) (HE.out)
          · have t4 : decide ((47 : Int) < (n : Int)) = false := by simp; omega
            have hn : n ≤ 47 := by omega
            have hnI : (n : Int) ≤ 47 := by omega
            have HX0 := Lib.hid hx0
            have hrl : (stRowOf bs).length = 47 := by unfold stRowOf; rw [List.length_take, List.length_drop, HL.out]; omega
            have hrow : BytesAt W7 g 0 (stRowOf bs) := fun j hj => by
              rw [hrl] at hj
              rw [Nat.zero_add]
              refine HG7.out.cell ?_
              have h1 : (cur.toList.take (47 * 1))[j]? = (u8s (stRowOf bs))[j]? := by rw [HT.out]; rfl
              rw [List.getElem?_take_of_lt (by omega)] at h1
              rw [h1]
              exact u8s_getD (stRowOf bs) j (by rw [hrl]; exact hj)
            have HRL := Lib.hid hrl
            have HROW := Lib.hid hrow
            have HRB : Hid (∀ x ∈ (stRowOf bs).drop n, x < 256) := Lib.hid fun x hx => HB.out x (List.mem_of_mem_drop (List.mem_of_mem_take (List.mem_of_mem_drop hx)))
            clear hx0 hn47 hrl hrow
            have hfin : unpackE bs = 0 → ∀ L, L = decide (128 ≤ m) → Unpacked w bs (.returned (.tuple #[.agg #[.int .u32 (x : Int), .int .u32 (y : Int), .bool L, .slice (some ⟨g, 0, none⟩) n n], .int .i64 0])) (set4 W7 w.heap.size (.int .u32 (x : Int)) (.int .u32 (y : Int)) (.bool L) (.slice (some ⟨g, 0, none⟩) n n)).drew := fun hE L hL =>
              unpacked_ok hE HST.out HBE.out.1 HBE.out.2 HRL.out HROW.out (Nat.lt_of_lt_of_le HS0.out HBG.out) HBw.out hn hL
            have HFIN := Lib.hid hfin
            clear hfin
            by_cases hcn : cap = n
            · go_wp2_with fail
              refine (isZero_any (bs := (stRowOf bs).drop n) (.inr (.inl ⟨⟨g, 0, none⟩, 0, by rw [show 47 - n = 0 by omega], List.drop_eq_nil_of_le (by rw [HRL.out]; omega)⟩)) HRB.out (by rw [List.length_drop, HRL.out]; omega)).mono ?_
              obtain ⟨q, hq⟩ : ∃ q, q = zeroL ((stRowOf bs).drop n) := ⟨_, rfl⟩
              rw [← hq]
              have HQ := Lib.hid hq
              clear hq
              rintro e w9 ⟨rfl, rfl⟩
              cases q
              · have hE : unpackE bs = 2 := by rw [HEQ.out, if_pos (.inr (.inr HQ.out.symm))]
                have HE := Lib.hid hE
                clear hE
                go_wp2
                refine bodyPost_ret (ret_sec (Q := w.heap.size) rfl rfl (set4_at HV2.out _ _ _ _)) rfl ?_
                exact HNO.out 2 (by decide) (HE.out)
              · have hE : unpackE bs = 0 := by
                  rw [HEQ.out, if_neg]
                  rintro (h | h | h)
                  · exact HX0.out h
                  · omega
                  · rw [← HQ.out] at h; cases h
                have HE := Lib.hid hE
                clear hE
                obtain ⟨L, hL⟩ : ∃ L, L = decide (128 ≤ m) := ⟨_, rfl⟩
                have t5 : decide ((128 : Int) ≤ (m : Int)) = L := by rw [hL]; exact decide_eq_decide.2 (by omega)
                have HLS := Lib.hid hL
                have hnc2 : (n : Int) ≤ n := by omega
                clear hL
                go_wp2_with fail
                go_region
                go_wp2
                refine bodyPost_ret (ret_sec (Q := w.heap.size) rfl rfl (set4_at HV2.out _ _ _ _)) rfl ?_
                exact HFIN.out HE.out L HLS.out
            · go_wp2_with fail
              refine (isZero_any (bs := (stRowOf bs).drop n) (by
                by_cases h47 : n = 47
                · refine .inr (.inl ⟨⟨g, n, none⟩, cap - n, by rw [h47], List.drop_eq_nil_of_le (by rw [HRL.out]; omega)⟩)
                · refine .inr (.inr ⟨g, n, cap - n, by rw [List.length_drop, HRL.out], ?_⟩)
                  have h := bytesAt_drop n HROW.out
                  rwa [Nat.zero_add] at h) HRB.out (by rw [List.length_drop, HRL.out]; omega)).mono ?_
              obtain ⟨q, hq⟩ : ∃ q, q = zeroL ((stRowOf bs).drop n) := ⟨_, rfl⟩
              rw [← hq]
              have HQ := Lib.hid hq
              clear hq
              rintro e w9 ⟨rfl, rfl⟩
              cases q
              · have hE : unpackE bs = 2 := by rw [HEQ.out, if_pos (.inr (.inr HQ.out.symm))]
                have HE := Lib.hid hE
                clear hE
                go_wp2
                refine bodyPost_ret (ret_sec (Q := w.heap.size) rfl rfl (set4_at HV2.out _ _ _ _)) rfl ?_
                exact HNO.out 2 (by decide) (HE.out)
              · have hE : unpackE bs = 0 := by
                  rw [HEQ.out, if_neg]
                  rintro (h | h | h)
                  · exact HX0.out h
                  · omega
                  · rw [← HQ.out] at h; cases h
                have HE := Lib.hid hE
                clear hE
                obtain ⟨L, hL⟩ : ∃ L, L = decide (128 ≤ m) := ⟨_, rfl⟩
                have t5 : decide ((128 : Int) ≤ (m : Int)) = L := by rw [hL]; exact decide_eq_decide.2 (by omega)
                have HLS := Lib.hid hL
                have hnc2 : (n : Int) ≤ cap := by omega
                clear hL
                go_wp2_with fail
                go_region
                go_wp2
                refine bodyPost_ret (ret_sec (Q := w.heap.size) rfl rfl (set4_at HV2.out _ _ _ _)) rfl ?_
                exact HFIN.out HE.out L HLS.out
      · have hE : unpackE bs = 5 := by rw [HEz.out, HST.out, HST'.out, if_pos (by intro h; exact hyy (Prod.mk.inj h).2)]
        have HE := Lib.hid hE
        have t1 : ((x : Int) == (x' : Int)) = true := by simp; omega
        have t2 : ((y : Int) == (y' : Int)) = false := by simp; omega
        clear hE hxx hyy
        go_wp2
        refine bodyPost_ret (ret_sec (Q := w.heap.size) rfl rfl (set4_at HV2.out _ _ _ _)) rfl ?_
        exact HNO.out 5 (by decide) (HE.out)
    · have hE : unpackE bs = 5 := by rw [HEz.out, HST.out, HST'.out, if_pos (by intro h; exact hxx (Prod.mk.inj h).1)]
      have HE := Lib.hid hE
      have t1 : ((x : Int) == (x' : Int)) = false := by simp; omega
      clear hE hxx
      go_wp2
      refine bodyPost_ret (ret_sec (Q := w.heap.size) rfl rfl (set4_at HV2.out _ _ _ _)) rfl ?_
      exact HNO.out 5 (by decide) (HE.out)
  · have hE : unpackE bs = 7 := by unfold unpackE; rw [if_neg H12.out.1, if_neg H12.out.2, if_pos HZ.out.symm]
    have HE := Lib.hid hE
    clear hE
    go_wp2
    refine bodyPost_ret (ret_sec (Q := w.heap.size) rfl rfl (set4_at HV2.out _ _ _ _)) rfl ?_
    exact HNO.out 7 (by decide) (HE.out)
/-- Unpack of any bytes -/
theorem unpack_any {w : World} {v : Value} {bs : List Nat} (h : Lies w v bs) (hb : ∀ x ∈ bs, x < 256) : Calls Tryd.prog 49 #[v] w (Unpacked w bs) := by
  rcases Nat.lt_trichotomy bs.length 64 with h1 | h1 | h1
  · exact unpack_short h h1
  · exact unpack_whole h hb h1
  · exact unpack_long h h1
end Go.Proofs.YtcdgbmeechnpiaaDoor
/- Rows of sectors in memory; a record's sectors. -/
namespace Go.Proofs.YtcdgbmeechnpiaaDoor
open Go.RowKit

def secC (x : (Sec × Value)) : List Value := [.int .u32 (x.1.turn : Int), .int .u32 (x.1.place : Int), .bool x.1.last, x.2]
theorem secV_C (s : Sec) (u : Value) : secV s u = .agg (secC (s, u)).toArray := rfl
def rowC (r : List (Sec × Value)) : List Value := r.flatMap secC
theorem rowC_length (r : List (Sec × Value)) : (rowC r).length = 4 * r.length := by
  unfold rowC
  induction r with
  | nil => rfl
  | cons x r ih => simp [List.flatMap_cons, ih, secC]; omega
theorem rowC_append (a b : List (Sec × Value)) : rowC (a ++ b) = rowC a ++ rowC b := by simp [rowC]
theorem rowC_cons (x : (Sec × Value)) (l : List (Sec × Value)) : rowC (x :: l) = secC x ++ rowC l := rfl
theorem rowC_get {r : List (Sec × Value)} {i : Nat} {x : (Sec × Value)} (h : r[i]? = some x) (j : Nat) (hj : j < 4) : (rowC r)[4 * i + j]? = (secC x)[j]? := by
  obtain ⟨hi, rfl⟩ := List.getElem?_eq_some_iff.1 h
  have e : r = r.take i ++ (r[i] :: r.drop (i + 1)) := by rw [← List.drop_eq_getElem_cons hi, List.take_append_drop]
  have e2 : rowC r = rowC (r.take i) ++ (secC r[i] ++ rowC (r.drop (i + 1))) := by
    conv => lhs; rw [e]
    rw [rowC_append, rowC_cons]
  have hl : (rowC (r.take i)).length = 4 * i := by rw [rowC_length, List.length_take]; omega
  rw [e2, List.getElem?_append_right (by omega), hl, show 4 * i + j - 4 * i = j by omega, List.getElem?_append_left (by simp [secC]; omega)]
theorem rowC_set {r : List (Sec × Value)} {i : Nat} (x : (Sec × Value)) (hi : i < r.length) : splice (rowC r) (4 * i) (secC x) = rowC (r.set i x) := by
  have e : r = r.take i ++ (r[i] :: r.drop (i + 1)) := by rw [← List.drop_eq_getElem_cons hi, List.take_append_drop]
  have e3 : rowC (r.set i x) = rowC (r.take i) ++ (secC x ++ rowC (r.drop (i + 1))) := by
    rw [List.set_eq_take_append_cons_drop, if_pos hi, rowC_append, rowC_cons]
  have e2 : rowC r = rowC (r.take i) ++ (secC r[i] ++ rowC (r.drop (i + 1))) := by
    conv => lhs; rw [e]
    rw [rowC_append, rowC_cons]
  have hl : (rowC (r.take i)).length = 4 * i := by rw [rowC_length, List.length_take]; omega
  have hs : (secC r[i]).length = 4 := rfl
  have hx : (secC x).length = 4 := rfl
  have d : (rowC (r.take i) ++ (secC r[i] ++ rowC (r.drop (i + 1)))).drop (4 * i + 4) = rowC (r.drop (i + 1)) := by
    rw [← List.append_assoc]
    exact List.drop_left' (by rw [List.length_append, hl, hs])
  unfold splice
  rw [e2, e3, List.take_left' hl, hx, d]
theorem secC_one (x : (Sec × Value)) (h : x.2.oneCell' = true) : ∀ u ∈ secC x, u.oneCell' = true := by
  intro u hu
  simp only [secC, List.mem_cons, List.not_mem_nil, or_false] at hu
  rcases hu with rfl | rfl | rfl | rfl
  · rfl
  · rfl
  · rfl
  · exact h
theorem infoSec : (Tryd.prog.info? 94).map (fun i => (i.zero, i.size, i.bytes)) = some (some (.agg (secC (Sec.none, .slice none 0 0)).toArray), 4, 40) := by kernel_rfl
def noneU : (Sec × Value) := (Sec.none, .slice none 0 0)
theorem made_secs (n : Nat) : (madeCells (secC noneU).toArray (n * 4)).toList = rowC (List.replicate n noneU) := by
  have hl : (rowC (List.replicate n noneU)).length = 4 * n := by rw [rowC_length, List.length_replicate]
  refine List.ext_getElem? fun k => ?_
  by_cases hk : k < 4 * n
  · have h1 : (List.replicate n noneU)[k / 4]? = some noneU := by rw [List.getElem?_replicate, if_pos (by omega)]
    have h2 := rowC_get h1 (k % 4) (by omega)
    rw [show 4 * (k / 4) + k % 4 = k by omega] at h2
    have h3 : k % 4 < 4 := by omega
    rw [h2]
    unfold madeCells
    rw [Array.toList_map, Array.toList_range, List.getElem?_map, List.getElem?_range (by omega)]
    have hs : (secC noneU).toArray.size = 4 := rfl
    simp only [Option.map_some, hs]
    rw [getElem!_pos _ _ (by rw [hs]; exact h3), List.getElem_toArray, List.getElem?_eq_getElem (by exact h3)]
    rfl
  · rw [List.getElem?_eq_none (l := rowC _) (by rw [hl]; omega), List.getElem?_eq_none]
    unfold madeCells; simp; omega

/-! ### A record's sectors -/
def pieces (n : Nat) : Nat := max 1 ((n + 46) / 47)
def pieceS (t p : Nat) (D : List Nat) (i : Nat) : Sec := ⟨t, p + i, decide (i = pieces D.length - 1), (D.drop (47 * i)).take 47⟩
def splitS (t p : Nat) (D : List Nat) : List Sec := (List.range (pieces D.length)).map (pieceS t p D)
theorem pieces_pos (n : Nat) : 1 ≤ pieces n := by unfold pieces; omega
theorem splitS_length (t p : Nat) (D : List Nat) : (splitS t p D).length = pieces D.length := by simp [splitS]
/-- which error there is -/
def splitE (t p n : Nat) : Int := if t = 0 then 1 else if p + (pieces n - 1) ≤ 4294967295 then 0 else 3

/-- from its row, at a: the slice of the i-th piece -/
def pieceV (a : Option Addr) (N i : Nat) : Value := midS a (min (47 * i + 47) N) (47 * i) (min (47 * i + 47) N)
def pieceU (t p : Nat) (D : List Nat) (a : Option Addr) (i : Nat) : (Sec × Value) := (pieceS t p D i, pieceV a D.length i)
/-- the first k are there -/
def fillR (t p : Nat) (D : List Nat) (a : Option Addr) (k : Nat) : List (Sec × Value) := (List.range (pieces D.length)).map fun i => if i < k then pieceU t p D a i else noneU
theorem fillR_zero (t p : Nat) (D : List Nat) (a : Option Addr) : fillR t p D a 0 = List.replicate (pieces D.length) noneU := by
  unfold fillR
  refine List.ext_getElem (by simp) fun i h1 h2 => by simp
theorem fillR_set (t p : Nat) (D : List Nat) (a : Option Addr) (k : Nat) : (fillR t p D a k).set k (pieceU t p D a k) = fillR t p D a (k + 1) := by
  unfold fillR
  refine List.ext_getElem (by simp) fun i h1 h2 => ?_
  rw [List.getElem_set]
  by_cases h : k = i
  · rw [if_pos h]; subst h; simp
  · rw [if_neg h]
    simp only [List.getElem_map, List.getElem_range]
    by_cases h3 : i < k
    · rw [if_pos h3, if_pos (by omega)]
    · rw [if_neg h3, if_neg (by omega)]
theorem fillR_length (t p : Nat) (D : List Nat) (a : Option Addr) (k : Nat) : (fillR t p D a k).length = pieces D.length := by simp [fillR]
theorem fillR_all (t p : Nat) (D : List Nat) (a : Option Addr) : (fillR t p D a (pieces D.length)).map Prod.fst = splitS t p D := by
  unfold fillR splitS
  refine List.ext_getElem (by simp) fun i h1 h2 => ?_
  simp at h1
  simp [h1, pieceU]

/-! ### s[lo:hi:most] of a slice -/
theorem run_mid3 {P : Program} (w : World) (t e : TypeId) (ht : P.underlying t = some (.slice e)) (hs : (P.info? e).map (·.size) = some 1) (a : Option Addr) (m cap lo hi mx : Nat) (low high most : Option Value)
    (hb : (Instr.sliceBounds true m cap low high most).run P w = .ok (lo, hi, mx) w) :
    (Instr.sliceAt t (.slice a m cap) low high most).run P w = .ok (midS a mx lo hi) w := by
  cases hq : P.info? e with
  | none => simp [hq] at hs
  | some ii =>
    have hss : ii.size = 1 := by simpa [hq] using hs
    have hsz : (sizeOf e).run P w = .ok 1 w := by simp [sizeOf, typeInfo, hq, hss]
    have h1 : (Instr.sliceAt t (.slice a m cap) low high most).run P w = (Instr.slice t (.slice a m cap) low high most).run P w := by simp [Instr.sliceAt, run_underlying ht]
    rw [h1]
    simp only [Instr.slice, Sem.run_bind, run_underlying ht, Result.andThen_ok, hb, hsz, Sem.run_pure, midS, Nat.mul_one]
theorem bounds_lhm {P : Program} (w : World) (m cap lo hi mx : Nat) (h1 : lo ≤ hi) (h2 : hi ≤ mx) (h3 : mx ≤ cap) : (Instr.sliceBounds true m cap (some (.int .i64 (lo : Int))) (some (.int .i64 (hi : Int))) (some (.int .i64 (mx : Int)))).run P w = .ok (lo, hi, mx) w := by
  simp [Instr.sliceBounds, Instr.sliceBound, asIntOf, h1, h2, h3]
theorem run_mid3_op {P : Program} (w : World) {o : Oper} {a : Act} (t : TypeId) (x l h m : Operand) (ho : o.op = .slice t x (some l) (some h) (some m)) (e : TypeId) (ht : P.underlying t = some (.slice e)) (hs : (P.info? e).map (·.size) = some 1)
    (a0 : Option Addr) (n cap lo hi mx : Nat) (hx : a.eval x = .slice a0 n cap) (hl : a.eval l = .int .i64 (lo : Int)) (hh : a.eval h = .int .i64 (hi : Int)) (hm : a.eval m = .int .i64 (mx : Int)) (h1 : lo ≤ hi) (h2 : hi ≤ mx) (h3 : mx ≤ cap) :
    (execOp a.eval o).run P w = .ok (.value (midS a0 mx lo hi)) w := by
  unfold execOp
  simp only [ho, hx, hl, hh, hm, Option.map_some, Sem.run_bind, run_mid3 w t e ht hs a0 n cap lo hi mx _ _ _ (bounds_lhm w n cap lo hi mx h1 h2 h3), Result.andThen_ok, Sem.run_pure]
theorem sizeU8 : (Tryd.prog.info? 5).map (·.size) = some 1 := by kernel_rfl
/-- what a piece of a row of one's own holds -/
theorem liesFrom_mid {B : Nat} {w : World} {v : Value} {bs : List Nat} (h : w.ownsRow B 5 1 v bs.length (u8s bs)) {lo hi : Nat} (h1 : lo ≤ hi) (h2 : hi ≤ bs.length) : ∃ a c, v = .slice a bs.length c ∧ bs.length ≤ c ∧ LiesFrom B w (midS a hi lo hi) ((bs.drop lo).take (hi - lo)) := by
  rcases h.2 with ⟨rfl, h0⟩ | ⟨g, cap, cur, rfl, hB, hg, hnc, _⟩
  · have e : bs = [] := List.length_eq_zero_iff.1 h0
    subst e
    have hh : hi = 0 := by simpa using h2
    subst hh
    have hl : lo = 0 := by omega
    subst hl
    exact ⟨none, 0, rfl, Nat.le_refl _, .inl ⟨rfl, rfl⟩⟩
  · refine ⟨some ⟨g, 0, none⟩, cap, rfl, hnc, ?_⟩
    have hl : ((bs.drop lo).take (hi - lo)).length = hi - lo := by rw [List.length_take, List.length_drop]; omega
    by_cases h3 : lo = hi
    · subst h3
      refine .inr (.inl ⟨⟨g, 0, none⟩, 0, ?_, List.length_eq_zero_iff.1 (by rw [hl]; omega)⟩)
      unfold midS
      rw [if_pos rfl, Nat.sub_self]
    · have hb : BytesAt w g 0 bs := fun j hj => by rw [Nat.zero_add, h.cellAt j (by omega), u8s_getD bs j hj]
      have e : midS (some ⟨g, 0, none⟩) hi lo hi = .slice (some ⟨g, lo, none⟩) (hi - lo) (hi - lo) := by
        unfold midS
        rw [if_neg (by omega), Option.map_some, add_at, Nat.zero_add]
      rw [e]
      have hc := bytesAt_take (hi - lo) (bytesAt_drop lo hb)
      rw [Nat.zero_add] at hc
      exact liesFrom_cut hl hB hc
end Go.Proofs.YtcdgbmeechnpiaaDoor
/- writeStamp, mark, Pack: walked. -/
namespace Go.Proofs.YtcdgbmeechnpiaaDoor
open Go.RowKit

/-- written on, from a later world on -/
theorem OWrote.join {B : Nat} {w0 w1 w2 : World} {P : Nat} {g g1 : Option Nat} {l m : List Nat} (h : OWrote B w0 P g l w1) (hg : g1 = g ∨ ∃ k, g1 = some k ∧ w0.heap.size ≤ k) (k : OWrote B w1 P g1 m w2) : OWrote B w0 P g m w2 := by
  obtain ⟨hP, hgl, ho, _⟩ := h
  obtain ⟨_, _, ho2, g2, h2, hg2⟩ := k
  refine ⟨hP, hgl, ho.trans ho2 (fun i hi hs => ?_), g2, h2, ?_⟩
  · rcases hs with hs | hs
    · exact .inl hs
    · rcases hg with hg | ⟨b, hb, hl⟩
      · exact .inr (hg ▸ hs)
      · rw [hb] at hs; have : b = i := Option.some.inj hs; omega
  · rcases hg2 with h3 | ⟨b, hb, hl⟩
    · rcases hg with hg | ⟨b, hb, hl⟩
      · exact .inl (h3.trans hg)
      · exact .inr ⟨b, h3.trans hb, hl⟩
    · exact .inr ⟨b, hb, Nat.le_trans ho.size hl⟩
theorem OWrote.again {B : Nat} {w0 w : World} {P : Nat} {g : Option Nat} {l : List Nat} (h : OWrote B w0 P g l w) : ∃ g1, OWrote B w P g1 l w ∧ (g1 = g ∨ ∃ k, g1 = some k ∧ w0.heap.size ≤ k) ∧ ∀ V cs t fr, w.heap[V]? = some (.cells cs t fr) → t ≠ 5 → g1 ≠ some V := by
  obtain ⟨_, _, _, g1, h1, h2⟩ := h
  refine ⟨g1, OWrote.start h1, h2, fun V cs t fr hV ht => ?_⟩
  obtain ⟨_, v, hv, _, hown⟩ := h1
  rw [← hv]
  exact row_ne hV hown ht

set_option maxHeartbeats 2000000 in
theorem writeStamp_any {B : Nat} {w0 w : World} {P t p : Nat} {g : Option Nat} {l : List Nat} (ht : t < 4294967296) (hp : p < 4294967296) (hl : StepsLaid w) (hgB : 0 < B) (hB : B ≤ w0.heap.size) (hbig : l.length ≤ 1000000) (hw : OWrote B w0 P g l w) :
    Calls Tryd.prog 74 #[.pointer (some ⟨P, 0, none⟩), stampV t p] w fun e w' => e = .returned (.tuple #[]) ∧ OWrote B w0 P g (l ++ stampB t p) w' := by
  have HL := Lib.hid hl
  have HW := Lib.hid hw
  have e1 : IntKind.u64.wrap (t : Int) = t := by rw [IntKind.wrap_u64]; omega
  have e2 : IntKind.u64.wrap (p : Int) = p := by rw [IntKind.wrap_u64]; omega
  clear hl hw
  unfold stampV
  go_enter Tryd.func74, Tryd.ntmps74
  go_wp2_with fail
  obtain ⟨V, hV⟩ : ∃ V, V = w.heap.size := ⟨_, rfl⟩
  rw [← hV]
  refine calls_name fun W1 hW1 => ?_
  have hba : Below w.heap.size w W1 := by rw [hW1]; exact (Below.refl _ _).alloc (Nat.le_refl _) _
  have HV1 : Hid (W1.heap[V]? = some (.cells #[.int .u32 t, .int .u32 p] 92 (0, 0))) := Lib.hid (by rw [hW1, hV]; exact heap_alloc_new _ _)
  have HW1 := Lib.hid (HW.out.beyond hba)
  have HL1 := Lib.hid (HL.out.below hba)
  have HPV : Hid (P < V ∧ B ≤ V ∧ w0.heap.size ≤ w.heap.size) := Lib.hid (by have h1 := HW.out.1.2; have h2 := HW.out.2.2.1.size; omega)
  clear hba hW1 hV
  obtain ⟨g1, hs1, hg1, hgv⟩ := HW1.out.again
  have HS1 := Lib.hid hs1
  have HG1 := Lib.hid hg1
  have HGV : Hid (g1 ≠ some V) := Lib.hid (hgv V _ _ _ HV1.out (by decide))
  clear hs1 hg1 hgv
  refine (num_ok (n := 4) (by omega) (by unfold Wide; omega) (wid_le 32 ht) HL1.out (by have := HPV.out; have h2 := HW1.out.2.2.1.size; omega) (by omega) HS1.out).mono ?_
  rintro e w2 ⟨rfl, hs2⟩
  have hB1 : B ≤ W1.heap.size := by have h2 := HW1.out.2.2.1.size; omega
  have HS2 := Lib.hid hs2
  have HL2 : Hid (StepsLaid w2) := Lib.hid fun j v hv => by
    have h1 := HL.out j v hv
    have h2 := HL1.out j v hv
    rw [← h2]
    exact (hs2.below hB1).cell (p := ⟨0, j, none⟩) hgB
  have hv2 : w2.heap[V]? = some (.cells #[.int .u32 t, .int .u32 p] 92 (0, 0)) := (hs2.2.2.1.block V (lt_of_block HV1.out) (by rintro (h | h); exact absurd h (by have := HPV.out; omega); exact HGV.out h)).trans HV1.out
  obtain ⟨c0, c1, _, _⟩ := cells2 hv2
  clear hs2 hv2
  go_wp2_with fail
  refine (num_ok (n := 4) (by omega) (by unfold Wide; omega) (wid_le 32 hp) HL2.out hB1 (by rw [List.length_append, numB_length]; omega) HS2.out).mono ?_
  rintro e w3 ⟨rfl, hs3⟩
  have HS3 := Lib.hid hs3
  clear hs3
  go_wp2
  go_end0
  exact ⟨rfl, HW1.out.join HG1.out (by have h := HS3.out; rw [List.append_assoc] at h; exact h)⟩

theorem mark_any {w : World} {s : Sec} {u : Value} (hs : s.data.length ≤ 47) (hu : Lies w u s.data) : Calls Tryd.prog 76 #[secV s u] w fun e w' => e = .returned (.int .u64 (s.mark : Int)) ∧ Below w.heap.size w w' := by
  obtain ⟨a, c, rfl⟩ := lies_len hu
  obtain ⟨t, p, L, D⟩ := s
  obtain ⟨n, hn⟩ : ∃ n, n = D.length := ⟨_, rfl⟩
  unfold secV Sec.mark
  simp only at hs ⊢
  rw [← hn] at hs ⊢
  clear hu hn
  have e1 : IntKind.u64.wrap (n : Int) = n := by rw [IntKind.wrap_u64]; omega
  have e2 : IntKind.u64.wrap ((n : Int) + 128) = n + 128 := by rw [IntKind.wrap_u64]; omega
  cases L
  · go_enter Tryd.func76, Tryd.ntmps76
    go_wp2
    go_ret
    exact ⟨by simp, (Below.refl _ w).alloc (Nat.le_refl _) _⟩
  · go_enter Tryd.func76, Tryd.ntmps76
    go_wp2
    go_ret
    exact ⟨by simp, (Below.refl _ w).alloc (Nat.le_refl _) _⟩
theorem wrote_keeps {B : Nat} {W1 wk : World} {P V : Nat} {l : List Nat} {o : Obj} (h : OWrote B W1 P none l wk) (hB : B ≤ W1.heap.size) (hV : W1.heap[V]? = some o) (hne : V ≠ P) (hl : StepsLaid W1) (hg : 0 < B) :
    wk.heap[V]? = some o ∧ StepsLaid wk := by
  have hb := h.below hB
  refine ⟨(h.2.2.1.block V (lt_of_block hV) (by rintro (h | h); exact hne h; cases h)).trans hV, fun j v hv => ?_⟩
  have h1 := hl j v hv
  rw [← h1]
  exact hb.cell (p := ⟨0, j, none⟩) hg
theorem pack_turn {w : World} {s : Sec} {u : Value} (hu : Lies w u s.data) (h : s.turn = 0) : Calls Tryd.prog 68 #[secV s u] w fun e w' => e = .returned (.tuple #[.slice none 0 0, .int .i64 1]) ∧ Below w.heap.size w w' := by
  obtain ⟨a, c, rfl⟩ := lies_len hu
  obtain ⟨t, p, L, D⟩ := s
  simp only at h
  subst h
  unfold secV
  clear hu
  go_enter Tryd.func68, Tryd.ntmps68
  go_wp2
  go_ret2
  exact ⟨rfl, (Below.refl _ w).alloc (Nat.le_refl _) _⟩
theorem pack_long {w : World} {s : Sec} {u : Value} (hu : Lies w u s.data) (h : s.turn ≠ 0) (hn : 47 < s.data.length) : Calls Tryd.prog 68 #[secV s u] w fun e w' => e = .returned (.tuple #[.slice none 0 0, .int .i64 12]) ∧ Below w.heap.size w w' := by
  obtain ⟨a, c, rfl⟩ := lies_len hu
  obtain ⟨t, p, L, D⟩ := s
  simp only at h hn
  unfold secV
  have t1 : ((t : Int) == 0) = false := by simp; omega
  have t2 : decide ((47 : Int) < (D.length : Int)) = true := by simp; omega
  clear hu h hn
  go_enter Tryd.func68, Tryd.ntmps68
  go_wp2
  go_ret2
  exact ⟨rfl, (Below.refl _ w).alloc (Nat.le_refl _) _⟩

theorem made_zeros (n : Nat) : (madeCells (Value.int .u8 0).cells (n * 1)).toList = u8s (List.replicate n 0) := by
  unfold u8s
  rw [List.map_replicate, Nat.mul_one]
  exact made_rep (v := .int .u8 0) (N := 1) (by omega)
set_option maxHeartbeats 4000000 in
theorem pack_ok {w : World} {s : Sec} {u : Value} (hs : s.Ok) (hu : Lies w u s.data) (hl : StepsLaid w) : Calls Tryd.prog 68 #[secV s u] w fun e w' =>
    ∃ v, e = .returned (.tuple #[v, .int .i64 0]) ∧ w'.ownsRow w.heap.size 5 1 v 64 (u8s (secB s)) ∧ Below w.heap.size w w' := by
  obtain ⟨a, c, rfl⟩ := lies_len hu
  obtain ⟨S, hS⟩ : ∃ S, S = s := ⟨_, rfl⟩
  have HSO : Hid (S.Ok ∧ secB s = secB S) := Lib.hid (by rw [hS]; exact ⟨hs, rfl⟩)
  have hm256 : S.mark < 256 := by rw [hS]; have := hs.2.1; unfold Sec.mark; split <;> omega
  have HMK : Hid (∀ W u', Lies W u' S.data → Calls Tryd.prog 76 #[secV S u'] W fun e w' => e = .returned (.int .u64 (S.mark : Int)) ∧ Below W.heap.size W w') := Lib.hid fun W u' h => mark_any HSO.out.1.2.1 h
  rw [HSO.out.2]
  rw [← hS] at hu ⊢
  clear hS hs
  obtain ⟨t, p, L, D⟩ := S
  obtain ⟨n, hn⟩ : ∃ n, n = D.length := ⟨_, rfl⟩
  obtain ⟨m, hm⟩ : ∃ m, m = Sec.mark ⟨t, p, L, D⟩ := ⟨_, rfl⟩
  unfold secV at *
  simp only at hu ⊢
  rw [← hn] at hu ⊢
  rw [← hm] at hm256 HMK
  have HM := Lib.hid hm
  have HU := Lib.hid hu
  have HN := Lib.hid hn
  have HL := Lib.hid hl
  have ht0 : t ≠ 0 := HSO.out.1.1
  have hn47 : n ≤ 47 := by rw [hn]; exact HSO.out.1.2.1
  have ht : t < 4294967296 := HSO.out.1.2.2.1
  have hp : p < 4294967296 := HSO.out.1.2.2.2.1
  have t1 : ((t : Int) == 0) = false := by simp; omega
  have t2 : decide ((47 : Int) < (n : Int)) = false := by simp; omega
  obtain ⟨z, hz⟩ : ∃ z, z = 47 - n := ⟨_, rfl⟩
  have e1 : IntKind.i64.wrap (47 - (n : Int)) = (z : Int) := by rw [IntKind.wrap_i64]; omega
  have hz47 : z ≤ 47 := by omega
  have HZ := Lib.hid hz
  obtain ⟨i0, hi0, hi1, hi2, hi3⟩ := info_parts infoU8
  have HI : Hid (Tryd.prog.info? 5 = some i0 ∧ i0.zero = some (.int .u8 0) ∧ i0.size = 1 ∧ i0.bytes * z ≤ 281474976710656) := Lib.hid ⟨hi0, hi1, hi2, by rw [hi3]; omega⟩
  have HT := Lib.hid ht
  have HP := Lib.hid hp
  clear hu hn hl hm ht0 hi0 hi1 hi2 hi3 ht hp hz
  go_enter Tryd.func68, Tryd.ntmps68
  go_wp2_with fail
  obtain ⟨V, hV⟩ : ∃ V, V = w.heap.size := ⟨_, rfl⟩
  obtain ⟨Q, hQ⟩ : ∃ Q, Q = w.heap.size + 1 := ⟨_, rfl⟩
  rw [← hQ, ← hV]
  refine calls_name fun W1 hW1 => ?_
  have HV1 : Hid (W1.heap[V]? = some (.cells #[.int .u32 (t : Int), .int .u32 (p : Int), .bool L, .slice a n c] 94 (0, 0))) := Lib.hid (by rw [hW1, hV, Below.heap_alloc _ _ _ (by simp)]; exact heap_alloc_new _ _)
  have HBw : Hid (Below w.heap.size w W1) := Lib.hid (by rw [hW1]; exact ((Below.refl _ w).alloc (Nat.le_refl _) _).alloc (by simp) _)
  have HS1 : Hid (OWrote Q W1 Q none [] W1) := Lib.hid (by
    have h := owriter_new (w.alloc (.cells #[.int .u32 (t : Int), .int .u32 (p : Int), .bool L, .slice a n c] 94))
    have e : (w.alloc (.cells #[.int .u32 (t : Int), .int .u32 (p : Int), .bool L, .slice a n c] 94)).heap.size = Q := by rw [hQ]; simp
    rw [e] at h
    rw [hW1]
    exact OWrote.start h)
  have HB1 : Hid (Q ≤ W1.heap.size) := Lib.hid (by rw [hW1, hQ]; simp)
  have HNE : Hid (V ≠ Q) := Lib.hid (by omega)
  have HL1 : Hid (StepsLaid W1) := Lib.hid (HL.out.below HBw.out)
  have HGB : Hid (0 < Q) := Lib.hid (by have := HL.out.lt; omega)
  have HwQ : Hid (w.heap.size ≤ Q) := Lib.hid (by omega)
  clear hW1 hV hQ
  refine (writeStamp_any HT.out HP.out HL1.out HGB.out HB1.out (by simp) HS1.out).mono ?_
  rintro e w2 ⟨rfl, hs2⟩
  have HS2 := Lib.hid hs2
  clear hs2
  obtain ⟨hv2, hl2⟩ := wrote_keeps HS2.out HB1.out HV1.out HNE.out HL1.out HGB.out
  have HL2x := Lib.hid hl2
  obtain ⟨⟨c0, c1, c2, c3⟩, _, _, _, _⟩ := cells4 hv2
  clear hl2 hv2
  go_wp2_with fail
  have HU2 : Hid (Lies w2 (.slice a n c) D) := Lib.hid (lies_keep HU.out (HBw.out.trans ((HS2.out.below HB1.out).mono HwQ.out)))
  refine (HMK.out _ _ HU2.out).mono ?_
  rintro e w3 ⟨rfl, hb3⟩
  have HS3 := Lib.hid (HS2.out.beyond hb3)
  clear hb3 c0 c1 c2 c3
  obtain ⟨hv3, hl3⟩ := wrote_keeps HS3.out HB1.out HV1.out HNE.out HL1.out HGB.out
  have HL3x := Lib.hid hl3
  obtain ⟨⟨c0, c1, c2, c3⟩, _, _, _, _⟩ := cells4 hv3
  clear hl3 hv3
  go_wp2_with fail
  refine (num_ok (n := 1) (by omega) (by unfold Wide; omega) (wid_le 8 hm256) HL3x.out HB1.out (by simp [stampB_length]) HS3.out).mono ?_
  rintro e w4 ⟨rfl, hs4⟩
  have HS4 := Lib.hid hs4
  clear hs4 c0 c1 c2 c3
  obtain ⟨hv4, hl4⟩ := wrote_keeps HS4.out HB1.out HV1.out HNE.out HL1.out HGB.out
  have HL4x := Lib.hid hl4
  obtain ⟨⟨c0, c1, c2, c3⟩, _, _, _, _⟩ := cells4 hv4
  clear hl4 hv4
  go_wp2_with fail
  have HU4 : Hid (Lies w4 (.slice a n c) D) := Lib.hid (lies_keep HU.out (HBw.out.trans ((HS4.out.below HB1.out).mono HwQ.out)))
  refine (raw_ok HU4.out (by rw [← HN.out]; omega) HB1.out (by simp [stampB_length, numB_length]) HS4.out).mono ?_
  rintro e w5 ⟨rfl, hs5⟩
  have HS5 := Lib.hid hs5
  clear hs5 c0 c1 c2 c3
  obtain ⟨hv5, hl5⟩ := wrote_keeps HS5.out HB1.out HV1.out HNE.out HL1.out HGB.out
  have HL5x := Lib.hid hl5
  obtain ⟨⟨c0, c1, c2, c3⟩, _, _, _, _⟩ := cells4 hv5
  clear hl5 hv5
  go_wp2_with (refine wpList_make_full _ rfl (.tmp 33) (.tmp 33) 31 rfl w5.heap.size 5 i0 _ 1 Tryd.underlying31 HI.out.1 HI.out.2.1 HI.out.2.2.1 .i64 .i64 (z : Int) (z : Int) z rfl rfl rfl rfl HI.out.2.2.2 (by unfold maxLen; omega) (Nat.le_refl _) ?_; intro W6 hown hgr; rw [made_zeros] at hown)
  have HO6 := Lib.hid hown
  have HS6 := Lib.hid (HS5.out.beyond ((Only.grown hgr).below (Nat.le_refl _) (fun k hk => by cases hk)))
  clear hown hgr c0 c1 c2 c3
  refine (raw_ok (bs := List.replicate z 0) (by have h := ownsRow_lies HO6.out; rw [← List.length_replicate (n := z) (a := 0)] ; rw [List.length_replicate]; exact h) (by simp; omega) HB1.out (by have h := HN.out; have h2 := hn47; simp [stampB_length, numB_length]; omega) HS6.out).mono ?_
  rintro e w7 ⟨rfl, hs7⟩
  have HS7 := Lib.hid hs7
  clear hs7
  obtain ⟨hv7, hl7⟩ := wrote_keeps HS7.out HB1.out HV1.out HNE.out HL1.out HGB.out
  have HL7x := Lib.hid hl7
  obtain ⟨⟨c0, c1, c2, c3⟩, _, _, _, _⟩ := cells4 hv7
  clear hl7 hv7
  go_wp2_with fail
  refine (writeStamp_any HT.out HP.out HL7x.out HGB.out HB1.out (by have h := HN.out; have h2 := hn47; simp [stampB_length, numB_length]; omega) HS7.out).mono ?_
  rintro e w8 ⟨rfl, hs8⟩
  have hfin : [] ++ stampB t p ++ numB m 1 ++ D ++ List.replicate z 0 ++ stampB t p = secB ⟨t, p, L, D⟩ := by
    have e1 : numB m 1 = [m] := by
      show [m / 256 ^ 0 % 256] = [m]
      rw [Nat.pow_zero, Nat.div_one, Nat.mod_eq_of_lt hm256]
    rw [e1, HM.out, HZ.out, HN.out]
    simp [secB, Sec.body]
  rw [hfin] at hs8
  have HS8 := Lib.hid hs8
  clear hs8 c0 c1 c2 c3 hfin
  have hl64 : (secB ⟨t, p, L, D⟩).length = 64 := secB_length HSO.out.1.2.1
  obtain ⟨LL, hLL⟩ : ∃ x, x = secB ⟨t, p, L, D⟩ := ⟨_, rfl⟩
  rw [← hLL] at HS8 hl64
  have H64 := Lib.hid hl64
  have HLL := Lib.hid hLL
  clear hLL hl64
  go_wp2_with fail
  refine (obytes Q HS8.out (by rw [H64.out]; omega)).mono ?_
  rintro e w9 ⟨v9, rfl, hown, hb9⟩
  have HO9 := Lib.hid hown
  have HB9 : Hid (Below w.heap.size w w9) := Lib.hid (HBw.out.trans (((HS8.out.below HB1.out).mono HwQ.out).trans (hb9.mono (by have := HBw.out.size; have h2 := (HS8.out.below HB1.out).size; omega))))
  have HZ8 : Hid (w.heap.size ≤ w8.heap.size) := Lib.hid (by have := HBw.out.size; have h2 := (HS8.out.below HB1.out).size; omega)
  clear hown hb9
  go_wp2
  go_ret2
  exact ⟨v9, rfl, by have h := HO9.out; rw [H64.out, HLL.out] at h; exact row_base h HZ8.out, HB9.out⟩
end Go.Proofs.YtcdgbmeechnpiaaDoor
/- Split, walked. -/
namespace Go.Proofs.YtcdgbmeechnpiaaDoor
open Go.RowKit

/-- what Split tells, where it does -/
def Splitted (w : World) (t p : Nat) (D : List Nat) (e : Ending) (w' : World) : Prop :=
  (splitE t p D.length ≠ 0 ∧ e = .returned (.tuple #[.slice none 0 0, .int .i64 (splitE t p D.length)]) ∧ Below w.heap.size w w') ∨
  (splitE t p D.length = 0 ∧ ∃ (g : Nat) (r : List (Sec × Value)), e = .returned (.tuple #[.slice (some ⟨g, 0, none⟩) r.length r.length, .int .i64 0]) ∧ r.map Prod.fst = splitS t p D ∧ w.heap.size ≤ g ∧ Arr w' g 94 (rowC r) ∧ (∀ x ∈ r, LiesFrom w.heap.size w' x.2 x.1.data ∧ Fits x.2) ∧ Below w.heap.size w w')

set_option maxHeartbeats 1000000 in
theorem split_turn {w : World} {v : Value} {p : Int} {D : List Nat} {p' : Nat} : Calls Tryd.prog 53 #[.int .u32 0, .int .u32 p, v] w (Splitted w 0 p' D) := by
  go_enter Tryd.func53, Tryd.ntmps53
  go_wp2
  go_ret2
  exact .inl ⟨by unfold splitE; simp, rfl, Below.refl _ _⟩

theorem built_sec (t p : Nat) (L : Bool) (u : Value) (hu : u.cells = #[u]) : Tryd.prog.built 94 [(0, .agg #[.int .u32 (t : Int), .int .u32 (p : Int)]), (1, .bool L), (2, u)] = some (secC (⟨t, p, L, []⟩, u)).toArray := by
  have h : ∀ ps, Tryd.prog.built 94 ps = Instr.fill (#[((0 : Nat), (2 : Nat)), (2, 1), (3, 1)][·]?) (secC noneU).toArray ps := by intro ps; kernel_rfl
  rw [h, fill_next _ _ 0 0 2 _ [.int .u32 (t : Int), .int .u32 (p : Int)] _ rfl rfl rfl (by simp [secC]), fill_next _ _ 1 2 1 _ [.bool L] _ rfl rfl rfl (by simp [secC, splice]), fill_last _ _ 2 3 1 _ [u] rfl hu rfl (by simp [secC, splice])]
  simp [splice, secC, noneU]
theorem only_stRow (w : World) {G : Nat} (cs : Array Value) : Only (fun b => b = G) w (w.setRow G cs) := ⟨rfl, rfl, rfl, by simp, fun k _ hs => setRow_other w _ _ _ hs⟩
theorem fill_next_row {w : World} {G k : Nat} {R c1 c2 : List Value} {T : TypeId} (h : Arr w G T R) (hc : c1 = c2) : Arr (w.setRow G (splice R (k * 4) c1).toArray) G T (splice R (4 * k) c2) := by
  subst hc
  rw [Nat.mul_comm 4 k]
  exact setRow_heap _ _ _ _ _ _ h
theorem own_arr {B : Nat} {w : World} {e : TypeId} {s g n : Nat} {xs : List Value} (h : w.ownsRow B e s (.slice (some ⟨g, 0, none⟩) n n) n xs) : Arr w g e xs := by
  rcases h.2 with ⟨hv, _⟩ | ⟨g', cap, cur, hv, _, hg, _, _, hcs, ht⟩
  · cases hv
  · cases hv
    have : cur.toList = xs := by rw [← ht, List.take_of_length_le (by simp at hcs ⊢; omega)]
    unfold Arr; rw [← this]; simpa using hg

theorem LiesFrom.mono {B B' : Nat} {w : World} {v : Value} {bs : List Nat} (h : LiesFrom B w v bs) (hB : B' ≤ B) : LiesFrom B' w v bs := by
  rcases h with h | h | ⟨b, off, cap, h, hl, hb, hc, hne⟩
  · exact .inl h
  · exact .inr (.inl h)
  · exact .inr (.inr ⟨b, off, cap, h, hl, by omega, hc, hne⟩)
theorem splitted_ok {w w' : World} {t p : Nat} {D : List Nat} {n N G B : Nat} {a : Option Addr} {c : Nat} (ht : t ≠ 0) (hf : p + (pieces D.length - 1) ≤ 4294967295) (hn : n = pieces D.length) (hN : N = D.length) (hG : w.heap.size ≤ G)
    (ha : Arr w' G 94 (rowC (fillR t p D a n))) (ho : w'.ownsRow B 5 1 (.slice a N c) N (u8s D)) (hB : w.heap.size ≤ B) (hb : Below w.heap.size w w') :
    Splitted w t p D (.returned (.tuple #[.slice (some ⟨G, 0, none⟩) n n, .int .i64 0])) w' := by
  have hE : splitE t p D.length = 0 := by unfold splitE; rw [if_neg ht, if_pos hf]
  subst hn
  subst hN
  refine .inr ⟨hE, G, fillR t p D a (pieces D.length), by rw [fillR_length], fillR_all t p D a, hG, ha, fun x hx => ?_, hb⟩
  unfold fillR at hx
  obtain ⟨i, hi, rfl⟩ := List.mem_map.1 hx
  have hi := List.mem_range.1 hi
  have hle : 47 * i ≤ min (47 * i + 47) D.length := by unfold pieces at hi; omega
  obtain ⟨a', c', hv, _, hl⟩ := liesFrom_mid ho hle (Nat.min_le_right _ _)
  cases hv
  simp only [if_pos hi]
  have e : (D.drop (47 * i)).take (min (47 * i + 47) D.length - 47 * i) = (D.drop (47 * i)).take 47 := by
    rw [List.take_eq_take_iff, List.length_drop]; omega
  rw [e] at hl
  exact ⟨hl.mono hB, fits_mid (Nat.le_refl _)⟩

set_option maxRecDepth 1000000 in
set_option maxHeartbeats 4000000 in
theorem split_main {w : World} {v : Value} {t p : Nat} {D : List Nat} (h : Lies w v D) (ht : t ≠ 0) (hp : p < 4294967296) (hbig : D.length ≤ 1000000000) :
    Calls Tryd.prog 53 #[.int .u32 (t : Int), .int .u32 (p : Int), v] w (Splitted w t p D) := by
  obtain ⟨a, c, rfl⟩ := lies_len h
  obtain ⟨N, hN⟩ : ∃ N, N = D.length := ⟨_, rfl⟩
  obtain ⟨n, hn⟩ : ∃ n, n = pieces N := ⟨_, rfl⟩
  have hn1 : 1 ≤ n := by rw [hn]; exact pieces_pos N
  have hnN : n ≤ 1000000000 := by rw [hn]; unfold pieces; omega
  have H := Lib.hid h
  have HN := Lib.hid hN
  have HP := Lib.hid hn
  have HT := Lib.hid ht
  have e0 : ((t : Int) == 0) = false := by simp; omega
  have e1 : IntKind.i64.wrap ((N : Int) + 47) = N + 47 := by rw [IntKind.wrap_i64]; omega
  have e2 : IntKind.i64.wrap ((N : Int) + 47 - 1) = N + 46 := by rw [IntKind.wrap_i64]; omega
  have e3 : max (1 : Int) (((N : Int) + 46) / 47) = n := by rw [hn]; unfold pieces; omega
  have e4 : (if (1 : Int) < ((N : Int) + 46) / 47 then ((N : Int) + 46) / 47 else 1) = n := by rw [hn]; unfold pieces; split <;> omega
  rw [← hN] at hbig ⊢
  clear h hN ht hn
  go_enter Tryd.func53, Tryd.ntmps53
  go_wp2_with fail
  refine (fits_any hp hn1 (by omega) w).mono ?_
  rintro e w0 ⟨rfl, h0⟩
  subst h0
  by_cases hf : p + (n - 1) ≤ 4294967295
  · rw [decide_eq_true hf]
    have HF := Lib.hid hf
    go_wp2_with fail
    obtain ⟨V9, hV9⟩ : ∃ V, V = w.heap.size := ⟨_, rfl⟩
    rw [← hV9]
    have HVe := Lib.hid hV9
    refine calls_name fun W1 hW1 => ?_
    have HV1 : Hid (W1.heap[V9]? = some (.cells #[.int .u32 t, .int .u32 p] 92 (0, 0))) := Lib.hid (by rw [hW1, hV9]; exact heap_alloc_new _ _)
    have HB1 : Hid (Below w.heap.size w W1) := Lib.hid (by rw [hW1]; exact (Below.refl _ w).alloc (Nat.le_refl _) _)
    clear hV9 hW1
    refine (clone_any (bs := D) (by have h := lies_keep H.out HB1.out; rw [← HN.out] at h; exact h) (by rw [← HN.out]; exact hbig)).mono ?_
    rw [← HN.out]
    rintro e w2 ⟨v2, rfl, hown, hb2⟩
    have HO2 := Lib.hid hown
    have HB2 : Hid (Below w.heap.size w w2) := Lib.hid (HB1.out.trans (hb2.mono HB1.out.size))
    have HV2 : Hid (w2.heap[V9]? = some (.cells #[.int .u32 t, .int .u32 p] 92 (0, 0))) := Lib.hid ((hb2.block V9 (lt_of_block HV1.out)).trans HV1.out)
    obtain ⟨a2, c2, rfl⟩ := own_slice hown
    have hc2 : N ≤ c2 := by have h := own_fits hown; exact h _ _ _ rfl
    clear hown hb2
    obtain ⟨i0, hi0, hi1, hi2, hi3⟩ := info_parts infoSec
    have HI1 := Lib.hid hi0
    have HI2 := Lib.hid hi1
    have HI3 := Lib.hid hi2
    have HI4 : Hid (i0.bytes * n ≤ 281474976710656) := Lib.hid (by rw [hi3]; omega)
    clear hi0 hi1 hi2 hi3
    go_wp2_with (refine wpList_make_full _ rfl (.tmp 32) (.tmp 32) 99 rfl w2.heap.size 94 i0 _ 4 Tryd.underlying99 HI1.out HI2.out HI3.out .i64 .i64 (n : Int) (n : Int) n rfl rfl rfl rfl HI4.out (by unfold maxLen; omega) (Nat.le_refl _) ?_; intro W3 hown3 hgr3)
    obtain ⟨G, hG⟩ : ∃ G, G = w2.heap.size := ⟨_, rfl⟩
    rw [← hG]
    have ha3 : Arr W3 G 94 (rowC (fillR t p D a2 0)) := by
      have h := own_arr hown3
      have e : madeCells (Value.agg (secC (Sec.none, .slice none 0 0)).toArray).cells (n * 4) = madeCells (secC noneU).toArray (n * 4) := rfl
      rw [e, made_secs] at h
      rw [fillR_zero, ← HN.out, ← HP.out, hG]
      exact h
    have HA3 := Lib.hid ha3
    have HB23 : Hid (Below w2.heap.size w2 W3) := Lib.hid ((Only.grown hgr3).below (Nat.le_refl _) (fun k hk => by cases hk))
    have HB3 : Hid (Below w.heap.size w W3) := Lib.hid (HB2.out.trans (HB23.out.mono HB2.out.size))
    have HV3 : Hid (W3.heap[V9]? = some (.cells #[.int .u32 t, .int .u32 p] 92 (0, 0))) := Lib.hid ((HB23.out.block V9 (lt_of_block HV2.out)).trans HV2.out)
    have HO3 : Hid (W3.ownsRow W1.heap.size 5 1 (.slice a2 N c2) N (u8s D)) := Lib.hid (ownsRow_beyond HO2.out HB23.out)
    have HGV : Hid (V9 < G) := Lib.hid (by rw [hG]; exact lt_of_block HV2.out)
    have HGw : Hid (w.heap.size ≤ G) := Lib.hid (by rw [hG]; exact HB2.out.size)
    have HGO : Hid ((Value.slice a2 N c2).ownBlock ≠ some G) := Lib.hid (row_ne ha3 HO3.out (by decide))
    clear hown3 hgr3 ha3 hG e0 e1 e2 e3 e4 hf HI1 HI2 HI3 HI4
    go_loopw [36] (fun c wr => ∃ k : Nat, k ≤ n ∧ c = .int .i64 k ∧ Arr wr G 94 (rowC (fillR t p D a2 k)) ∧ Only (fun b => b = G) W3 wr) (fun c _ => n - (intOf c).toNat)
    case atStart => exact ⟨0, by omega, rfl, HA3.out, Only.refl _ _⟩
    case round =>
      obtain ⟨k, hk, rfl, har, hon⟩ := hrel
      have HAR := Lib.hid har
      have HON := Lib.hid hon
      clear har hon
      have HVr : Hid (wr.heap[V9]? = some (.cells #[.int .u32 t, .int .u32 p] 92 (0, 0))) := Lib.hid ((HON.out.block V9 (lt_of_block HV3.out) (by have := HGV.out; omega)).trans HV3.out)
      by_cases hlt : k < n
      · obtain ⟨lo, hlo⟩ : ∃ x, x = 47 * k := ⟨_, rfl⟩
        obtain ⟨hi, hhi⟩ : ∃ x, x = min (47 * k + 47) N := ⟨_, rfl⟩
        obtain ⟨L, hL⟩ : ∃ L, L = decide (k = n - 1) := ⟨_, rfl⟩
        have hlh : lo ≤ hi ∧ hi ≤ N := by
          have := HP.out; unfold pieces at this
          omega
        have e1 : IntKind.i64.wrap ((k : Int) * 47) = lo := by rw [IntKind.wrap_i64]; omega
        have e2 : IntKind.i64.wrap ((lo : Int) + 47) = lo + 47 := by rw [IntKind.wrap_i64]; omega
        have e3 : min ((lo : Int) + 47) (N : Int) = hi := by omega
        have e4 : (if (N : Int) < (lo : Int) + 47 then (N : Int) else lo + 47) = hi := by split <;> omega
        have e5 : IntKind.i64.wrap ((n : Int) - 1) = n - 1 := by rw [IntKind.wrap_i64]; omega
        have e6 : ((k : Int) == (n : Int) - 1) = L := by
          rw [hL]
          by_cases h : k = n - 1
          · rw [decide_eq_true h]; simp; omega
          · rw [decide_eq_false h]; simp; omega
        have HLO := Lib.hid hlo
        have HHI := Lib.hid hhi
        have HL := Lib.hid hL
        have HLH := Lib.hid hlh
        clear hlo hhi hL hlh
        go_wp2_with fail
        have hpk : p + k < 4294967296 := by have := HF.out; omega
        have HON4 := Lib.hid (on_any (t := t) hpk)
        clear hpk
        obtain ⟨U, hU⟩ : ∃ U, U = midS a2 hi lo hi := ⟨_, rfl⟩
        have HU := Lib.hid hU
        clear hU
        refine wp_region_held_drew (S := fun W => W.heap[V9]? = some (.cells #[.int .u32 t, .int .u32 p] 92 (0, 0)) ∧ Only (fun b => b = G) W3 W) (by kernel_rfl) ⟨HVr.out, HON.out.trans (Only.drew (fun _ => False) wr) (fun _ _ h => h.elim)⟩ (fun _ => ?_)
        refine anyH_take (i := 0) (some 46) (v := _) rfl rfl (by kernel_rfl) (by kernel_rfl) (by kernel_rfl) (fun _ _ _ h => h) (by rfl) (⟨HVr.out, HON.out.trans (Only.drew (fun _ => False) wr) (fun _ _ h => h.elim)⟩) (by intro w hSw; go_simp; try with_reducible rfl) ?_
        (try simp only [Act.put, List.setIfInBounds_toArray, List.set_cons_zero, List.set_cons_succ])
        refine anyH_take (i := 1) (some 47) (v := _) rfl rfl (by kernel_rfl) (by kernel_rfl) (by kernel_rfl) (fun _ _ _ h => h) (by rfl) (⟨HVr.out, HON.out.trans (Only.drew (fun _ => False) wr) (fun _ _ h => h.elim)⟩) (by intro w hSw; go_simp; try with_reducible rfl) ?_
        (try simp only [Act.put, List.setIfInBounds_toArray, List.set_cons_zero, List.set_cons_succ])
        refine anyH_take (i := 2) (some 48) (v := _) rfl rfl (by kernel_rfl) (by kernel_rfl) (by kernel_rfl) (fun _ _ _ h => h) (by rfl) (⟨HVr.out, HON.out.trans (Only.drew (fun _ => False) wr) (fun _ _ h => h.elim)⟩) (by intro w hSw; obtain ⟨q0, q1, _, _⟩ := cells2 hSw.1; go_simp; try with_reducible rfl) ?_
        (try simp only [Act.put, List.setIfInBounds_toArray, List.set_cons_zero, List.set_cons_succ])
        refine anyH_take (i := 3) (some 49) (v := _) rfl rfl (by kernel_rfl) (by kernel_rfl) (by kernel_rfl) (fun _ _ _ h => h) (by rfl) (⟨HVr.out, HON.out.trans (Only.drew (fun _ => False) wr) (fun _ _ h => h.elim)⟩) (by intro w hSw; go_simp; try with_reducible rfl) ?_
        (try simp only [Act.put, List.setIfInBounds_toArray, List.set_cons_zero, List.set_cons_succ])
        refine anyH_take (i := 5) (some 51) (v := _) rfl rfl (by kernel_rfl) (by kernel_rfl) (by kernel_rfl) (fun _ _ _ h => h) (by rfl) (⟨HVr.out, HON.out.trans (Only.drew (fun _ => False) wr) (fun _ _ h => h.elim)⟩) (by intro w hSw; go_simp; try with_reducible rfl) ?_
        (try simp only [Act.put, List.setIfInBounds_toArray, List.set_cons_zero, List.set_cons_succ])
        refine anyH_take (i := 6) (some 52) (v := _) rfl rfl (by kernel_rfl) (by kernel_rfl) (by kernel_rfl) (fun _ _ _ h => h) (by rfl) (⟨HVr.out, HON.out.trans (Only.drew (fun _ => False) wr) (fun _ _ h => h.elim)⟩) (by intro w hSw; go_simp; try with_reducible rfl) ?_
        (try simp only [Act.put, List.setIfInBounds_toArray, List.set_cons_zero, List.set_cons_succ])
        refine anyH_take (i := 7) (some 53) (v := _) rfl rfl (by kernel_rfl) (by kernel_rfl) (by kernel_rfl) (fun _ _ _ h => h) (by rfl) (⟨HVr.out, HON.out.trans (Only.drew (fun _ => False) wr) (fun _ _ h => h.elim)⟩) (by intro w hSw; go_simp; try with_reducible rfl) ?_
        (try simp only [Act.put, List.setIfInBounds_toArray, List.set_cons_zero, List.set_cons_succ])
        refine anyH_take (i := 8) (some 54) (v := _) rfl rfl (by kernel_rfl) (by kernel_rfl) (by kernel_rfl) (fun _ _ _ h => h) (by rfl) (⟨HVr.out, HON.out.trans (Only.drew (fun _ => False) wr) (fun _ _ h => h.elim)⟩) (by intro w hSw; go_simp; try with_reducible rfl) ?_
        (try simp only [Act.put, List.setIfInBounds_toArray, List.set_cons_zero, List.set_cons_succ])
        refine anyH_take (i := 9) (some 55) (v := _) rfl rfl (by kernel_rfl) (by kernel_rfl) (by kernel_rfl) (fun _ _ _ h => h) (by rfl) (⟨HVr.out, HON.out.trans (Only.drew (fun _ => False) wr) (fun _ _ h => h.elim)⟩) (by intro w hSw; go_simp; try with_reducible rfl) ?_
        (try simp only [Act.put, List.setIfInBounds_toArray, List.set_cons_zero, List.set_cons_succ])
        refine anyH_take (i := 10) (some 56) (v := _) rfl rfl (by kernel_rfl) (by kernel_rfl) (by kernel_rfl) (fun _ _ _ h => h) (by rfl) (⟨HVr.out, HON.out.trans (Only.drew (fun _ => False) wr) (fun _ _ h => h.elim)⟩) (by intro w hSw; go_simp; try with_reducible rfl) ?_
        (try simp only [Act.put, List.setIfInBounds_toArray, List.set_cons_zero, List.set_cons_succ])
        refine anyH_take (i := 11) (some 57) (v := _) rfl rfl (by kernel_rfl) (by kernel_rfl) (by kernel_rfl) (fun _ _ _ h => h) (by rfl) (⟨HVr.out, HON.out.trans (Only.drew (fun _ => False) wr) (fun _ _ h => h.elim)⟩) (by intro w hSw; go_simp; try with_reducible rfl) ?_
        (try simp only [Act.put, List.setIfInBounds_toArray, List.set_cons_zero, List.set_cons_succ])
        refine anyH_take (i := 12) (some 58) (v := _) rfl rfl (by kernel_rfl) (by kernel_rfl) (by kernel_rfl) (fun _ _ _ h => h) (by rfl) (⟨HVr.out, HON.out.trans (Only.drew (fun _ => False) wr) (fun _ _ h => h.elim)⟩) (by intro w hSw; go_simp; try with_reducible rfl) ?_
        (try simp only [Act.put, List.setIfInBounds_toArray, List.set_cons_zero, List.set_cons_succ])
        refine anyH_take (i := 13) (some 59) (v := U) rfl rfl (by kernel_rfl) (by kernel_rfl) (by kernel_rfl) (fun _ _ _ h => h) (by rfl) (⟨HVr.out, HON.out.trans (Only.drew (fun _ => False) wr) (fun _ _ h => h.elim)⟩) (fun W _ => by rw [HU.out]; exact run_mid3_op W 31 (.tmp 55) (.tmp 56) (.tmp 57) (.tmp 58) rfl 5 Tryd.underlying31 sizeU8 a2 N c2 lo hi hi rfl rfl rfl rfl HLH.out.1 (Nat.le_refl _) (by have := HLH.out.2; omega)) ?_
        (try simp only [Act.put, List.setIfInBounds_toArray, List.set_cons_zero, List.set_cons_succ])
        refine wpAnyH_ready (rs := [4]) (by kernel_rfl) (by simp) (AllReadyH.cons rfl (fun K hK => ?_) AllReadyH.nil)
        go_simp
        refine (HON4.out _).mono ?_
        rintro e w4 ⟨rfl, hb4⟩
        unfold stampV
        have hb4' : Only (fun b => b = G) wr w4 := only_beyond (below_undrew hb4)
        have HA4 : Hid (Arr w4 G 94 (rowC (fillR t p D a2 k))) := Lib.hid ((below_undrew hb4).block G HAR.out.lt |>.trans HAR.out)
        have HV4 : Hid (w4.heap[V9]? = some (.cells #[.int .u32 t, .int .u32 p] 92 (0, 0))) := Lib.hid (((below_undrew hb4).block V9 (lt_of_block HVr.out)).trans HVr.out)
        have HO4 : Hid (Only (fun b => b = G) W3 w4) := Lib.hid (HON.out.trans hb4' (fun _ _ h => h))
        clear hb4 hb4'
        go_wp2_with fail
        refine hK.out _ _ (⟨HV4.out, HO4.out⟩) (fun _ => ?_)
        clear hK K
        (try simp only [Act.put, List.setIfInBounds_toArray, List.set_cons_zero, List.set_cons_succ])
        refine anyH_take (i := 14) (some 60) (v := _) rfl rfl (by kernel_rfl) (by kernel_rfl) (by kernel_rfl) (fun _ _ _ h => h) (by rfl) (⟨HV4.out, HO4.out⟩) (fun W _ => run_built_op W 94 #[(0, .tmp 50), (1, .tmp 54), (2, .tmp 59)] rfl _ (by simp [Act.eval]) _ (built_sec t (p + k) L U (by rw [HU.out]; rfl))) ?_
        (try simp only [Act.put, List.setIfInBounds_toArray, List.set_cons_zero, List.set_cons_succ])
        refine anyH_take (i := 15) (some 61) (v := _) rfl rfl (by kernel_rfl) (by kernel_rfl) (by kernel_rfl) (fun _ _ _ h => h) (by rfl) (⟨HV4.out, HO4.out⟩) (by intro w hSw; go_simp; try with_reducible rfl) ?_
        (try simp only [Act.put, List.setIfInBounds_toArray, List.set_cons_zero, List.set_cons_succ])
        refine wpAnyH_ready (rs := [16]) (by kernel_rfl) (by simp) (AllReadyH.cons rfl (fun K hK => ?_) AllReadyH.nil)
        refine step_store_part rfl 94 (.tmp 61) (.tmp 60) rfl G (k * 4) (secC (⟨t, p + k, L, []⟩, U)) rfl rfl 94 (rowC (fillR t p D a2 k)) HA4.out (by kernel_rfl) (by rw [rowC_length, fillR_length, ← HN.out, ← HP.out]; show k * 4 + 4 ≤ _; omega) (secC_one _ (by show U.oneCell' = true; rw [HU.out]; rfl)) rfl ?_
        have hsr : Only (fun b => b = G) w4 (w4.setRow G (splice (rowC (fillR t p D a2 k)) (k * 4) (secC (⟨t, p + k, L, []⟩, U))).toArray) := only_stRow w4 _
        have HSR := Lib.hid hsr
        clear hsr
        refine hK.out _ _ (⟨(HSR.out.block V9 (lt_of_block HV4.out) (by have := HGV.out; omega)).trans HV4.out, HO4.out.trans HSR.out (fun _ _ h => h)⟩) (fun _ => ?_)
        clear hK K
        (try simp only [Act.put, List.setIfInBounds_toArray, List.set_cons_zero, List.set_cons_succ])
        refine wpAnyH_done (by kernel_rfl) ?_ _
        go_wp2
        go_roundw
        case rel => exact ⟨k + 1, by omega, by go_num, by rw [← fillR_set, ← rowC_set _ (by rw [fillR_length, ← HN.out, ← HP.out]; exact hlt)]; exact fill_next_row HA4.out (by unfold pieceU pieceS pieceV secC; simp only; rw [HL.out, HU.out, HHI.out, HLO.out, ← HN.out, ← HP.out]), HO4.out.trans HSR.out (fun _ _ h => h)⟩
        case measure => simp [intOf]; omega
      · obtain rfl : k = n := by omega
        go_wp2
        go_ret2
        exact splitted_ok HT.out (by rw [← HN.out, ← HP.out]; exact HF.out) (by rw [← HN.out]; exact HP.out) HN.out HGw.out HAR.out (row_only HO3.out HON.out (fun b hb e => HGO.out (e ▸ hb))) HB1.out.size (HB3.out.trans (HON.out.below HB3.out.size (fun b hb => hb ▸ HGw.out)))
  · rw [decide_eq_false hf]
    have hE : splitE t p D.length = 3 := by unfold splitE; rw [if_neg HT.out, ← HN.out, ← HP.out, if_neg hf]
    have HE := Lib.hid hE
    clear hE hf
    go_wp2
    go_ret2
    exact .inl ⟨by rw [HE.out]; decide, by rw [HE.out]; rfl, Below.refl _ _⟩
theorem split_any {w : World} {v : Value} {t p : Nat} {D : List Nat} (h : Lies w v D) (hp : p < 4294967296) (hbig : D.length ≤ 1000000000) :
    Calls Tryd.prog 53 #[.int .u32 (t : Int), .int .u32 (p : Int), v] w (Splitted w t p D) := by
  by_cases ht : t = 0
  · subst ht; exact split_turn
  · exact split_main h ht hp hbig
end Go.Proofs.YtcdgbmeechnpiaaDoor
/- Join, walked: of any sectors. -/
namespace Go.Proofs.YtcdgbmeechnpiaaDoor
open Go.RowKit

/-- sectors as they lie -/
def SecsAt (w : World) (v : Value) (r : List (Sec × Value)) : Prop :=
  ∃ a c, v = .slice a r.length c ∧ (r ≠ [] → ∃ b off, a = some ⟨b, off, none⟩ ∧ ∀ j u, (rowC r)[j]? = some u → w.cell? ⟨b, off + j, none⟩ = some u) ∧ ∀ x ∈ r, Lies w x.2 x.1.data
def okAt (s0 : Sec) (n i : Nat) (x : Sec) : Prop := x.turn = s0.turn ∧ x.place = s0.place + i ∧ x.last = decide (i = n - 1)
/-- are they a record's? -/
def JoinOk (l : List Sec) : Prop := ∃ s0, l[0]? = some s0 ∧ s0.place + (l.length - 1) ≤ 4294967295 ∧ ∀ i x, l[i]? = some x → okAt s0 l.length i x
def dataL (l : List Sec) : List Nat := l.flatMap (·.data)
def Joined (w : World) (l : List Sec) (e : Ending) (w' : World) : Prop :=
  (JoinOk l ∧ ∃ v, e = .returned (.tuple #[v, .int .i64 0]) ∧ w'.ownsRow w.heap.size 5 1 v (dataL l).length (u8s (dataL l)) ∧ Below w.heap.size w w') ∨
  (¬ JoinOk l ∧ ∃ z : Int, z ≠ 0 ∧ e = .returned (.tuple #[.slice none 0 0, .int .i64 z]) ∧ Below w.heap.size w w')

theorem join_none {w : World} {a : Option Addr} {c : Nat} : Calls Tryd.prog 69 #[.slice a 0 c] w (Joined w []) := by
  go_enter Tryd.func69, Tryd.ntmps69
  go_wp2
  go_ret2
  exact .inr ⟨fun ⟨s0, h, _⟩ => by simp at h, 4, by decide, rfl, Below.refl _ _⟩

theorem strow_cells {w : World} {b off : Nat} {r : List (Sec × Value)} (hc : ∀ j u, (rowC r)[j]? = some u → w.cell? ⟨b, off + j, none⟩ = some u) {i : Nat} {x : (Sec × Value)} (hi : r[i]? = some x) :
    w.cell? ⟨b, off + i * 4, none⟩ = some (.int .u32 (x.1.turn : Int)) ∧ w.cell? ⟨b, off + i * 4 + 1, none⟩ = some (.int .u32 (x.1.place : Int)) ∧ w.cell? ⟨b, off + i * 4 + 2, none⟩ = some (.bool x.1.last) ∧ w.cell? ⟨b, off + i * 4 + 3, none⟩ = some x.2 := by
  have h : ∀ j u, j < 4 → (secC x)[j]? = some u → w.cell? ⟨b, off + i * 4 + j, none⟩ = some u := fun j u hj hu => by
    have := hc (4 * i + j) u ((rowC_get hi j hj).trans hu)
    rwa [show off + (4 * i + j) = off + i * 4 + j by omega] at this
  exact ⟨h 0 _ (by omega) rfl, h 1 _ (by omega) rfl, h 2 _ (by omega) rfl, h 3 _ (by omega) rfl⟩
theorem dataL_append (a b : List Sec) : dataL (a ++ b) = dataL a ++ dataL b := by simp [dataL]
theorem dataL_take (r : List (Sec × Value)) (i : Nat) : (dataL ((r.take i).map Prod.fst)).length ≤ (dataL (r.map Prod.fst)).length := by
  conv => rhs; rw [← List.take_append_drop i r]
  rw [List.map_append, dataL_append, List.length_append]; omega
theorem dataL_next {r : List (Sec × Value)} {i : Nat} {x : (Sec × Value)} (h : r[i]? = some x) : dataL ((r.take (i + 1)).map Prod.fst) = dataL ((r.take i).map Prod.fst) ++ x.1.data := by
  rw [List.take_add_one, h, List.map_append, dataL_append]
  simp [dataL]
theorem okNext {r : List (Sec × Value)} {s0 : Sec} {n i : Nat} {x : (Sec × Value)} (h : ∀ j x, j < i → r[j]? = some x → okAt s0 n j x.1) (hx : r[i]? = some x) (hk : okAt s0 n i x.1) {j : Nat} {y : (Sec × Value)} (hj : j < i + 1) (hy : r[j]? = some y) : okAt s0 n j y.1 := by
  rcases Nat.lt_succ_iff_lt_or_eq.1 hj with h1 | rfl
  · exact h j y h1 hy
  · rw [hx] at hy; cases hy; exact hk
theorem okAt_of {t0 p0 tx px i n k : Nat} {Lx M L0 : Bool} {D0 Dx : List Nat} (h1 : (((tx : Int) == (t0 : Int)) && ((px : Int) == ((p0 + i : Nat) : Int))) = true) (h2 : (Lx == M) = true) (h3 : M = decide (i = k)) (h4 : k = n - 1) : okAt ⟨t0, p0, L0, D0⟩ n i ⟨tx, px, Lx, Dx⟩ := by
  simp only [Bool.and_eq_true, beq_iff_eq] at h1 h2
  refine ⟨by simp only; omega, by simp only; omega, ?_⟩
  simp only
  rw [h2, h3, h4]
theorem joinOk_last {l : List Sec} {s : Sec} (hs : l[l.length - 1]? = some s) (h : s.last = false) : ¬ JoinOk l := by
  rintro ⟨s0, h0, h1, h2⟩
  have := (h2 _ _ hs).2.2
  rw [h] at this
  simp at this

set_option maxHeartbeats 8000000 in
set_option maxRecDepth 1000000 in
theorem join_some {w : World} {b off c : Nat} {r : List (Sec × Value)} (hne : r ≠ []) (hc : ∀ j u, (rowC r)[j]? = some u → w.cell? ⟨b, off + j, none⟩ = some u) (hd : ∀ x ∈ r, Lies w x.2 x.1.data) (hp : ∀ x ∈ r, x.1.place < 4294967296) (hbig : (dataL (r.map Prod.fst)).length ≤ 1000000000) (hn : r.length ≤ 1000000000) :
    Calls Tryd.prog 69 #[.slice (some ⟨b, off, none⟩) r.length c] w (Joined w (r.map Prod.fst)) := by
  obtain ⟨n, hN⟩ : ∃ n, n = r.length := ⟨_, rfl⟩
  have hn1 : 1 ≤ n := by rw [hN]; exact List.length_pos_iff.2 hne
  obtain ⟨k, hk⟩ : ∃ k, k = n - 1 := ⟨_, rfl⟩
  obtain ⟨x0, hx0⟩ : ∃ x, r[0]? = some x := ⟨r[0]'(by omega), List.getElem?_eq_getElem _⟩
  obtain ⟨xl, hxl⟩ : ∃ x, r[k]? = some x := ⟨r[k]'(by omega), List.getElem?_eq_getElem _⟩
  have HC : Hid (∀ i x, r[i]? = some x → _) := Lib.hid fun i x (hi : r[i]? = some x) => strow_cells hc hi
  obtain ⟨q0, q1, _, _⟩ := HC.out 0 x0 hx0
  obtain ⟨_, _, ql2, _⟩ := HC.out k xl hxl
  have hp0 : x0.1.place < 4294967296 := hp _ (List.mem_of_getElem? hx0)
  have hl0 : (r.map Prod.fst)[0]? = some x0.1 := by rw [List.getElem?_map, hx0]; rfl
  have hll : (r.map Prod.fst)[(r.map Prod.fst).length - 1]? = some xl.1 := by rw [List.length_map, ← hN, ← hk, List.getElem?_map, hxl]; rfl
  obtain ⟨⟨t0, p0, L0, D0⟩, u0⟩ := x0
  obtain ⟨⟨tl, pl, Ll, Dl⟩, ul⟩ := xl
  simp only at q0 q1 ql2 hp0 hl0 hll
  rw [Nat.zero_mul, Nat.add_zero] at q0 q1
  have e1 : IntKind.i64.wrap ((n : Int) - 1) = (k : Int) := by rw [IntKind.wrap_i64]; omega
  have e0 : ((n : Int) == 0) = false := by simp; omega
  have hkn : k < n := by omega
  have HD := Lib.hid hd
  have HP := Lib.hid hp
  have HBIG := Lib.hid hbig
  have HL0 := Lib.hid hl0
  have HLL := Lib.hid hll
  have HN := Lib.hid hN
  have HK := Lib.hid hk
  have HP0 := Lib.hid hp0
  rw [← hN] at hn ⊢
  clear hc hd hp hbig hne hl0 hll hx0 hxl hN hk hp0
  cases Ll
  · go_enter Tryd.func69, Tryd.ntmps69
    go_wp2
    go_ret2
    exact .inr ⟨joinOk_last HLL.out rfl, 4, by decide, rfl, Below.refl _ _⟩
  · go_enter Tryd.func69, Tryd.ntmps69
    go_wp2_with fail
    refine (fits_any HP0.out hn1 (by omega) _).mono ?_
    rintro e w0 ⟨rfl, h0⟩
    subst h0
    by_cases hf : p0 + (n - 1) ≤ 4294967295
    · rw [decide_eq_true hf]
      have HF := Lib.hid hf
      clear hf ql2 q0 q1 e1 e0
      obtain ⟨i0, hi, hz0, hz1, hz2⟩ := info_parts infoU8
      have HI : Hid (Tryd.prog.info? 5 = some i0 ∧ i0.zero = some (.int .u8 0) ∧ i0.size = 1 ∧ i0.bytes = 1) := Lib.hid ⟨hi, hz0, hz1, hz2⟩
      clear hi hz0 hz1 hz2
      go_wp2_with fail
      obtain ⟨V4, hV4⟩ : ∃ V, V = w.heap.size := ⟨_, rfl⟩
      rw [← hV4]
      refine wp_name fun W1 hW1 => ?_
      have HV1 : Hid (W1.heap[V4]? = some (.cells #[.int .u32 (t0 : Int), .int .u32 (p0 : Int)] 92 (0, 0))) := Lib.hid (by rw [hW1, hV4]; exact heap_alloc_new _ _)
      have HB1 : Hid (Below w.heap.size w W1) := Lib.hid (by rw [hW1]; exact (Below.refl _ w).alloc (Nat.le_refl _) _)
      have HVg : Hid (w.heap.size ≤ V4) := Lib.hid (by omega)
      clear hW1 hV4
      go_loopw [5, 33] (fun vb c wr => ∃ i : Nat, i ≤ n ∧ c = .int .i64 i ∧ (∀ j x, j < i → r[j]? = some x → okAt ⟨t0, p0, L0, D0⟩ n j x.1) ∧ wr.ownsRow w.heap.size 5 1 vb (dataL ((r.take i).map Prod.fst)).length (u8s (dataL ((r.take i).map Prod.fst))) ∧ wr.heap[V4]? = some (.cells #[.int .u32 (t0 : Int), .int .u32 (p0 : Int)] 92 (0, 0)) ∧ Below w.heap.size w wr) (fun _ c _ => n - (intOf c).toNat)
      case atStart => exact ⟨0, by omega, rfl, fun j x hj _ => by omega, World.ownsRow_nil _ _ _ _, HV1.out, HB1.out⟩
      case round =>
        obtain ⟨i, hi, rfl, hok, hown, hv4, hb⟩ := hrel
        obtain ⟨LD, hLD⟩ : ∃ l, l = dataL ((r.take i).map Prod.fst) := ⟨_, rfl⟩
        rw [← hLD] at hown
        have hl9 : LD.length ≤ 1000000000 := by rw [hLD]; exact Nat.le_trans (dataL_take r i) HBIG.out
        have HLD := Lib.hid hLD
        clear hLD
        have HOK := Lib.hid hok
        have HOW := Lib.hid hown
        have HV4 := Lib.hid hv4
        have HB := Lib.hid hb
        obtain ⟨ab, cb, rfl⟩ := own_slice hown
        clear hok hown hv4 hb
        by_cases hlt : i < n
        · obtain ⟨x, hx⟩ : ∃ x, r[i]? = some x := ⟨r[i]'(by have := HN.out; omega), List.getElem?_eq_getElem _⟩
          obtain ⟨z0, z1, z2, z3⟩ := HC.out i x hx
          have hlx := HD.out x (List.mem_of_getElem? hx)
          have HX := Lib.hid hx
          clear hx
          obtain ⟨⟨tx, px, Lx, Dx⟩, ux⟩ := x
          simp only at z0 z1 z2 z3 hlx
          obtain ⟨ax, cx, rfl⟩ := lies_len hlx
          obtain ⟨nx, hnx⟩ : ∃ m, m = Dx.length := ⟨_, rfl⟩
          rw [← hnx] at z3 hlx
          have HLX := Lib.hid hlx
          have HNX := Lib.hid hnx
          have hbk : b < w.heap.size := by have := cell_lt z0; exact this
          have y0 : wr.cell? ⟨b, off + i * 4, none⟩ = some (.int .u32 (tx : Int)) := by rw [← z0]; exact HB.out.cell (p := ⟨b, off + i * 4, none⟩) hbk
          have y1 : wr.cell? ⟨b, off + i * 4 + 1, none⟩ = some (.int .u32 (px : Int)) := by rw [← z1]; exact HB.out.cell (p := ⟨b, off + i * 4 + 1, none⟩) hbk
          have y2 : wr.cell? ⟨b, off + i * 4 + 2, none⟩ = some (.bool Lx) := by rw [← z2]; exact HB.out.cell (p := ⟨b, off + i * 4 + 2, none⟩) hbk
          have y3 : wr.cell? ⟨b, off + i * 4 + 3, none⟩ = some (.slice ax nx cx) := by rw [← z3]; exact HB.out.cell (p := ⟨b, off + i * 4 + 3, none⟩) hbk
          have hpi : p0 + i < 4294967296 := by have := HF.out; omega
          have HON := Lib.hid (on_any (t := t0) hpi)
          have e1 : IntKind.i64.wrap ((n : Int) - 1) = (k : Int) := by have := HK.out; rw [IntKind.wrap_i64]; omega
          clear z0 z1 z2 z3 hlx hnx hbk hpi
          go_upto_region 10 with fail
          obtain ⟨V7, hV7⟩ : ∃ V, V = wr.heap.size := ⟨_, rfl⟩
          rw [← hV7]
          refine wp_name fun W5 hW5 => ?_
          have HV75 : Hid (W5.heap[V7]? = some (.cells #[.int .u32 (tx : Int), .int .u32 (px : Int), .bool Lx, .slice ax nx cx] 94 (0, 0))) := Lib.hid (by rw [hW5, hV7]; exact heap_alloc_new _ _)
          have HBr5 : Hid (Below wr.heap.size wr W5) := Lib.hid (by rw [hW5]; exact (Below.refl _ wr).alloc (Nat.le_refl _) _)
          have HV45 : Hid (W5.heap[V4]? = some (.cells #[.int .u32 (t0 : Int), .int .u32 (p0 : Int)] 92 (0, 0))) := Lib.hid ((HBr5.out.block V4 (lt_of_block HV4.out)).trans HV4.out)
          have HBw5 : Hid (Below w.heap.size w W5) := Lib.hid (HB.out.trans (HBr5.out.mono HB.out.size))
          have HV7g : Hid (V4 ≠ V7) := Lib.hid (by have := lt_of_block HV4.out; omega)
          clear hW5 hV7 y0 y1 y2 y3
          obtain ⟨B, hB⟩ : ∃ B : Bool, (((tx : Int) == (t0 : Int)) && ((px : Int) == ((p0 + i : Nat) : Int))) = B := ⟨_, rfl⟩
          have HBB := Lib.hid hB
          clear hB
          refine wp_region_held_drew (S := fun W => W.heap[V7]? = some (.cells #[.int .u32 (tx : Int), .int .u32 (px : Int), .bool Lx, .slice ax nx cx] 94 (0, 0)) ∧ W.heap[V4]? = some (.cells #[.int .u32 (t0 : Int), .int .u32 (p0 : Int)] 92 (0, 0)) ∧ Below W5.heap.size W5 W) (by kernel_rfl) ⟨HV75.out, HV45.out, below_drew (Below.refl _ _)⟩ (fun _ => ?_)
          refine anyH_take (i := 0) (some 38) (v := _) rfl rfl (by kernel_rfl) (by kernel_rfl) (by kernel_rfl) (fun _ _ _ h => h) (by rfl) (⟨HV75.out, HV45.out, below_drew (Below.refl _ _)⟩) (by intro w hSw; go_simp; try with_reducible rfl) ?_
          (try simp only [Act.put, List.setIfInBounds_toArray, List.set_cons_zero, List.set_cons_succ])
          refine anyH_take (i := 1) (some 39) (v := _) rfl rfl (by kernel_rfl) (by kernel_rfl) (by kernel_rfl) (fun _ _ _ h => h) (by rfl) (⟨HV75.out, HV45.out, below_drew (Below.refl _ _)⟩) (by intro w hSw; obtain ⟨⟨q0, q1, q2, q3⟩, _⟩ := cells4 hSw.1; go_simp; try with_reducible rfl) ?_
          (try simp only [Act.put, List.setIfInBounds_toArray, List.set_cons_zero, List.set_cons_succ])
          refine anyH_take (i := 2) (some 40) (v := _) rfl rfl (by kernel_rfl) (by kernel_rfl) (by kernel_rfl) (fun _ _ _ h => h) (by rfl) (⟨HV75.out, HV45.out, below_drew (Below.refl _ _)⟩) (by intro w hSw; obtain ⟨q0, q1, _, _⟩ := cells2 hSw.2.1; go_simp; try with_reducible rfl) ?_
          (try simp only [Act.put, List.setIfInBounds_toArray, List.set_cons_zero, List.set_cons_succ])
          refine anyH_take (i := 3) (some 41) (v := _) rfl rfl (by kernel_rfl) (by kernel_rfl) (by kernel_rfl) (fun _ _ _ h => h) (by rfl) (⟨HV75.out, HV45.out, below_drew (Below.refl _ _)⟩) (by intro w hSw; go_simp; try with_reducible rfl) ?_
          (try simp only [Act.put, List.setIfInBounds_toArray, List.set_cons_zero, List.set_cons_succ])
          refine wpAnyH_ready (rs := [4]) (by kernel_rfl) (by simp) (AllReadyH.cons rfl (fun K hK => ?_) AllReadyH.nil)
          go_simp
          refine (HON.out _).mono ?_
          rintro e w6 ⟨rfl, hb6⟩
          unfold stampV
          replace hb6 := below_undrew (w := W5) hb6
          have HV76 : Hid (w6.heap[V7]? = some (.cells #[.int .u32 (tx : Int), .int .u32 (px : Int), .bool Lx, .slice ax nx cx] 94 (0, 0))) := Lib.hid ((hb6.block V7 (lt_of_block HV75.out)).trans HV75.out)
          have HV46 : Hid (w6.heap[V4]? = some (.cells #[.int .u32 (t0 : Int), .int .u32 (p0 : Int)] 92 (0, 0))) := Lib.hid ((hb6.block V4 (lt_of_block HV45.out)).trans HV45.out)
          have HB6 := Lib.hid hb6
          clear hb6
          go_wp2_with fail
          refine hK.out _ _ ⟨HV76.out, HV46.out, HB6.out⟩ (fun _ => ?_)
          clear hK K
          (try simp only [Act.put, List.setIfInBounds_toArray, List.set_cons_zero, List.set_cons_succ])
          have HBw6 : Hid (Below w.heap.size w w6) := Lib.hid (HBw5.out.trans (HB6.out.mono HBw5.out.size))
          cases B
          · refine anyH_take (i := 5) (some 43) (v := _) rfl rfl (by kernel_rfl) (by kernel_rfl) (by kernel_rfl) (fun _ _ _ h => h) (by rfl) (⟨HV76.out, HV46.out, HB6.out⟩) (fun W _ => run_nes_op W (.tmp 39) (.tmp 42) rfl _ _ _ _ rfl rfl false HBB.out) ?_
            (try simp only [Act.put, List.setIfInBounds_toArray, List.set_cons_zero, List.set_cons_succ])
            refine anyH_take (i := 6) (some 44) (v := _) rfl rfl (by kernel_rfl) (by kernel_rfl) (by kernel_rfl) (fun _ _ _ h => h) (by rfl) (⟨HV76.out, HV46.out, HB6.out⟩) (by intro w hSw; go_simp; try with_reducible rfl) ?_
            (try simp only [Act.put, List.setIfInBounds_toArray, List.set_cons_zero, List.set_cons_succ])
            refine anyH_skip (i := 7) (some 45) rfl rfl (by kernel_rfl) (by kernel_rfl) (by kernel_rfl) (fun _ _ _ h => h) (by rfl) (⟨HV76.out, HV46.out, HB6.out⟩) ?_
            (try simp only [Act.put, List.setIfInBounds_toArray, List.set_cons_zero, List.set_cons_succ])
            refine anyH_skip (i := 8) (some 46) rfl rfl (by kernel_rfl) (by kernel_rfl) (by kernel_rfl) (fun _ _ _ h => h) (by rfl) (⟨HV76.out, HV46.out, HB6.out⟩) ?_
            (try simp only [Act.put, List.setIfInBounds_toArray, List.set_cons_zero, List.set_cons_succ])
            refine anyH_skip (i := 9) (some 47) rfl rfl (by kernel_rfl) (by kernel_rfl) (by kernel_rfl) (fun _ _ _ h => h) (by rfl) (⟨HV76.out, HV46.out, HB6.out⟩) ?_
            (try simp only [Act.put, List.setIfInBounds_toArray, List.set_cons_zero, List.set_cons_succ])
            refine anyH_skip (i := 10) (some 48) rfl rfl (by kernel_rfl) (by kernel_rfl) (by kernel_rfl) (fun _ _ _ h => h) (by rfl) (⟨HV76.out, HV46.out, HB6.out⟩) ?_
            (try simp only [Act.put, List.setIfInBounds_toArray, List.set_cons_zero, List.set_cons_succ])
            refine anyH_skip (i := 11) (some 49) rfl rfl (by kernel_rfl) (by kernel_rfl) (by kernel_rfl) (fun _ _ _ h => h) (by rfl) (⟨HV76.out, HV46.out, HB6.out⟩) ?_
            (try simp only [Act.put, List.setIfInBounds_toArray, List.set_cons_zero, List.set_cons_succ])
            refine anyH_skip (i := 12) (some 50) rfl rfl (by kernel_rfl) (by kernel_rfl) (by kernel_rfl) (fun _ _ _ h => h) (by rfl) (⟨HV76.out, HV46.out, HB6.out⟩) ?_
            (try simp only [Act.put, List.setIfInBounds_toArray, List.set_cons_zero, List.set_cons_succ])
            refine anyH_skip (i := 13) (some 51) rfl rfl (by kernel_rfl) (by kernel_rfl) (by kernel_rfl) (fun _ _ _ h => h) (by rfl) (⟨HV76.out, HV46.out, HB6.out⟩) ?_
            (try simp only [Act.put, List.setIfInBounds_toArray, List.set_cons_zero, List.set_cons_succ])
            refine anyH_skip (i := 14) (some 52) rfl rfl (by kernel_rfl) (by kernel_rfl) (by kernel_rfl) (fun _ _ _ h => h) (by rfl) (⟨HV76.out, HV46.out, HB6.out⟩) ?_
            (try simp only [Act.put, List.setIfInBounds_toArray, List.set_cons_zero, List.set_cons_succ])
            refine anyH_take (i := 15) (some 53) (v := _) rfl rfl (by kernel_rfl) (by kernel_rfl) (by kernel_rfl) (fun _ _ _ h => h) (by rfl) (⟨HV76.out, HV46.out, HB6.out⟩) (by intro w hSw; go_simp; try with_reducible rfl) ?_
            (try simp only [Act.put, List.setIfInBounds_toArray, List.set_cons_zero, List.set_cons_succ])
            refine wpAnyH_done (by kernel_rfl) ?_ _
            go_wp2
            go_ret2
            refine .inr ⟨fun ⟨s0, h0, _, h2⟩ => ?_, 17, by decide, rfl, HBw6.out⟩
            rw [HL0.out] at h0
            cases h0
            have h3 := h2 i ⟨tx, px, Lx, Dx⟩ (by rw [List.getElem?_map, HX.out]; rfl)
            rw [List.length_map, ← HN.out] at h3
            obtain ⟨g1, g2, g3⟩ := h3
            simp only at g1 g2 g3
            have h4 := HBB.out
            rw [g1, g2] at h4
            simp at h4
          · obtain ⟨M, hM⟩ : ∃ M : Bool, M = decide (i = k) := ⟨_, rfl⟩
            have e6 : ((i : Int) == (k : Int)) = M := by rw [hM]; by_cases h : i = k; rw [decide_eq_true h]; simp; omega; rw [decide_eq_false h]; simp; omega
            have HM := Lib.hid hM
            clear hM
            refine anyH_take (i := 5) (some 43) (v := _) rfl rfl (by kernel_rfl) (by kernel_rfl) (by kernel_rfl) (fun _ _ _ h => h) (by rfl) (⟨HV76.out, HV46.out, HB6.out⟩) (fun W _ => run_nes_op W (.tmp 39) (.tmp 42) rfl _ _ _ _ rfl rfl true HBB.out) ?_
            (try simp only [Act.put, List.setIfInBounds_toArray, List.set_cons_zero, List.set_cons_succ])
            refine anyH_take (i := 6) (some 44) (v := _) rfl rfl (by kernel_rfl) (by kernel_rfl) (by kernel_rfl) (fun _ _ _ h => h) (by rfl) (⟨HV76.out, HV46.out, HB6.out⟩) (by intro w hSw; go_simp; try with_reducible rfl) ?_
            (try simp only [Act.put, List.setIfInBounds_toArray, List.set_cons_zero, List.set_cons_succ])
            refine anyH_take (i := 7) (some 45) (v := _) rfl rfl (by kernel_rfl) (by kernel_rfl) (by kernel_rfl) (fun _ _ _ h => h) (by rfl) (⟨HV76.out, HV46.out, HB6.out⟩) (by intro w hSw; go_simp; try with_reducible rfl) ?_
            (try simp only [Act.put, List.setIfInBounds_toArray, List.set_cons_zero, List.set_cons_succ])
            refine anyH_take (i := 8) (some 46) (v := _) rfl rfl (by kernel_rfl) (by kernel_rfl) (by kernel_rfl) (fun _ _ _ h => h) (by rfl) (⟨HV76.out, HV46.out, HB6.out⟩) (by intro w hSw; obtain ⟨⟨q0, q1, q2, q3⟩, _⟩ := cells4 hSw.1; go_simp; try with_reducible rfl) ?_
            (try simp only [Act.put, List.setIfInBounds_toArray, List.set_cons_zero, List.set_cons_succ])
            refine anyH_take (i := 9) (some 47) (v := _) rfl rfl (by kernel_rfl) (by kernel_rfl) (by kernel_rfl) (fun _ _ _ h => h) (by rfl) (⟨HV76.out, HV46.out, HB6.out⟩) (by intro w hSw; go_simp; try with_reducible rfl) ?_
            (try simp only [Act.put, List.setIfInBounds_toArray, List.set_cons_zero, List.set_cons_succ])
            refine anyH_take (i := 10) (some 48) (v := _) rfl rfl (by kernel_rfl) (by kernel_rfl) (by kernel_rfl) (fun _ _ _ h => h) (by rfl) (⟨HV76.out, HV46.out, HB6.out⟩) (by intro w hSw; go_simp; try with_reducible rfl) ?_
            (try simp only [Act.put, List.setIfInBounds_toArray, List.set_cons_zero, List.set_cons_succ])
            refine anyH_take (i := 11) (some 49) (v := _) rfl rfl (by kernel_rfl) (by kernel_rfl) (by kernel_rfl) (fun _ _ _ h => h) (by rfl) (⟨HV76.out, HV46.out, HB6.out⟩) (by intro w hSw; go_simp; try with_reducible rfl) ?_
            (try simp only [Act.put, List.setIfInBounds_toArray, List.set_cons_zero, List.set_cons_succ])
            refine anyH_take (i := 12) (some 50) (v := _) rfl rfl (by kernel_rfl) (by kernel_rfl) (by kernel_rfl) (fun _ _ _ h => h) (by rfl) (⟨HV76.out, HV46.out, HB6.out⟩) (by intro w hSw; go_simp; try with_reducible rfl) ?_
            (try simp only [Act.put, List.setIfInBounds_toArray, List.set_cons_zero, List.set_cons_succ])
            refine anyH_take (i := 13) (some 51) (v := _) rfl rfl (by kernel_rfl) (by kernel_rfl) (by kernel_rfl) (fun _ _ _ h => h) (by rfl) (⟨HV76.out, HV46.out, HB6.out⟩) (by intro w hSw; go_simp; try with_reducible rfl) ?_
            (try simp only [Act.put, List.setIfInBounds_toArray, List.set_cons_zero, List.set_cons_succ])
            obtain ⟨E, hE⟩ : ∃ E : Bool, (Lx == M) = E := ⟨_, rfl⟩
            have HE := Lib.hid hE
            refine anyH_take (i := 14) (some 52) (v := _) rfl rfl (by kernel_rfl) (by kernel_rfl) (by kernel_rfl) (fun _ _ _ h => h) (by rfl) (⟨HV76.out, HV46.out, HB6.out⟩) (by intro w hSw; go_simp; try with_reducible rfl) ?_
            (try simp only [Act.put, List.setIfInBounds_toArray, List.set_cons_zero, List.set_cons_succ])
            clear hE
            cases E
            · refine anyH_take (i := 15) (some 53) (v := _) rfl rfl (by kernel_rfl) (by kernel_rfl) (by kernel_rfl) (fun _ _ _ h => h) (by rfl) (⟨HV76.out, HV46.out, HB6.out⟩) (by intro w hSw; go_simp; try with_reducible rfl) ?_
              (try simp only [Act.put, List.setIfInBounds_toArray, List.set_cons_zero, List.set_cons_succ])
              refine wpAnyH_done (by kernel_rfl) ?_ _
              go_wp2
              go_ret2
              refine .inr ⟨fun ⟨s0, h0, _, h2⟩ => ?_, 17, by decide, rfl, HBw6.out⟩
              rw [HL0.out] at h0
              cases h0
              have h3 := h2 i ⟨tx, px, Lx, Dx⟩ (by rw [List.getElem?_map, HX.out]; rfl)
              rw [List.length_map, ← HN.out] at h3
              obtain ⟨g1, g2, g3⟩ := h3
              simp only at g1 g2 g3
              have h4 := HE.out
              rw [g3, HM.out, HK.out] at h4
              simp at h4
            · refine anyH_take (i := 15) (some 53) (v := _) rfl rfl (by kernel_rfl) (by kernel_rfl) (by kernel_rfl) (fun _ _ _ h => h) (by rfl) (⟨HV76.out, HV46.out, HB6.out⟩) (by intro w hSw; go_simp; try with_reducible rfl) ?_
              (try simp only [Act.put, List.setIfInBounds_toArray, List.set_cons_zero, List.set_cons_succ])
              refine wpAnyH_done (by kernel_rfl) ?_ _
              obtain ⟨⟨_, _, _, j3⟩, _, _, _, _⟩ := cells4 HV76.out
              have hbr6 : Below wr.heap.size wr w6 := HBr5.out.trans (HB6.out.mono HBr5.out.size)
              have HO6 : Hid (w6.ownsRow w.heap.size 5 1 (.slice ab LD.length cb) LD.length (u8s LD)) := Lib.hid (ownsRow_beyond HOW.out hbr6)
              have HX6 : Hid (Lies w6 (.slice ax nx cx) Dx) := Lib.hid (lies_keep HLX.out HBw6.out)
              have hdx : LD.length + Dx.length ≤ 1000000000 := by have h := dataL_take r (i + 1); have h2 := HBIG.out; have h3 := dataL_next HX.out; rw [h3, ← HLD.out, List.length_append] at h; simp only at h; omega
              have HNE4 : Hid ((Value.slice ab LD.length cb).ownBlock ≠ some V4) := Lib.hid (row_ne HV46.out HO6.out (by decide))
              have hBw : w.heap.size ≤ w6.heap.size := HBw6.out.size
              clear hbr6
              go_wp2_with (at_builtin; refine wpList_append_bytes _ rfl _ _ 31 rfl w.heap.size 5 i0 Tryd.underlying31 HI.out.1 HI.out.2.1 HI.out.2.2.1 HI.out.2.2.2 (.slice ab LD.length cb) _ _ rfl HO6.out (.slice ax nx cx) Dx rfl HX6.out (by omega) hBw ?_; intro v8 w8 hown8 hgrow8 _; have HO8 := Lib.hid hown8; have HG8 := Lib.hid hgrow8; obtain ⟨a8, n8, rfl⟩ := own_slice hown8; clear hown8 hgrow8)
              go_roundw
              case rel => exact ⟨i + 1, by omega, by go_num, fun j y hj hy => okNext HOK.out HX.out (okAt_of HBB.out HE.out HM.out HK.out) hj hy, by rw [dataL_next HX.out, ← HLD.out, List.length_append, u8s_append]; exact HO8.out, (HG8.out.block V4 (lt_of_block HV46.out) (fun e => HNE4.out e.symm)).trans HV46.out, HBw6.out.trans ((Only.grown HG8.out).below HBw6.out.size (fun b hb => HO6.out.lt b hb |>.1))⟩
              case measure => simp [intOf]; omega
        · obtain rfl : i = n := by omega
          go_wp2
          go_ret2
          refine .inl ⟨⟨⟨t0, p0, L0, D0⟩, HL0.out, by rw [List.length_map, ← HN.out]; exact HF.out, fun j x hj => ?_⟩, _, rfl, ?_, HB.out⟩
          · rw [List.getElem?_map] at hj
            obtain ⟨y, hy, rfl⟩ := Option.map_eq_some_iff.1 hj
            rw [List.length_map, ← HN.out]
            exact HOK.out j y (by have := (List.getElem?_eq_some_iff.1 hy).1; have := HN.out; omega) hy
          · have e : LD = dataL (r.map Prod.fst) := by rw [HLD.out, List.take_of_length_le (by have := HN.out; omega)]
            rw [← e]
            exact HOW.out
    · rw [decide_eq_false hf]
      have HF := Lib.hid hf
      clear hf
      go_wp2
      go_ret2
      exact .inr ⟨fun ⟨s0, h0, h1, _⟩ => by rw [HL0.out] at h0; cases h0; rw [List.length_map, ← HN.out] at h1; exact HF.out h1, 17, by decide, rfl, (Below.refl _ w).alloc (Nat.le_refl _) _⟩

/-- Join of any sectors -/
theorem stjoin_any {w : World} {v : Value} {r : List (Sec × Value)} (h : SecsAt w v r) (hp : ∀ x ∈ r, x.1.place < 4294967296) (hbig : (dataL (r.map Prod.fst)).length ≤ 1000000000) (hn : r.length ≤ 1000000000) : Calls Tryd.prog 69 #[v] w (Joined w (r.map Prod.fst)) := by
  obtain ⟨a, c, rfl, hc, hd⟩ := h
  by_cases hne : r = []
  · subst hne; exact join_none
  · obtain ⟨b, off, rfl, hc2⟩ := hc hne
    exact join_some hne hc2 hd hp hbig hn
end Go.Proofs.YtcdgbmeechnpiaaDoor
/- A record's sectors are joined to it; changed ones are not. -/
namespace Go.Proofs.YtcdgbmeechnpiaaDoor
open Go.RowKit

theorem splitS_get {t p : Nat} {D : List Nat} {i : Nat} (h : i < pieces D.length) : (splitS t p D)[i]? = some (pieceS t p D i) := by
  unfold splitS
  rw [List.getElem?_map, List.getElem?_range h]; rfl
theorem joinOk_split {t p : Nat} {D : List Nat} (hf : p + (pieces D.length - 1) ≤ 4294967295) : JoinOk (splitS t p D) := by
  have h1 := pieces_pos D.length
  refine ⟨pieceS t p D 0, splitS_get h1, by rw [splitS_length]; exact hf, fun i x hx => ?_⟩
  have hi : i < pieces D.length := by have := (List.getElem?_eq_some_iff.1 hx).1; rwa [splitS_length] at this
  rw [splitS_get hi] at hx
  cases hx
  rw [splitS_length]
  exact ⟨rfl, rfl, rfl⟩
theorem flat_pieces (D : List Nat) (m : Nat) : ((List.range m).map fun i => (D.drop (47 * i)).take 47).flatten = D.take (47 * m) := by
  induction m with
  | zero => simp
  | succ m ih =>
    rw [List.range_succ, List.map_append, List.flatten_append, ih]
    simp only [List.map_cons, List.map_nil, List.flatten_cons, List.flatten_nil, List.append_nil]
    rw [show 47 * (m + 1) = 47 * m + 47 by omega, List.take_add]
theorem dataL_split (t p : Nat) (D : List Nat) : dataL (splitS t p D) = D := by
  have e : dataL (splitS t p D) = ((List.range (pieces D.length)).map fun i => (D.drop (47 * i)).take 47).flatten := by
    unfold dataL splitS
    rw [List.flatMap_def, List.map_map]
    rfl
  rw [e, flat_pieces, List.take_of_length_le (by unfold pieces; omega)]

theorem places_split {t p : Nat} {D : List Nat} (hf : p + (pieces D.length - 1) ≤ 4294967295) : ∀ s ∈ splitS t p D, s.place < 4294967296 := by
  intro s hs
  unfold splitS at hs
  obtain ⟨i, hi, rfl⟩ := List.mem_map.1 hs
  have := List.mem_range.1 hi
  unfold pieceS
  simp only
  omega
theorem sec_at {t p : Nat} {D : List Nat} {r : List (Sec × Value)} (h : r.map Prod.fst = splitS t p D) {i : Nat} (hi : i < pieces D.length) : ∃ u, r[i]? = some (pieceS t p D i, u) := by
  have h1 := splitS_get (t := t) (p := p) hi
  rw [← h, List.getElem?_map] at h1
  obtain ⟨x, hx, he⟩ := Option.map_eq_some_iff.1 h1
  exact ⟨x.2, by rw [hx, ← he]⟩
theorem data_split {t p : Nat} {D : List Nat} {s : Sec} (hs : s ∈ splitS t p D) : s.data.length ≤ 47 := by
  unfold splitS at hs
  obtain ⟨i, hi, rfl⟩ := List.mem_map.1 hs
  unfold pieceS
  simp only
  rw [List.length_take]; omega
theorem rowC_one {r : List (Sec × Value)} (h : ∀ x ∈ r, x.2.oneCell' = true) : ∀ u ∈ rowC r, u.oneCell' = true := by
  intro u hu
  unfold rowC at hu
  obtain ⟨x, hx, hu⟩ := List.mem_flatMap.1 hu
  exact secC_one x (h x hx) u hu
/-! ### Changed -/
variable {t p : Nat} {D : List Nat}
theorem not_drop {k : Nat} (hk : k < pieces D.length) (h0 : k = 0 → pieces D.length = 1) : ¬ JoinOk ((splitS t p D).take k ++ (splitS t p D).drop (k + 1)) := by
  rintro ⟨s0, h1, h2, h3⟩
  have hn := pieces_pos D.length
  have hlen : ((splitS t p D).take k ++ (splitS t p D).drop (k + 1)).length = pieces D.length - 1 := by
    rw [List.length_append, List.length_take, List.length_drop, splitS_length]; omega
  have hget : ∀ i, i < pieces D.length - 1 → ((splitS t p D).take k ++ (splitS t p D).drop (k + 1))[i]? = some (pieceS t p D (if i < k then i else i + 1)) := fun i hi => by
    by_cases h : i < k
    · rw [if_pos h, List.getElem?_append_left (by rw [List.length_take, splitS_length]; omega), List.getElem?_take_of_lt h, splitS_get (by omega)]
    · rw [if_neg h, List.getElem?_append_right (by rw [List.length_take, splitS_length]; omega), List.length_take, splitS_length, List.getElem?_drop, ← splitS_get (t := t) (p := p) (D := D) (i := i + 1) (by omega)]
      congr 1; omega
  by_cases h1n : pieces D.length = 1
  · have : ((splitS t p D).take k ++ (splitS t p D).drop (k + 1)) = [] := List.length_eq_zero_iff.1 (by rw [hlen]; omega)
    rw [this] at h1; simp at h1
  · have hk0 : 0 < k := by rcases Nat.eq_zero_or_pos k with h | h; exact absurd (h0 h) h1n; exact h
    rw [hget 0 (by omega), if_pos hk0] at h1
    cases h1
    rw [hlen] at h3
    by_cases hkl : k = pieces D.length - 1
    · have h4 := (h3 _ _ (hget (k - 1) (by omega))).2.2
      rw [if_pos (by omega)] at h4
      unfold pieceS at h4
      simp only [decide_eq_decide] at h4
      omega
    · have h4 := (h3 _ _ (hget k (by omega))).2.1
      rw [if_neg (by omega)] at h4
      unfold pieceS at h4
      simp only at h4
      omega
theorem not_swap {k : Nat} (hk : k < pieces D.length) (h0 : 0 < k) : ¬ JoinOk (((splitS t p D).set k (pieceS t p D (k - 1))).set (k - 1) (pieceS t p D k)) := by
  rintro ⟨s0, h1, h2, h3⟩
  have hget : ∀ i, i < pieces D.length → (((splitS t p D).set k (pieceS t p D (k - 1))).set (k - 1) (pieceS t p D k))[i]? = some (pieceS t p D (if i = k - 1 then k else if i = k then k - 1 else i)) := fun i hi => by
    by_cases e1 : i = k - 1
    · subst e1
      rw [if_pos rfl, List.getElem?_set_self (by rw [List.length_set, splitS_length]; omega)]
    · rw [if_neg e1, List.getElem?_set_ne (fun e => e1 e.symm)]
      by_cases e2 : i = k
      · subst e2
        rw [if_pos rfl, List.getElem?_set_self (by rw [splitS_length]; omega)]
      · rw [if_neg e2, List.getElem?_set_ne (fun e => e2 e.symm), splitS_get hi]
  rw [hget 0 (by omega)] at h1
  cases h1
  have h4 := (h3 _ _ (hget k hk)).2.1
  rw [if_neg (by omega : ¬ k = k - 1), if_pos rfl] at h4
  unfold pieceS at h4
  simp only at h4
  split at h4
  · omega
  · split at h4 <;> omega
theorem not_turn {k t' : Nat} {s : Sec} (hk : k < pieces D.length) (h0 : 0 < k) (ht : s.turn = t') (hne : t' ≠ t) : ¬ JoinOk ((splitS t p D).set k s) := by
  rintro ⟨s0, h1, h2, h3⟩
  rw [List.getElem?_set_ne (by omega), splitS_get (by omega)] at h1
  cases h1
  have h4 := (h3 k s (by rw [List.getElem?_set_self (by rw [splitS_length]; exact hk)])).1
  exact hne (ht.symm.trans h4)
theorem not_flip {s : Sec} (hs : s.last = !(pieceS t p D 0).last) : ¬ JoinOk ((splitS t p D).set 0 s) := by
  rintro ⟨s0, h1, h2, h3⟩
  have hn := pieces_pos D.length
  have h4 := (h3 0 s (by rw [List.getElem?_set_self (by rw [splitS_length]; exact hn)])).2.2
  rw [List.length_set, splitS_length, hs] at h4
  unfold pieceS at h4
  simp at h4
end Go.Proofs.YtcdgbmeechnpiaaDoor
/- Turn, walked. -/
namespace Go.Proofs.YtcdgbmeechnpiaaDoor
open Go.RowKit

set_option maxHeartbeats 2000000 in
theorem turn_any {w : World} {v : Value} {bs : List Nat} (h : Lies w v bs) (hb : ∀ x ∈ bs, x < 256) :
    Calls Tryd.prog 36 #[v] w fun e w' => e = .returned (.int .u32 ((stOf bs).turn : Int)) ∧ Below w.heap.size w w' := by
  have hun := unpack_any h hb
  unfold Unpacked at hun
  obtain ⟨S, hS⟩ : ∃ s, s = stOf bs := ⟨_, rfl⟩
  obtain ⟨E, hE⟩ : ∃ s, s = unpackE bs := ⟨_, rfl⟩
  rw [← hS, ← hE] at hun
  rw [← hS]
  obtain ⟨a, c, rfl⟩ := lies_len h
  obtain ⟨t, p, L, D⟩ := S
  have HUN := Lib.hid hun
  clear h hb hun hS hE
  go_enter Tryd.func36, Tryd.ntmps36
  go_wp2_with (go_at_call 49; refine HUN.out.mono ?_; rintro e w1 ⟨u, rfl, hlu, _, hb1⟩; obtain ⟨au, cu, rfl⟩ := lies_len hlu.lies; clear hlu; have HB1 := Lib.hid hb1; clear hb1; unfold secV)
  go_ret
  exact ⟨rfl, HB1.out.alloc HB1.out.size _⟩
end Go.Proofs.YtcdgbmeechnpiaaDoor
