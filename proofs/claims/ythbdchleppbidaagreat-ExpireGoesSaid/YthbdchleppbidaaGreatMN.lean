/- NmL, NmOrd, NmBy, NmRight: laid into one. -/
import Derived.Test.YthbdchleppbidaaGreatMZ
import Derived.Lib.Bytealg
/- Package name, in plain words: which rows of bytes are names, what is folded, where a text is cut. No function of the program. -/
namespace Go.Proofs.YthbdchleppbidaaGreat

def letN (x : Nat) : Bool := decide (97 ≤ x) && decide (x ≤ 122)
def fitN (x : Nat) : Bool := letN x || (decide (48 ≤ x) && decide (x ≤ 57)) || decide (x = 45)
def smallN (x : Nat) : Nat := if 65 ≤ x ∧ x ≤ 90 then x + 32 else x
/-- a name: 1 to 16 signs that may stand in one, a letter first -/
def rightN (l : List Nat) : Bool := decide (1 ≤ l.length) && decide (l.length ≤ 16) && letN (l.getD 0 0) && l.all fitN
/-- one more sign of what is folded -/
def putN (a : List Nat) (x : Nat) : List Nat := if a.length < 16 ∧ (letN (smallN x) = true ∨ a ≠ [] ∧ fitN (smallN x) = true) then a ++ [smallN x] else a
def foldN (l : List Nat) : List Nat := l.foldl putN []

theorem let_fit {x : Nat} (h : letN x = true) : fitN x = true := by simp [fitN, h]
theorem let_iff {x : Nat} : letN x = true ↔ 97 ≤ x ∧ x ≤ 122 := by simp [letN]
theorem fit_iff {x : Nat} : fitN x = true ↔ (97 ≤ x ∧ x ≤ 122) ∨ (48 ≤ x ∧ x ≤ 57) ∨ x = 45 := by simp [fitN, letN, or_assoc]
theorem small_fit {x : Nat} (h : fitN x = true) : smallN x = x := by
  rw [fit_iff] at h
  unfold smallN
  rw [if_neg (by omega)]
theorem small_lt {x : Nat} (h : x < 256) : smallN x < 256 := by unfold smallN; split <;> omega
theorem right_iff {l : List Nat} : rightN l = true ↔ (1 ≤ l.length ∧ l.length ≤ 16) ∧ letN (l.getD 0 0) = true ∧ ∀ x ∈ l, fitN x = true := by
  simp [rightN, and_assoc]
theorem put_step {a : List Nat} {x : Nat} (h : a.length < 16 ∧ (letN (smallN x) = true ∨ a ≠ [] ∧ fitN (smallN x) = true)) : putN a x = a ++ [smallN x] := if_pos h
theorem put_left {a : List Nat} {x : Nat} (h : ¬ (a.length < 16 ∧ (letN (smallN x) = true ∨ a ≠ [] ∧ fitN (smallN x) = true))) : putN a x = a := if_neg h
theorem put_full {a : List Nat} (h : 16 ≤ a.length) : ∀ l : List Nat, l.foldl putN a = a
  | [] => rfl
  | x :: l => by rw [List.foldl_cons, put_left (by omega), put_full h l]
/-- what is folded so far: nothing, or a name -/
def PartN (a : List Nat) : Prop := a.length ≤ 16 ∧ (a = [] ∨ letN (a.getD 0 0) = true) ∧ ∀ x ∈ a, fitN x = true
theorem PartN.nil : PartN [] := ⟨Nat.zero_le _, .inl rfl, fun _ h => by simp at h⟩
theorem PartN.put {a : List Nat} (h : PartN a) (x : Nat) : PartN (putN a x) := by
  by_cases hp : a.length < 16 ∧ (letN (smallN x) = true ∨ a ≠ [] ∧ fitN (smallN x) = true)
  · rw [put_step hp]
    obtain ⟨h1, h2, h3⟩ := h
    refine ⟨by rw [List.length_append]; exact hp.1, .inr ?_, fun y hy => ?_⟩
    · rcases h2 with rfl | h2
      · rcases hp.2 with h | ⟨h, _⟩
        · exact h
        · exact absurd rfl h
      · cases a with
        | nil => simp [letN] at h2
        | cons b r => simpa using h2
    · rcases List.mem_append.1 hy with h | h
      · exact h3 y h
      · rw [List.mem_singleton.1 h]
        rcases hp.2 with h | ⟨_, h⟩
        · exact let_fit h
        · exact h
  · rw [put_left hp]; exact h
theorem PartN.fold {a : List Nat} (h : PartN a) : ∀ l : List Nat, PartN (l.foldl putN a)
  | [] => h
  | x :: l => by rw [List.foldl_cons]; exact (h.put x).fold l
theorem PartN.right {a : List Nat} (h : PartN a) (h0 : a ≠ []) : rightN a = true :=
  right_iff.2 ⟨⟨Nat.pos_of_ne_zero fun e => h0 (List.length_eq_zero_iff.1 e), h.1⟩, h.2.1.resolve_left h0, h.2.2⟩
theorem fold_part (l : List Nat) : PartN (foldN l) := PartN.nil.fold l
theorem fold_len (l : List Nat) : (foldN l).length ≤ 16 := (fold_part l).1
theorem fold_right {l : List Nat} (h : foldN l ≠ []) : rightN (foldN l) = true := (fold_part l).right h
theorem fold_lt (l : List Nat) : ∀ x ∈ foldN l, x < 256 := fun x hx => by
  have := (fold_part l).2.2 x hx
  rw [fit_iff] at this; omega
theorem fold_on {a : List Nat} : ∀ l : List Nat, a ≠ [] → a.length + l.length ≤ 16 → (∀ x ∈ l, fitN x = true) → l.foldl putN a = a ++ l
  | [], _, _, _ => by simp
  | x :: l, h0, hn, hf => by
    have hx := hf x (by simp)
    rw [List.length_cons] at hn
    rw [List.foldl_cons, put_step ⟨by omega, .inr ⟨h0, by rw [small_fit hx]; exact hx⟩⟩, small_fit hx, fold_on l (by simp) (by simp; omega) (fun y hy => hf y (by simp [hy]))]
    simp
/-- a name is folded to itself -/
theorem fold_name {l : List Nat} (h : rightN l = true) : foldN l = l := by
  obtain ⟨⟨h1, h2⟩, h3, h4⟩ := right_iff.1 h
  cases l with
  | nil => simp at h1
  | cons x r =>
    have h3 : letN x = true := by simpa using h3
    have hx := let_fit h3
    unfold foldN
    rw [List.foldl_cons, put_step ⟨by simp, .inl (by rw [small_fit hx]; exact h3)⟩, small_fit hx, fold_on r (by simp) (by simpa [Nat.add_comm] using h2) (fun y hy => h4 y (by simp [hy]))]
    simp
theorem right_slash {l : List Nat} (h : rightN l = true) : 47 ∉ l := fun hm => by
  have := (right_iff.1 h).2.2 47 hm
  simp [fit_iff] at this
theorem right_lt {l : List Nat} (h : rightN l = true) : ∀ x ∈ l, x < 256 := fun x hx => by
  have := (right_iff.1 h).2.2 x hx
  rw [fit_iff] at this; omega
/-- two ways to be cut at the first sign are one -/
theorem cut_once {a b a' b' : List Nat} {c : Nat} (h : a ++ c :: b = a' ++ c :: b') (ha : c ∉ a) (ha' : c ∉ a') : a = a' ∧ b = b' := by
  induction a generalizing a' with
  | nil =>
    cases a' with
    | nil => exact ⟨rfl, by simpa using h⟩
    | cons x r => simp only [List.nil_append, List.cons_append, List.cons.injEq] at h; exact absurd (by rw [← h.1]; simp) ha'
  | cons y s ih =>
    cases a' with
    | nil => simp only [List.nil_append, List.cons_append, List.cons.injEq] at h; exact absurd (by rw [h.1]; simp) ha
    | cons x r =>
      simp only [List.cons_append, List.cons.injEq] at h
      obtain ⟨h1, h2⟩ := ih h.2 (fun hm => ha (by simp [hm])) (fun hm => ha' (by simp [hm]))
      exact ⟨by rw [h.1, h1], h2⟩
theorem first_of : ∀ {l : List Nat} {c : Nat}, c ∈ l → ∃ p q, l = p ++ c :: q ∧ c ∉ p
  | x :: l, c, h => by
    by_cases hx : x = c
    · exact ⟨[], l, by rw [hx]; rfl, by simp⟩
    · obtain ⟨p, q, h1, h2⟩ := first_of (l := l) ((List.mem_cons.1 h).resolve_left fun e => hx e.symm)
      exact ⟨x :: p, q, by rw [h1]; rfl, by simp only [List.mem_cons, not_or]; exact ⟨fun e => hx e.symm, h2⟩⟩
/-- where a text is cut: nowhere; or at the first / -/
def CutN (l : List Nat) (a b : List Nat) (ok : Bool) : Prop := (47 ∉ l ∧ a = l ∧ b = [] ∧ ok = false) ∨ (l = a ++ 47 :: b ∧ 47 ∉ a ∧ ok = true)
end Go.Proofs.YthbdchleppbidaaGreat
/- Texts and keys in order, in plain words. No function of the program. -/
namespace Go.Proofs.YthbdchleppbidaaGreat

theorem byte_three (x y : UInt8) : x < y ∨ x = y ∨ y < x := by
  rcases Nat.lt_trichotomy x.toNat y.toNat with h | h | h
  · exact .inl (UInt8.lt_iff_toNat_lt.2 h)
  · exact .inr (.inl (UInt8.toNat_inj.1 h))
  · exact .inr (.inr (UInt8.lt_iff_toNat_lt.2 h))
theorem cmp_three : ∀ a b : List UInt8, (Lib.compareBytes a b = -1 ∧ Lib.compareBytes b a = 1 ∧ Op.bytesLess a b = true ∧ a ≠ b) ∨ (Lib.compareBytes a b = 0 ∧ Lib.compareBytes b a = 0 ∧ Op.bytesLess a b = false ∧ a = b) ∨ (Lib.compareBytes a b = 1 ∧ Lib.compareBytes b a = -1 ∧ Op.bytesLess a b = false ∧ a ≠ b)
  | [], [] => .inr (.inl ⟨rfl, rfl, rfl, rfl⟩)
  | [], _ :: _ => .inl ⟨rfl, rfl, rfl, by simp⟩
  | _ :: _, [] => .inr (.inr ⟨rfl, rfl, rfl, by simp⟩)
  | x :: a, y :: b => by
    rcases byte_three x y with h | h | h
    · left
      have h2 : ¬ y < x := UInt8.lt_asymm h
      exact ⟨by simp [Lib.compareBytes, h], by simp [Lib.compareBytes, h, h2], by simp [Op.bytesLess, h], fun e => by cases e; exact UInt8.lt_irrefl _ h⟩
    · subst h
      have hi : ¬ x < x := UInt8.lt_irrefl _
      simpa [Lib.compareBytes, Op.bytesLess, hi] using cmp_three a b
    · right; right
      have h2 : ¬ x < y := UInt8.lt_asymm h
      exact ⟨by simp [Lib.compareBytes, h, h2], by simp [Lib.compareBytes, h], by simp [Op.bytesLess, h2]; intro e; subst e; exact absurd h (UInt8.lt_irrefl _), fun e => by cases e; exact UInt8.lt_irrefl _ h⟩
/-- what is not behind one that is not behind a third is not behind that; and if the ends are the same, all three are -/
theorem cmp_trans : ∀ a b c : List UInt8, Lib.compareBytes a b ≤ 0 → Lib.compareBytes b c ≤ 0 → Lib.compareBytes a c ≤ 0 ∧ (Lib.compareBytes a c = 0 → Lib.compareBytes a b = 0 ∧ Lib.compareBytes b c = 0)
  | [], [], [], _, _ => by decide
  | [], [], _ :: _, _, _ => by simp [Lib.compareBytes]
  | [], _ :: _, [], _, h => by simp [Lib.compareBytes] at h
  | [], _ :: _, _ :: _, _, _ => by simp [Lib.compareBytes]
  | _ :: _, [], _, h, _ => by simp [Lib.compareBytes] at h
  | _ :: _, _ :: _, [], _, h => by simp [Lib.compareBytes] at h
  | x :: a, y :: b, z :: c, h1, h2 => by
    have ih := cmp_trans a b c
    rcases byte_three x y with h | h | h
    · rcases byte_three y z with k | k | k
      · have hh := UInt8.lt_trans h k
        simp [Lib.compareBytes, hh]
      · subst k; simp [Lib.compareBytes, h]
      · have k2 : ¬ y < z := UInt8.lt_asymm k
        simp [Lib.compareBytes, k, k2] at h2
    · subst h
      have hi : ¬ x < x := UInt8.lt_irrefl _
      rcases byte_three x z with k | k | k
      · simp [Lib.compareBytes, k]
      · subst k
        simp only [Lib.compareBytes, hi, if_false] at h1 h2 ⊢
        exact ih h1 h2
      · have k2 : ¬ x < z := UInt8.lt_asymm k
        simp [Lib.compareBytes, k, k2] at h2
    · have k2 : ¬ x < y := UInt8.lt_asymm h
      simp [Lib.compareBytes, h, k2] at h1

/-- two texts held against each other -/
def cmpT (a b : ByteArray) : Int := Lib.compareBytes a.data.toList b.data.toList
theorem cmpT_three (a b : ByteArray) : (cmpT a b = -1 ∧ cmpT b a = 1 ∧ Op.bytesLess a.toList b.toList = true ∧ (a.toList == b.toList) = false ∧ a ≠ b) ∨ (cmpT a b = 0 ∧ cmpT b a = 0 ∧ Op.bytesLess a.toList b.toList = false ∧ (a.toList == b.toList) = true ∧ a = b) ∨ (cmpT a b = 1 ∧ cmpT b a = -1 ∧ Op.bytesLess a.toList b.toList = false ∧ (a.toList == b.toList) = false ∧ a ≠ b) := by
  have hne : a.data.toList ≠ b.data.toList → a ≠ b := fun h e => h (by rw [e])
  rw [text_beq, ByteArray.toList_eq, ByteArray.toList_eq]
  rcases cmp_three a.data.toList b.data.toList with ⟨h1, h2, h3, h4⟩ | ⟨h1, h2, h3, h4⟩ | ⟨h1, h2, h3, h4⟩
  · exact .inl ⟨h1, h2, h3, decide_eq_false (hne h4), hne h4⟩
  · have e : a = b := ByteArray.ext (Array.toList_inj.1 h4)
    exact .inr (.inl ⟨h1, h2, h3, decide_eq_true e, e⟩)
  · exact .inr (.inr ⟨h1, h2, h3, decide_eq_false (hne h4), hne h4⟩)
/-- two keys held against each other: by tenants, then by series -/
def cmpK (a0 a1 b0 b1 : ByteArray) : Int := if cmpT a0 b0 = 0 then cmpT a1 b1 else cmpT a0 b0
theorem cmpK_one (a0 a1 b0 b1 : ByteArray) : (cmpK a0 a1 b0 b1 = -1 ∨ cmpK a0 a1 b0 b1 = 0 ∨ cmpK a0 a1 b0 b1 = 1) ∧ cmpK b0 b1 a0 a1 = - cmpK a0 a1 b0 b1 := by
  unfold cmpK
  rcases cmpT_three a0 b0 with ⟨h1, h2, _⟩ | ⟨h1, h2, _⟩ | ⟨h1, h2, _⟩ <;> rcases cmpT_three a1 b1 with ⟨k1, k2, _⟩ | ⟨k1, k2, _⟩ | ⟨k1, k2, _⟩ <;> simp [h1, h2, k1, k2]
theorem cmpK_trans {a0 a1 b0 b1 c0 c1 : ByteArray} (h : cmpK a0 a1 b0 b1 ≤ 0) (k : cmpK b0 b1 c0 c1 ≤ 0) : cmpK a0 a1 c0 c1 ≤ 0 := by
  unfold cmpK at h k ⊢
  have h0 : cmpT a0 b0 ≤ 0 := by split at h <;> omega
  have k0 : cmpT b0 c0 ≤ 0 := by split at k <;> omega
  obtain ⟨h1, h2⟩ := cmp_trans _ _ _ h0 k0
  split
  · next e =>
    obtain ⟨e1, e2⟩ := h2 e
    rw [if_pos (show cmpT a0 b0 = 0 from e1)] at h
    rw [if_pos (show cmpT b0 c0 = 0 from e2)] at k
    exact (cmp_trans _ _ _ h k).1
  · exact h1
end Go.Proofs.YthbdchleppbidaaGreat
/- Package name: of one byte. -/
namespace Go.Proofs.YthbdchleppbidaaGreat
open Go.RowKit

set_option maxHeartbeats 2000000 in
theorem nmlet_any (w : World) {x : Nat} (_hx : x < 256) :
    Calls Tryz.prog 116 #[.int .u8 (x : Int)] w fun e w' => e = .returned (.bool (letN x)) ∧ w' = w := by
  by_cases h1 : 97 ≤ x
  · have t1 : decide ((97 : Int) ≤ (x : Int)) = true := by simp only [decide_eq_true_eq]; omega
    by_cases h2 : x ≤ 122
    · have t2 : decide ((x : Int) ≤ 122) = true := by simp only [decide_eq_true_eq]; omega
      rw [show letN x = true by simp [letN, h1, h2]]
      go_enter Tryz.func116, Tryz.ntmps116
      repeat (first | go_values | go_skip | go_guarded | go_step | go_upon)
      go_ret
      exact ⟨rfl, rfl⟩
    · have t2 : decide ((x : Int) ≤ 122) = false := by simp only [decide_eq_false_iff_not]; omega
      rw [show letN x = false by simp [letN]; omega]
      go_enter Tryz.func116, Tryz.ntmps116
      repeat (first | go_values | go_skip | go_guarded | go_step | go_upon)
      go_ret
      exact ⟨rfl, rfl⟩
  · have t1 : decide ((97 : Int) ≤ (x : Int)) = false := by simp only [decide_eq_false_iff_not]; omega
    rw [show letN x = false by simp [letN]; omega]
    go_enter Tryz.func116, Tryz.ntmps116
    repeat (first | go_values | go_skip | go_guarded | go_step | go_upon)
    go_ret
    exact ⟨rfl, rfl⟩
set_option maxHeartbeats 4000000 in
theorem nmfits_any (w : World) {x : Nat} (hx : x < 256) :
    Calls Tryz.prog 117 #[.int .u8 (x : Int)] w fun e w' => e = .returned (.bool (fitN x)) ∧ w' = w := by
  have HL := Lib.hid (nmlet_any w hx)
  have key : ∀ L : Bool, letN x = L → Calls Tryz.prog 117 #[.int .u8 (x : Int)] w fun e w' => e = .returned (.bool (fitN x)) ∧ w' = w := by
    intro L hL
    rw [hL] at HL
    cases L with
    | true =>
      rw [let_fit hL]
      clear hL
      go_enter Tryz.func117, Tryz.ntmps117
      repeat (first | go_values | go_skip | go_guarded | go_step | go_upon)
      refine HL.out.mono ?_
      rintro e w1 ⟨rfl, rfl⟩
      dsimp only
      repeat (first | go_values | go_skip | go_guarded | go_step | go_upon)
      go_ret
      exact ⟨rfl, rfl⟩
    | false =>
      have hF : fitN x = ((decide (48 ≤ x) && decide (x ≤ 57)) || decide (x = 45)) := by simp [fitN, hL]
      clear hL
      by_cases h0 : x = 45
      · have t0 : ((x : Int) == 45) = true := by simp; omega
        have t1 : decide ((48 : Int) ≤ (x : Int)) = false := by simp only [decide_eq_false_iff_not]; omega
        rw [show fitN x = true by rw [hF]; simp [h0]]
        clear hF h0
        go_enter Tryz.func117, Tryz.ntmps117
        repeat (first | go_values | go_skip | go_guarded | go_step | go_upon)
        refine HL.out.mono ?_
        rintro e w1 ⟨rfl, rfl⟩
        dsimp only
        repeat (first | go_values | go_skip | go_guarded | go_step | go_upon)
        go_ret
        exact ⟨rfl, rfl⟩
      · have t0 : ((x : Int) == 45) = false := by simp; omega
        by_cases h1 : 48 ≤ x
        · have t1 : decide ((48 : Int) ≤ (x : Int)) = true := by simp only [decide_eq_true_eq]; omega
          by_cases h2 : x ≤ 57
          · have t2 : decide ((x : Int) ≤ 57) = true := by simp only [decide_eq_true_eq]; omega
            rw [show fitN x = true by rw [hF]; simp [h1, h2]]
            clear hF
            go_enter Tryz.func117, Tryz.ntmps117
            repeat (first | go_values | go_skip | go_guarded | go_step | go_upon)
            refine HL.out.mono ?_
            rintro e w1 ⟨rfl, rfl⟩
            dsimp only
            repeat (first | go_values | go_skip | go_guarded | go_step | go_upon)
            go_ret
            exact ⟨rfl, rfl⟩
          · have t2 : decide ((x : Int) ≤ 57) = false := by simp only [decide_eq_false_iff_not]; omega
            rw [show fitN x = false by rw [hF]; simp; omega]
            clear hF
            go_enter Tryz.func117, Tryz.ntmps117
            repeat (first | go_values | go_skip | go_guarded | go_step | go_upon)
            refine HL.out.mono ?_
            rintro e w1 ⟨rfl, rfl⟩
            dsimp only
            repeat (first | go_values | go_skip | go_guarded | go_step | go_upon)
            go_ret
            exact ⟨rfl, rfl⟩
        · have t1 : decide ((48 : Int) ≤ (x : Int)) = false := by simp only [decide_eq_false_iff_not]; omega
          rw [show fitN x = false by rw [hF]; simp; omega]
          clear hF
          go_enter Tryz.func117, Tryz.ntmps117
          repeat (first | go_values | go_skip | go_guarded | go_step | go_upon)
          refine HL.out.mono ?_
          rintro e w1 ⟨rfl, rfl⟩
          dsimp only
          repeat (first | go_values | go_skip | go_guarded | go_step | go_upon)
          go_ret
          exact ⟨rfl, rfl⟩
  exact key _ rfl
end Go.Proofs.YthbdchleppbidaaGreat
/- Package name: is a text a name? And the document's own answer. -/
namespace Go.Proofs.YthbdchleppbidaaGreat
open Go.RowKit

theorem ords_at (s : ByteArray) (k : Nat) (h : k < s.size) : (ordsOf s).getD k 0 = (s[k]'h).toNat := by
  simp [List.getD, ords_get s k h]
theorem bytes_empty {s : ByteArray} (h : s.size = 0) : s = ⟨#[]⟩ := ByteArray.ext (Array.eq_empty_of_size_eq_zero h)
theorem text_ne {s t : ByteArray} (h : s ≠ t) : (s.toList == t.toList) = false := by rw [text_beq]; exact decide_eq_false h
theorem text_eq (s : ByteArray) : (s.toList == s.toList) = true := by rw [text_beq]; exact decide_eq_true rfl
theorem right_short {l : List Nat} (h : l.length = 0 ∨ 16 < l.length) : rightN l = false := by
  rw [Bool.eq_false_iff]; intro hr
  have := (right_iff.1 hr).1; omega
theorem right_first {l : List Nat} (h : letN (l.getD 0 0) = false) : rightN l = false := by
  rw [Bool.eq_false_iff]; intro hr
  rw [(right_iff.1 hr).2.1] at h; cases h
theorem right_in {l : List Nat} {k : Nat} (hk : k < l.length) (h : fitN (l.getD k 0) = false) : rightN l = false := by
  rw [Bool.eq_false_iff]; intro hr
  have e : l.getD k 0 = l[k] := by simp [List.getD, List.getElem?_eq_getElem hk]
  rw [e, (right_iff.1 hr).2.2 _ (List.getElem_mem hk)] at h; cases h
theorem right_all {l : List Nat} (h1 : 1 ≤ l.length) (h2 : l.length ≤ 16) (h3 : letN (l.getD 0 0) = true) (h4 : ∀ k, k < l.length → fitN (l.getD k 0) = true) : rightN l = true :=
  right_iff.2 ⟨⟨h1, h2⟩, h3, fun x hx => by
    obtain ⟨k, hk, rfl⟩ := List.mem_iff_getElem.1 hx
    have := h4 k hk
    rwa [show l.getD k 0 = l[k] by simp [List.getD, List.getElem?_eq_getElem hk]] at this⟩
set_option maxHeartbeats 4000000 in
theorem nmright_any (w : World) (s : ByteArray) (hs : s.size ≤ maxLen) :
    Calls Tryz.prog 91 #[.string s] w fun e w' => e = .returned (.bool (rightN (ordsOf s))) ∧ w' = w := by
  rcases Nat.eq_zero_or_pos s.size with h0 | h0
  · rw [right_short (.inl (by rw [ordsOf_length]; exact h0))]
    obtain rfl := bytes_empty h0
    go_enter Tryz.func91, Tryz.ntmps91
    repeat (first | go_values | go_skip | go_guarded | go_step | go_upon)
    go_ret
    exact ⟨rfl, rfl⟩
  · have te : (s.toList == ([] : List UInt8)) = false := by
      have := text_ne (s := s) (t := ⟨#[]⟩) (fun e => by rw [e] at h0; exact absurd h0 (by decide))
      simpa using this
    by_cases h16 : s.size ≤ 16
    · have t16 : decide ((16 : Int) < (s.size : Int)) = false := by simp only [decide_eq_false_iff_not]; omega
      obtain ⟨c, hc⟩ : ∃ c, c = (ordsOf s).getD 0 0 := ⟨_, rfl⟩
      have hc2 : ((s[0]'h0).toNat : Int) = (c : Int) := by rw [hc, ords_at s 0 h0]
      have hc256 : c < 256 := by rw [hc, ords_at s 0 h0]; exact (s[0]'h0).toNat_lt
      have HLE := Lib.hid (nmlet_any w hc256)
      cases hL : letN c with
      | false =>
        rw [hL] at HLE
        rw [right_first (by rw [← hc]; exact hL)]
        clear hL hc
        go_enter Tryz.func91, Tryz.ntmps91
        repeat (first | go_values | go_skip | go_guarded | go_step)
        refine HLE.out.mono ?_
        rintro e w1 ⟨rfl, rfl⟩
        dsimp only
        repeat (first | go_values | go_skip | go_guarded | go_step | go_upon)
        go_ret
        exact ⟨rfl, rfl⟩
      | true =>
        rw [hL] at HLE
        have HL := Lib.hid hL
        have HC := Lib.hid hc
        clear hL hc
        go_enter Tryz.func91, Tryz.ntmps91
        repeat (first | go_values | go_skip | go_guarded | go_step)
        refine HLE.out.mono ?_
        rintro e w1 ⟨rfl, rfl⟩
        clear HLE
        go_wp2_with fail
        go_loop [19] (fun vi => ∃ k : Nat, k ≤ s.size ∧ vi = .int .i64 (k : Int) ∧ Hid (∀ j, j < k → fitN ((ordsOf s).getD j 0) = true)) (fun vi => s.size - (intOf vi).toNat)
        case atStart => exact ⟨0, Nat.zero_le _, rfl, Lib.hid (fun j hj => by omega)⟩
        case round =>
          obtain ⟨k, hk, rfl, hh⟩ := hrel
          by_cases hk2 : k < s.size
          · have tk : decide ((k : Int) < (s.size : Int)) = true := by simp only [decide_eq_true_eq]; omega
            obtain ⟨d, hd⟩ : ∃ d, d = (ordsOf s).getD k 0 := ⟨_, rfl⟩
            have hd2 : ((s[k]'hk2).toNat : Int) = (d : Int) := by rw [hd, ords_at s k hk2]
            have hd256 : d < 256 := by rw [hd, ords_at s k hk2]; exact (s[k]'hk2).toNat_lt
            have HFI := Lib.hid (nmfits_any w1 hd256)
            have HD := Lib.hid hd
            cases hF : fitN d with
            | false =>
              rw [hF] at HFI
              have HR : Hid (rightN (ordsOf s) = false) := Lib.hid (right_in (by rw [ordsOf_length]; exact hk2) (by rw [← hd]; exact hF))
              clear hF hd
              go_wp2_with (go_at_call 117; refine HFI.out.mono ?_; rintro e w2 ⟨rfl, rfl⟩)
              go_ret
              exact ⟨by rw [HR.out]; rfl, rfl⟩
            | true =>
              rw [hF] at HFI
              have HN : Hid (∀ j, j < k + 1 → fitN ((ordsOf s).getD j 0) = true) := Lib.hid fun j hj => by
                by_cases e : j = k
                · rw [e, ← hd]; exact hF
                · exact hh.out j (by omega)
              clear hF hd
              go_wp2_with (go_at_call 117; refine HFI.out.mono ?_; rintro e w2 ⟨rfl, rfl⟩)
              exact ⟨⟨k + 1, by omega, rfl, HN⟩, by simp [intOf]; omega⟩
          · have tk : decide ((k : Int) < (s.size : Int)) = false := by simp only [decide_eq_false_iff_not]; omega
            have HR : Hid (rightN (ordsOf s) = true) := Lib.hid (right_all (by rw [ordsOf_length]; omega) (by rw [ordsOf_length]; omega) (by rw [← HC.out]; exact HL.out) (fun j hj => hh.out j (by rw [ordsOf_length] at hj; omega)))
            go_wp2
            go_ret
            exact ⟨by rw [HR.out]; rfl, rfl⟩
    · have t16 : decide ((16 : Int) < (s.size : Int)) = true := by simp only [decide_eq_true_eq]; omega
      rw [right_short (.inr (by rw [ordsOf_length]; omega))]
      go_enter Tryz.func91, Tryz.ntmps91
      repeat (first | go_values | go_skip | go_guarded | go_step | go_upon)
      go_ret
      exact ⟨rfl, rfl⟩
end Go.Proofs.YthbdchleppbidaaGreat
