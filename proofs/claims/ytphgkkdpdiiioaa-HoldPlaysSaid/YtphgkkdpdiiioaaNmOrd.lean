/- Texts and keys in order, in plain words. No function of the program. -/
import Derived.Test.YtphgkkdpdiiioaaNmL
import Derived.Lib.Bytealg
namespace Go.Proofs.Ytphgkkdpdiiioaa

theorem byte_three (x y : UInt8) : x < y ∨ x = y ∨ y < x := by
  rcases Nat.lt_trichotomy x.toNat y.toNat with h | h | h
  · exact .inl (UInt8.lt_iff_toNat_lt.2 h)
  · exact .inr (.inl (UInt8.toNat_inj.1 h))
  · exact .inr (.inr (UInt8.lt_iff_toNat_lt.2 h))
theorem cmp_three : ∀ a b : List UInt8, (Lib.compareBytes a b = -1 ∧ Lib.compareBytes b a = 1 ∧ Op.bytesLess a b = true ∧ a ≠ b) ∨ (Lib.compareBytes a b = 0 ∧ Lib.compareBytes b a = 0 ∧ Op.bytesLess a b = false ∧ a = b) ∨ (Lib.compareBytes a b = 1 ∧ Lib.compareBytes b a = -1 ∧ Op.bytesLess a b = false ∧ a ≠ b)
  | [], [] => .inr (.inl ⟨rfl, rfl, rfl, rfl⟩)
  | [], _ :: _ => .inl ⟨rfl, rfl, rfl, by simp⟩
  | _ :: _, [] => .inr (.inr ⟨rfl, rfl, rfl, by simp⟩)
  | x :: a, y :: b => by
    rcases byte_three x y with h | h | h
    · left
      have h2 : ¬ y < x := UInt8.lt_asymm h
      exact ⟨by simp [Lib.compareBytes, h], by simp [Lib.compareBytes, h, h2], by simp [Op.bytesLess, h], fun e => by cases e; exact UInt8.lt_irrefl _ h⟩
    · subst h
      have hi : ¬ x < x := UInt8.lt_irrefl _
      simpa [Lib.compareBytes, Op.bytesLess, hi] using cmp_three a b
    · right; right
      have h2 : ¬ x < y := UInt8.lt_asymm h
      exact ⟨by simp [Lib.compareBytes, h, h2], by simp [Lib.compareBytes, h], by simp [Op.bytesLess, h2]; intro e; subst e; exact absurd h (UInt8.lt_irrefl _), fun e => by cases e; exact UInt8.lt_irrefl _ h⟩
/-- what is not behind one that is not behind a third is not behind that; and if the ends are the same, all three are -/
theorem cmp_trans : ∀ a b c : List UInt8, Lib.compareBytes a b ≤ 0 → Lib.compareBytes b c ≤ 0 → Lib.compareBytes a c ≤ 0 ∧ (Lib.compareBytes a c = 0 → Lib.compareBytes a b = 0 ∧ Lib.compareBytes b c = 0)
  | [], [], [], _, _ => by decide
  | [], [], _ :: _, _, _ => by simp [Lib.compareBytes]
  | [], _ :: _, [], _, h => by simp [Lib.compareBytes] at h
  | [], _ :: _, _ :: _, _, _ => by simp [Lib.compareBytes]
  | _ :: _, [], _, h, _ => by simp [Lib.compareBytes] at h
  | _ :: _, _ :: _, [], _, h => by simp [Lib.compareBytes] at h
  | x :: a, y :: b, z :: c, h1, h2 => by
    have ih := cmp_trans a b c
    rcases byte_three x y with h | h | h
    · rcases byte_three y z with k | k | k
      · have hh := UInt8.lt_trans h k
        simp [Lib.compareBytes, hh]
      · subst k; simp [Lib.compareBytes, h]
      · have k2 : ¬ y < z := UInt8.lt_asymm k
        simp [Lib.compareBytes, k, k2] at h2
    · subst h
      have hi : ¬ x < x := UInt8.lt_irrefl _
      rcases byte_three x z with k | k | k
      · simp [Lib.compareBytes, k]
      · subst k
        simp only [Lib.compareBytes, hi, if_false] at h1 h2 ⊢
        exact ih h1 h2
      · have k2 : ¬ x < z := UInt8.lt_asymm k
        simp [Lib.compareBytes, k, k2] at h2
    · have k2 : ¬ x < y := UInt8.lt_asymm h
      simp [Lib.compareBytes, h, k2] at h1

/-- two texts held against each other -/
def cmpT (a b : ByteArray) : Int := Lib.compareBytes a.data.toList b.data.toList
theorem cmpT_three (a b : ByteArray) : (cmpT a b = -1 ∧ cmpT b a = 1 ∧ Op.bytesLess a.toList b.toList = true ∧ (a.toList == b.toList) = false ∧ a ≠ b) ∨ (cmpT a b = 0 ∧ cmpT b a = 0 ∧ Op.bytesLess a.toList b.toList = false ∧ (a.toList == b.toList) = true ∧ a = b) ∨ (cmpT a b = 1 ∧ cmpT b a = -1 ∧ Op.bytesLess a.toList b.toList = false ∧ (a.toList == b.toList) = false ∧ a ≠ b) := by
  have hne : a.data.toList ≠ b.data.toList → a ≠ b := fun h e => h (by rw [e])
  rw [text_beq, ByteArray.toList_eq, ByteArray.toList_eq]
  rcases cmp_three a.data.toList b.data.toList with ⟨h1, h2, h3, h4⟩ | ⟨h1, h2, h3, h4⟩ | ⟨h1, h2, h3, h4⟩
  · exact .inl ⟨h1, h2, h3, decide_eq_false (hne h4), hne h4⟩
  · have e : a = b := ByteArray.ext (Array.toList_inj.1 h4)
    exact .inr (.inl ⟨h1, h2, h3, decide_eq_true e, e⟩)
  · exact .inr (.inr ⟨h1, h2, h3, decide_eq_false (hne h4), hne h4⟩)
/-- two keys held against each other: by tenants, then by series -/
def cmpK (a0 a1 b0 b1 : ByteArray) : Int := if cmpT a0 b0 = 0 then cmpT a1 b1 else cmpT a0 b0
theorem cmpK_one (a0 a1 b0 b1 : ByteArray) : (cmpK a0 a1 b0 b1 = -1 ∨ cmpK a0 a1 b0 b1 = 0 ∨ cmpK a0 a1 b0 b1 = 1) ∧ cmpK b0 b1 a0 a1 = - cmpK a0 a1 b0 b1 := by
  unfold cmpK
  rcases cmpT_three a0 b0 with ⟨h1, h2, _⟩ | ⟨h1, h2, _⟩ | ⟨h1, h2, _⟩ <;> rcases cmpT_three a1 b1 with ⟨k1, k2, _⟩ | ⟨k1, k2, _⟩ | ⟨k1, k2, _⟩ <;> simp [h1, h2, k1, k2]
theorem cmpK_trans {a0 a1 b0 b1 c0 c1 : ByteArray} (h : cmpK a0 a1 b0 b1 ≤ 0) (k : cmpK b0 b1 c0 c1 ≤ 0) : cmpK a0 a1 c0 c1 ≤ 0 := by
  unfold cmpK at h k ⊢
  have h0 : cmpT a0 b0 ≤ 0 := by split at h <;> omega
  have k0 : cmpT b0 c0 ≤ 0 := by split at k <;> omega
  obtain ⟨h1, h2⟩ := cmp_trans _ _ _ h0 k0
  split
  · next e =>
    obtain ⟨e1, e2⟩ := h2 e
    rw [if_pos (show cmpT a0 b0 = 0 from e1)] at h
    rw [if_pos (show cmpT b0 c0 = 0 from e2)] at k
    exact (cmp_trans _ _ _ h k).1
  · exact h1
end Go.Proofs.Ytphgkkdpdiiioaa
