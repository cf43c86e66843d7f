/- The order of numbers' bytes; a writer's bytes in whatever world behind it. -/
import Derived.Test.YtcomdobmkmbmeaaDoorOctLives
namespace Go.Proofs.YtcomdobmkmbmeaaDoor
open Go.RowKit

theorem split_mod (A n : Nat) : A % 256 ^ (n + 1) = A / 256 ^ n % 256 * 256 ^ n + A % 256 ^ n := by
  rw [Nat.pow_succ, Nat.mod_mul, Nat.add_comm, Nat.mul_comm]
theorem less_numB (A B n : Nat) : Op.bytesLess ((numB A n).map UInt8.ofNat) ((numB B n).map UInt8.ofNat) = decide (A % 256 ^ n < B % 256 ^ n) := by
  induction n with
  | zero => simp [numB, Op.bytesLess, Nat.mod_one]
  | succ n ih =>
    simp only [numB, List.map_cons, Op.bytesLess, ih]
    rw [split_mod A n, split_mod B n]
    have ha : A / 256 ^ n % 256 < 256 := Nat.mod_lt _ (by omega)
    have hb : B / 256 ^ n % 256 < 256 := Nat.mod_lt _ (by omega)
    have hc := Nat.mod_lt A (Nat.two_pow_pos 8 |> fun _ => Nat.pow_pos (n := n) (show 0 < 256 by omega))
    have hd := Nat.mod_lt B (Nat.pow_pos (n := n) (show 0 < 256 by omega))
    generalize A / 256 ^ n % 256 = a at *
    generalize B / 256 ^ n % 256 = b at *
    generalize A % 256 ^ n = c at *
    generalize B % 256 ^ n = d at *
    generalize 256 ^ n = p at *
    have e1 : (UInt8.ofNat a < UInt8.ofNat b) = (a < b) := by
      rw [UInt8.lt_iff_toNat_lt, UInt8.toNat_ofNat', UInt8.toNat_ofNat']
      rw [Nat.mod_eq_of_lt (show a < 2 ^ 8 by omega), Nat.mod_eq_of_lt (show b < 2 ^ 8 by omega)]
    have e2 : (UInt8.ofNat a == UInt8.ofNat b) = decide (a = b) := by
      rw [Bool.eq_iff_iff]
      simp only [beq_iff_eq, decide_eq_true_eq]
      constructor
      · intro h
        have h2 := congrArg UInt8.toNat h
        rw [UInt8.toNat_ofNat', UInt8.toNat_ofNat', Nat.mod_eq_of_lt (show a < 2 ^ 8 by omega), Nat.mod_eq_of_lt (show b < 2 ^ 8 by omega)] at h2
        exact h2
      · rintro rfl; rfl
    rw [e2]
    simp only [e1]
    rcases Nat.lt_trichotomy a b with h | h | h
    · have h2 : (a + 1) * p ≤ b * p := Nat.mul_le_mul_right _ h
      rw [Nat.add_mul] at h2
      simp [h]; omega
    · subst h; simp
    · have h2 : (b + 1) * p ≤ a * p := Nat.mul_le_mul_right _ h
      rw [Nat.add_mul] at h2
      have h3 : ¬ a < b := by omega
      have h4 : ¬ a = b := by omega
      simp [h3, h4]; omega
theorem strOf_toList (l : List Nat) : (strOf l).toList = l.map UInt8.ofNat := by rw [ByteArray.toList_eq]; simp [strOf]
/-- the order of the bytes is that of the numbers -/
theorem less_nums {A B n : Nat} (ha : A < 256 ^ n) (hb : B < 256 ^ n) : Op.bytesLess (strOf (numB A n)).toList (strOf (numB B n)).toList = decide (A < B) := by
  rw [strOf_toList, strOf_toList, less_numB, Nat.mod_eq_of_lt ha, Nat.mod_eq_of_lt hb]

/-- Bytes of a writer that lies in w0, in whatever world behind it: the bytes lie there from then on -/
def OGives (w0 : World) (P : Nat) (bs : List Nat) : Prop :=
  ∀ W, Below w0.heap.size w0 W → Calls Tryd.prog 12 #[.pointer (some ⟨P, 0, none⟩)] W fun e w' => ∃ a c, e = .returned (.slice a bs.length c) ∧ Below w0.heap.size w0 w' ∧ Below W.heap.size W w' ∧
    ∀ W', Below w'.heap.size w' W' → ∀ dst, Tryd.prog.underlying dst = some .string → (convert 25 dst (.slice a bs.length c)).run Tryd.prog W' = .ok (.string (strOf bs)) W'
theorem ogives_of {B : Nat} {w0 : World} {P : Nat} {g : Option Nat} {l : List Nat} (h : OWriterAt B w0 P g l) (hbig : l.length ≤ 1000000000) : OGives w0 P l := fun _ hW =>
  (obytes P ((OWrote.start h).beyond hW) hbig).mono fun _ _ ⟨v', he, hown, hb⟩ => by
    obtain ⟨a, c, rfl⟩ := own_slice hown
    exact ⟨a, c, he, hW.trans (hb.mono hW.size), hb, fun _ hW' => text_of (ownsRow_lies (ownsRow_beyond hown hW'))⟩
end Go.Proofs.YtcomdobmkmbmeaaDoor
