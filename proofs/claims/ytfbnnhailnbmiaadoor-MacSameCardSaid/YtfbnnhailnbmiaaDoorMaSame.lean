/- Package mac: are two rows of bytes the same, all looked at. -/
import Derived.Test.YtfbnnhailnbmiaaDoorMaAt
import Derived.Lib.MinMax
namespace Go.Proofs.YtfbnnhailnbmiaaDoor
open Go.RowKit

theorem i64_or_nat (a b : Nat) (ha : a < 4611686018427387904) (hb : b < 4611686018427387904) : bits .or .i64 (a : Int) (b : Int) = ((a ||| b : Nat) : Int) := by
  have hx : a ||| b < 2 ^ 62 := Nat.or_lt_two_pow (by omega) (by omega)
  show IntKind.i64.wrap ((BitVec.ofInt 64 (a : Int) ||| BitVec.ofInt 64 (b : Int)).toNat : Int) = _
  rw [BitVec.toNat_or, ofInt_u64 a (by omega), ofInt_u64 b (by omega), IntKind.wrap_i64]
  omega
theorem i64_xor_nat (a b : Nat) (ha : a < 4611686018427387904) (hb : b < 4611686018427387904) : bits .xor .i64 (a : Int) (b : Int) = ((a ^^^ b : Nat) : Int) := by
  have hx : a ^^^ b < 2 ^ 62 := Nat.xor_lt_two_pow (by omega) (by omega)
  show IntKind.i64.wrap ((BitVec.ofInt 64 (a : Int) ^^^ BitVec.ofInt 64 (b : Int)).toNat : Int) = _
  rw [BitVec.toNat_xor, ofInt_u64 a (by omega), ofInt_u64 b (by omega), IntKind.wrap_i64]
  omega
theorem xor_none {a b : Nat} : a ^^^ b = 0 ↔ a = b := by
  refine ⟨fun h => ?_, fun h => by rw [h, Nat.xor_self]⟩
  have : a ^^^ b ^^^ b = b := by rw [h, Nat.zero_xor]
  rw [Nat.xor_assoc, Nat.xor_self, Nat.xor_zero] at this; exact this
theorem or_none {a b : Nat} : a ||| b = 0 ↔ a = 0 ∧ b = 0 := Nat.or_eq_zero_iff

set_option maxHeartbeats 4000000 in
theorem same_any {w : World} {v u : Value} {xs ys : List Nat} (hv : Lies w v xs) (hu : Lies w u ys) (ha : ∀ x ∈ xs, x < 256) (hb : ∀ x ∈ ys, x < 256) (hn : xs.length < 1000000000) (hm : ys.length < 1000000000) :
    Calls Tryd.prog 12 #[v, u] w fun e w' => e = .returned (.bool (decide (xs = ys))) ∧ w' = w := by
  have HA := Lib.hid hv
  have HU := Lib.hid hu
  obtain ⟨a, c, rfl, _⟩ := lies_form hv
  obtain ⟨a', c', rfl, _⟩ := lies_form hu
  obtain ⟨n, hnn⟩ : ∃ n, n = xs.length := ⟨_, rfl⟩
  obtain ⟨m, hmm⟩ : ∃ m, m = ys.length := ⟨_, rfl⟩
  obtain ⟨M, hM⟩ : ∃ M, M = max n m := ⟨_, rfl⟩
  have HAT : Hid (∀ i : Nat, Calls Tryd.prog 19 #[.slice a n c, .int .i64 (i : Int)] w fun e w' => e = .returned (.int .u8 ((xs.getD i 0 : Nat) : Int)) ∧ w' = w) := Lib.hid fun i => by rw [hnn]; exact at_any HA.out i
  have HBT : Hid (∀ i : Nat, Calls Tryd.prog 19 #[.slice a' m c', .int .i64 (i : Int)] w fun e w' => e = .returned (.int .u8 ((ys.getD i 0 : Nat) : Int)) ∧ w' = w) := Lib.hid fun i => by rw [hmm]; exact at_any HU.out i
  have HX : Hid (∀ i, xs.getD i 0 < 256 ∧ ys.getD i 0 < 256) := Lib.hid fun i => ⟨getD_byte ha i, getD_byte hb i⟩
  have HEND : Hid (xs = ys ↔ n = m ∧ ∀ j, j < M → xs.getD j 0 = ys.getD j 0) := Lib.hid ⟨fun h => by subst h; exact ⟨by omega, fun _ _ => rfl⟩, fun ⟨h1, h2⟩ => same_list (by omega) (by rw [← hnn, ← hmm, ← hM]; exact h2)⟩
  have e0 : bits .xor .i64 (n : Int) (m : Int) = ((n ^^^ m : Nat) : Int) := i64_xor_nat n m (by omega) (by omega)
  have eM : max (n : Int) (m : Int) = (M : Int) := by omega
  have hMl : M < 1000000000 := by omega
  have hx0 : n ^^^ m < 2 ^ 62 := Nat.xor_lt_two_pow (by omega) (by omega)
  obtain ⟨X, hX⟩ : ∃ X, X = n ^^^ m := ⟨_, rfl⟩
  have HXZ : Hid (X = 0 ↔ n = m) := Lib.hid (by rw [hX]; exact xor_none)
  rw [← hnn, ← hmm]
  rw [← hX] at e0 hx0
  clear hv hu ha hb hnn hmm hM hX
  go_enter Tryd.func12, Tryd.ntmps12
  repeat (first | go_values | go_skip | go_guarded | go_step | go_upon)
  go_loopw [5, 17] (fun vo c wr => ∃ i o : Nat, i ≤ M ∧ o < 4611686018427387904 ∧ c = .int .i64 i ∧ vo = .int .i64 o ∧ (o = 0 ↔ n = m ∧ ∀ j, j < i → xs.getD j 0 = ys.getD j 0) ∧ wr = w) (fun _ c _ => M - (intOf c).toNat)
  case atStart => exact ⟨0, X, by omega, by omega, rfl, rfl, by rw [HXZ.out]; simp, rfl⟩
  case round =>
    obtain ⟨i, o, hi, ho, rfl, rfl, hz, rfl⟩ := hrel
    have HZ := Lib.hid hz
    clear hz e0
    by_cases hlt : i < M
    · have t3 : decide ((i : Int) < (M : Int)) = true := by simp only [decide_eq_true_eq]; omega
      have hti : (i : Int) < (M : Int) := by omega
      obtain ⟨x, hx⟩ : ∃ x, x = xs.getD i 0 := ⟨_, rfl⟩
      obtain ⟨y, hy⟩ : ∃ y, y = ys.getD i 0 := ⟨_, rfl⟩
      have hx256 : x < 256 := by rw [hx]; exact (HX.out i).1
      have hy256 : y < 256 := by rw [hy]; exact (HX.out i).2
      have hxy : x ^^^ y < 2 ^ 8 := Nat.xor_lt_two_pow (by omega) (by omega)
      have e1 : bits .xor .u8 (x : Int) (y : Int) = ((x ^^^ y : Nat) : Int) := u8_xor_nat x y hx256 hy256
      have HD : Hid (x ^^^ y = 0 ↔ xs.getD i 0 = ys.getD i 0) := Lib.hid (by rw [← hx, ← hy]; exact xor_none)
      obtain ⟨d, hd⟩ : ∃ d, d = x ^^^ y := ⟨_, rfl⟩
      rw [← hd] at e1 HD hxy
      have e2 : IntKind.i64.wrap (d : Int) = (d : Int) := by rw [IntKind.wrap_i64]; omega
      have e3 : bits .or .i64 (o : Int) (d : Int) = ((o ||| d : Nat) : Int) := i64_or_nat o d ho (by omega)
      have ho2 : o ||| d < 2 ^ 62 := Nat.or_lt_two_pow (by omega) (by omega)
      have HA1 := Lib.hid (show Calls Tryd.prog 19 #[.slice a n c, .int .i64 (i : Int)] wr fun e w' => e = .returned (.int .u8 (x : Int)) ∧ w' = wr by rw [hx]; exact HAT.out i)
      have HB1 := Lib.hid (show Calls Tryd.prog 19 #[.slice a' m c', .int .i64 (i : Int)] wr fun e w' => e = .returned (.int .u8 (y : Int)) ∧ w' = wr by rw [hy]; exact HBT.out i)
      clear hx hy hd
      repeat (first | go_values | go_skip | go_guarded | go_step | go_upon)
      refine HA1.out.mono ?_
      rintro e w1 ⟨rfl, rfl⟩
      dsimp only
      repeat (first | go_values | go_skip | go_guarded | go_step | go_upon)
      refine HB1.out.mono ?_
      rintro e w1 ⟨rfl, rfl⟩
      dsimp only
      repeat (first | go_values | go_skip | go_guarded | go_step | go_upon)
      refine ⟨⟨i + 1, o ||| d, by omega, by omega, by go_num, rfl, ?_, trivial⟩, by simp [intOf]; omega⟩
      rw [or_none, HZ.out, HD.out]
      constructor
      · rintro ⟨⟨h1, h2⟩, h3⟩
        refine ⟨h1, fun j hj => ?_⟩
        by_cases hji : j = i
        · subst hji; exact h3
        · exact h2 j (by omega)
      · rintro ⟨h1, h2⟩
        exact ⟨⟨h1, fun j hj => h2 j (by omega)⟩, h2 i (by omega)⟩
    · have t3 : decide ((i : Int) < (M : Int)) = false := by simp only [decide_eq_false_iff_not]; omega
      have hiM : i = M := by omega
      have HR : Hid (o = 0 ↔ xs = ys) := Lib.hid (by rw [HZ.out, HEND.out, hiM])
      repeat (first | go_values | go_skip | go_guarded | go_step | go_upon)
      go_ret
      refine ⟨?_, rfl⟩
      have hb : ((o : Int) == 0) = decide (xs = ys) := by
        have h := HR.out
        by_cases h0 : o = 0
        · rw [decide_eq_true (h.1 h0), h0]; rfl
        · rw [decide_eq_false (fun e => h0 (h.2 e))]; simp; omega
      exact congrArg (fun x => Ending.returned (.bool x)) hb
end Go.Proofs.YtfbnnhailnbmiaaDoor
