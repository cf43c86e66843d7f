/- Get, Unary, Rest of the reader, walked. -/
import Derived.Test.YtdfefhoihpbldaaDoorBitRead
namespace Go.Proofs.YtdfefhoihpbldaaDoor
open Go.RowKit

theorem ReaderAt.drewN {B : Nat} {w : World} {R : Nat} {bs : List Nat} {n : Nat} (h : ReaderAt B w R bs n) (m : Nat) : ReaderAt B (w.drewN m) R bs n := h.moved (only_drewN _ _ _)
theorem ReaderAt.set {B : Nat} {w : World} {R : Nat} {bs : List Nat} {n : Nat} (h : ReaderAt B w R bs n) (n' : Nat) {u : Int} (hu : u = n') :
    ReaderAt B (w.setCell ⟨R, 1, none⟩ (.int .i64 u)) R bs n' ∧ Only (fun k => k = R) w (w.setCell ⟨R, 1, none⟩ (.int .i64 u)) := by
  subst hu
  obtain ⟨hR, v, hh, hown⟩ := h
  have hne := row_ne hh hown (by decide)
  refine ⟨⟨hR, v, ?_, ownsRow_setCell_other hown (a := ⟨R, 1, none⟩) hne _⟩, Only.setCell (S := fun k => k = R) _ rfl _⟩
  rw [heap_setCell_same w R 1 _ _ _ hh]; simp

/-- so many bits as a number, from one on -/
def valOf (bs : List Nat) (n : Nat) : Nat → Nat
  | 0 => 0
  | k + 1 => 2 * valOf bs n k + bitIn bs (n + k)
theorem bitIn_le (bs : List Nat) (i : Nat) : bitIn bs i ≤ 1 := by unfold bitIn; omega
theorem valOf_lt (bs : List Nat) (n k : Nat) : valOf bs n k < 2 ^ k := by
  induction k with
  | zero => simp [valOf]
  | succ k ih => have := bitIn_le bs (n + k); rw [valOf, Nat.pow_succ]; omega

theorem get_arg {w : World} {R : Nat} {n : Int} (h : n < 0 ∨ 64 < n) :
    Calls Tryd.prog 25 #[.pointer (some ⟨R, 0, none⟩), .int .i64 n] w fun e w' => e = .returned (.tuple #[.int .u64 0, .int .i64 1]) ∧ w = w' := by
  go_enter Tryd.func25, Tryd.ntmps25
  go_wp2_with (go_at_call 30; refine (isWidth_no h _).mono ?_; rintro e w' ⟨rfl, rfl⟩)
  go_ret2
  exact ⟨rfl, rfl⟩

set_option maxHeartbeats 1000000 in
theorem get_short {B : Nat} {w : World} {R n k : Nat} {bs : List Nat} (h : ReaderAt B w R bs n) (hbig : bs.length ≤ 1000000000) (hn : n ≤ 8 * bs.length) (hk : k ≤ 64) (hs : 8 * bs.length - n < k) :
    Calls Tryd.prog 25 #[.pointer (some ⟨R, 0, none⟩), .int .i64 (k : Int)] w fun e w' => e = .returned (.tuple #[.int .u64 0, .int .i64 4]) ∧ ∃ m, w' = w.drewN m := by
  have HR := Lib.hid h
  clear h
  go_enter Tryd.func25, Tryd.ntmps25
  go_wp2_with (first | (go_at_call 30; refine (isWidth_yes (by omega) (by omega) _).mono ?_; rintro e w' ⟨rfl, rfl⟩) | (go_at_call 36; refine (left_any HR.out hbig hn).mono ?_; rintro e w' ⟨rfl, m, rfl⟩))
  go_ret2
  exact ⟨rfl, _, rfl⟩

theorem or_bit {x b : Nat} (hx : 2 * x < 18446744073709551616) (hb : b ≤ 1) : bits .or .u64 (IntKind.u64.wrap ((x : Int) * 2)) (IntKind.u64.wrap (b : Int)) = ((2 * x + b : Nat) : Int) := by
  simp only [IntKind.wrap_u64]
  have h1 : ((x : Int) * 2 % 18446744073709551616) = ((x * 2 : Nat) : Int) := by omega
  have h2 : ((b : Int) % 18446744073709551616) = (b : Int) := by omega
  rw [h1, h2, u64_or_nat _ _ (by omega) (by omega), nat_join 1 _ _ (by omega) (by omega)]
  omega

set_option maxHeartbeats 1000000 in
theorem get_ok {B : Nat} {w : World} {R n k : Nat} {bs : List Nat} (h : ReaderAt B w R bs n) (hb : ∀ x ∈ bs, x < 256) (hbig : bs.length ≤ 1000000000) (hn : n ≤ 8 * bs.length) (hk : k ≤ 64) (hs : k ≤ 8 * bs.length - n) :
    Calls Tryd.prog 25 #[.pointer (some ⟨R, 0, none⟩), .int .i64 (k : Int)] w fun e w' =>
      e = .returned (.tuple #[.int .u64 ((valOf bs n k : Nat) : Int), .int .i64 0]) ∧ ReaderAt B w' R bs (n + k) ∧ Only (fun j => j = R) w w' := by
  have HR := Lib.hid h
  have HB := Lib.hid hb
  have hd : decide (8 * bs.length - n < k) = false := by simpa using hs
  clear h hb
  go_enter Tryd.func25, Tryd.ntmps25
  go_wp2_with (first | (go_at_call 30; refine (isWidth_yes (by omega) (by omega) _).mono ?_; rintro e w' ⟨rfl, rfl⟩) | (go_at_call 36; refine (left_any HR.out hbig hn).mono ?_; rintro e w' ⟨rfl, m, rfl⟩))
  clear hd
  go_loop [6, 20] (fun x i => ∃ q : Nat, q ≤ k ∧ i = .int .i64 q ∧ x = .int .u64 ((valOf bs n q : Nat) : Int)) (fun _ i => k - (intOf i).toNat)
  case atStart => exact ⟨0, by omega, rfl, rfl⟩
  case round =>
    obtain ⟨q, hq, rfl, rfl⟩ := hrel
    by_cases hlt : q < k
    · go_wp2_with fail
      refine (peek_any (HR.out.drewN _) HB.out hbig (by omega)).mono ?_
      rintro e w' ⟨rfl, rfl⟩
      have hv := valOf_lt bs n q
      have HV : Hid (2 * valOf bs n q < 18446744073709551616) := by
        have h1 : (2 : Nat) ^ (q + 1) ≤ 2 ^ 64 := Nat.pow_le_pow_right (by omega) (by omega)
        rw [Nat.pow_succ] at h1
        exact (by omega : 2 * valOf bs n q < 18446744073709551616)
      clear hv
      go_wp2
      go_round
      case rel => exact ⟨q + 1, by omega, by go_num, by rw [or_bit HV.out (bitIn_le _ _)]; rfl⟩
      case measure => simp [intOf]; omega
    · obtain rfl : q = k := by omega
      obtain ⟨_, v, hh, _⟩ := HR.out
      obtain ⟨c0, c1, f0, f1⟩ := cells2 hh
      clear hh
      go_wp2
      go_ret2
      obtain ⟨h1, h2⟩ := (HR.out.drewN _).set (n + q) (u := (n : Int) + q) (by simp)
      exact ⟨rfl, h1, (only_drewN _ _ _).trans h2 (fun i _ h => h)⟩
end Go.Proofs.YtdfefhoihpbldaaDoor
