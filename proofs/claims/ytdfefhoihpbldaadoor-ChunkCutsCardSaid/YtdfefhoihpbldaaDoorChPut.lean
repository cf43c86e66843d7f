/- Numbers with their widths, put and got. -/
import Derived.Test.YtdfefhoihpbldaaDoorChDoes
import Derived.Test.YtdfefhoihpbldaaDoorNumZig
namespace Go.Proofs.YtdfefhoihpbldaaDoor
open Go.RowKit

set_option maxHeartbeats 1000000 in
theorem cput_ok {B : Nat} {w0 w : World} {P x : Nat} {g : Option Nat} {l : List Bool} (hx : x < 18446744073709551616) (hl0 : StepsLaid w0) (hs : 0 < B) (hB : B ≤ w0.heap.size) (hbig : l.length ≤ 10000000) (hw : Wrote B w0 P g l w) :
    Calls Tryd.prog 34 #[.pointer (some ⟨P, 0, none⟩), .int .u64 (x : Int)] w fun e w' => e = .returned (.tuple #[]) ∧ Wrote B w0 P g (l ++ ownBits x) w' := by
  have HL0 := Lib.hid hl0
  have HW := Lib.hid hw
  have HL := Lib.hid (hl0.keep (hw.below hB) hs)
  have hw64 := wid_le 64 hx
  have hzu : IntKind.u64.wrap ((wid x : Nat) : Int) = wid x := by rw [IntKind.wrap_u64]; omega
  clear hl0 hw
  go_enter Tryd.func34, Tryd.ntmps34
  go_wp2_with (go_at_call 31; refine (width_any hx _ HL.out).mono ?_; rintro e w' ⟨rfl, rfl⟩)
  refine (put_ok (x := wid x) (n := 7) (by omega) (by omega) (wid_le 7 (by omega)) HL.out hB (by omega) HW.out).mono ?_
  rintro e w1 ⟨rfl, h1⟩
  have H1 := Lib.hid h1
  have HL1 := Lib.hid (HL0.out.keep (h1.below hB) hs)
  clear h1
  go_wp2_with fail
  refine (put_ok (x := x) (n := wid x) hx (by omega) (Nat.le_refl _) HL1.out hB (by rw [List.length_append, numBits_length]; omega) H1.out).mono ?_
  rintro e w2 ⟨rfl, h2⟩
  have H2 := Lib.hid h2
  clear h2
  go_wp2
  go_end0
  exact ⟨rfl, by rw [ownBits, ← List.append_assoc]; exact H2.out⟩

/-- so many bits got, or it is told that they end -/
theorem get_at {B : Nat} {w : World} {R p n : Nat} {bs : List Nat} (h : ReaderAt B w R bs p) (hb : ∀ x ∈ bs, x < 256) (hbig : bs.length ≤ 1000000) (hp : p ≤ 8 * bs.length) (hn : n ≤ 64) :
    Calls Tryd.prog 25 #[.pointer (some ⟨R, 0, none⟩), .int .i64 (n : Int)] w fun e w' =>
      ((∃ x, getAt bs p n = .ok x ∧ e = .returned (.tuple #[.int .u64 (x : Int), .int .i64 0]) ∧ ReaderAt B w' R bs (p + n) ∧ p + n ≤ 8 * bs.length ∧ x < 18446744073709551616) ∨ (getAt bs p n = .error 4 ∧ e = .returned (.tuple #[.int .u64 0, .int .i64 4]))) ∧ Only (fun j => j = R) w w' := by
  by_cases h1 : p + n ≤ 8 * bs.length
  · refine (get_ok h hb (by omega) hp hn (by omega)).mono fun e w' ⟨he, hr, ho⟩ => ⟨.inl ⟨valOf bs p n, by rw [getAt, if_pos h1], he, hr, h1, ?_⟩, ho⟩
    exact Nat.lt_of_lt_of_le (valOf_lt bs p n) (Nat.pow_le_pow_right (by omega) hn)
  · refine (get_short h (by omega) hp hn (by omega)).mono fun e w' ⟨he, m, hw⟩ => ⟨.inr ⟨by rw [getAt, if_neg h1], he⟩, ?_⟩
    rw [hw]; exact only_drewN _ _ _

set_option maxHeartbeats 1000000 in
theorem cget_any {B : Nat} {w : World} {R p : Nat} {bs : List Nat} (h : ReaderAt B w R bs p) (hb : ∀ x ∈ bs, x < 256) (hbig : bs.length ≤ 1000000) (hp : p ≤ 8 * bs.length) (hl : StepsLaid w) (hs : 0 < B) :
    Calls Tryd.prog 39 #[.pointer (some ⟨R, 0, none⟩)] w fun e w' =>
      ((∃ x p', ownAt bs p = .ok (x, p') ∧ e = .returned (.tuple #[.int .u64 (x : Int), .int .i64 0]) ∧ ReaderAt B w' R bs p' ∧ p' ≤ 8 * bs.length ∧ x < 18446744073709551616) ∨ ∃ z : Int, z ≠ 0 ∧ ownAt bs p = .error z ∧ e = .returned (.tuple #[.int .u64 0, .int .i64 z])) ∧ Only (fun j => j = R) w w' := by
  have H := Lib.hid h
  have HB := Lib.hid hb
  have HL := Lib.hid hl
  have hRB := h.1
  clear h hb hl
  go_enter Tryd.func39, Tryd.ntmps39
  go_wp2_with fail
  refine (get_at (n := 7) H.out HB.out hbig hp (by omega)).mono ?_
  rintro e w1 ⟨⟨n, hn, rfl, hr, hp1, hx⟩ | ⟨he, rfl⟩, ho⟩
  · have HN := Lib.hid hn
    have HR := Lib.hid hr
    have HO := Lib.hid ho
    have HL1 := Lib.hid (HL.out.keep (ho.below (B := B) (by have := H.out.2.choose_spec.1; have := lt_of_block this; omega) (fun k hk => by omega)) hs)
    have hn7 : n < 128 := by
      have h1 := (getAt_ok hn).2
      have h2 := valOf_lt bs p 7
      omega
    clear hn hr ho
    by_cases h64 : 64 < n
    · have t1 : decide ((64 : Int) < n) = true := by simp; omega
      have HE : Hid (ownAt bs p = .error 2) := Lib.hid (by unfold ownAt; rw [HN.out]; simp only; rw [if_pos h64])
      go_wp2
      go_ret2
      exact ⟨.inr ⟨2, by decide, HE.out, rfl⟩, HO.out⟩
    · have t1 : decide ((64 : Int) < n) = false := by simp; omega
      have hz : IntKind.i64.wrap (n : Int) = n := by rw [IntKind.wrap_i64]; omega
      go_wp2_with fail
      refine (get_at (n := n) HR.out HB.out hbig hp1 (by omega)).mono ?_
      rintro e w2 ⟨⟨x, hx2, rfl, hr2, hp2, hx3⟩ | ⟨he, rfl⟩, ho2⟩
      · have HX := Lib.hid hx2
        have HR2 := Lib.hid hr2
        have HO2 := Lib.hid ho2
        have HL2 := Lib.hid (HL1.out.keep (ho2.below (B := B) (by have := HR.out.2.choose_spec.1; have := lt_of_block this; omega) (fun k hk => by omega)) hs)
        clear hx2 hr2 ho2
        by_cases hw : wid x = n
        · have t2 : (((wid x : Nat) : Int) != n) = false := by simp; omega
          have HE : Hid (ownAt bs p = .ok (x, p + 7 + n)) := Lib.hid (by unfold ownAt; rw [HN.out]; simp only; rw [if_neg h64, HX.out]; simp only; rw [if_pos hw])
          clear hw
          go_wp2_with (go_at_call 31; refine (width_any hx3 _ HL2.out).mono ?_; rintro e w' ⟨rfl, rfl⟩)
          go_ret2
          exact ⟨.inl ⟨x, p + 7 + n, HE.out, rfl, HR2.out, hp2, hx3⟩, HO.out.trans HO2.out (fun _ _ h => h)⟩
        · have t2 : (((wid x : Nat) : Int) != n) = true := by simp; omega
          have HE : Hid (ownAt bs p = .error 2) := Lib.hid (by unfold ownAt; rw [HN.out]; simp only; rw [if_neg h64, HX.out]; simp only; rw [if_neg hw])
          clear hw
          go_wp2_with (go_at_call 31; refine (width_any hx3 _ HL2.out).mono ?_; rintro e w' ⟨rfl, rfl⟩)
          go_ret2
          exact ⟨.inr ⟨2, by decide, HE.out, rfl⟩, HO.out.trans HO2.out (fun _ _ h => h)⟩
      · have HE : Hid (ownAt bs p = .error 4) := Lib.hid (by unfold ownAt; rw [HN.out]; simp only; rw [if_neg h64, he])
        have HO2 := Lib.hid ho2
        clear he ho2
        go_wp2
        go_ret2
        exact ⟨.inr ⟨4, by decide, HE.out, rfl⟩, HO.out.trans HO2.out (fun _ _ h => h)⟩
  · have HE : Hid (ownAt bs p = .error 4) := Lib.hid (by unfold ownAt; rw [he])
    have HO := Lib.hid ho
    clear he ho
    go_wp2
    go_ret2
    exact ⟨.inr ⟨4, by decide, HE.out, rfl⟩, HO.out⟩
end Go.Proofs.YtdfefhoihpbldaaDoor
