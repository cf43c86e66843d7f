/- The chapter's example of octet holds; the law's own wide and num, walked. -/
import Derived.Test.YtcomdobmkmbmeaaDoorOctG
import Derived.Laws.Concat
namespace Go.Proofs.YtcomdobmkmbmeaaDoor
open Go.RowKit

set_option maxHeartbeats 1000000 in
theorem lives03 (w : World) (hl : StepsLaid w) :
    Calls Tryd.prog 5 #[] w fun e w' => e = .returned (.bool true) ∧ Below w.heap.size w w' := by
  have hlt := hl.lt
  have HL := Lib.hid (hl.alloc (.cells #[.slice none 0 0] 27))
  have HS := Lib.hid (OWrote.start (owriter_new w))
  have w1 : wid 258 ≤ 8 * 2 := by decide
  have hp : strOf ([] ++ numB 258 2 ++ numB 18446744073709551615 8) = ⟨#[1, 2, 255, 255, 255, 255, 255, 255, 255, 255]⟩ := by decide
  clear hl
  go_enter Tryd.func5, Tryd.ntmps5
  go_wp2_with fail
  refine (num_ok (x := 258) (n := 2) (by decide) (by unfold Wide; omega) w1 HL.out (by simp) (by simp) HS.out).mono ?_
  rintro e W1 ⟨rfl, h1⟩
  have hb1 := h1.below (by simp)
  have HL1 := Lib.hid (HL.out.keep hb1 hlt)
  have H1 := Lib.hid h1
  clear h1 hb1
  go_wp2_with fail
  refine (int_ok (x := 18446744073709551615) (z := -1) (by decide) (by decide) HL1.out (by simp) (by simp [numB]) H1.out).mono ?_
  rintro e W2 ⟨rfl, h2⟩
  have H2 := Lib.hid h2
  clear h2
  go_wp2_with fail
  refine (obytes _ H2.out (by simp [numB])).mono ?_
  rintro e W3 ⟨v, rfl, hown, hb3⟩
  have hcv := text_of (ownsRow_lies hown)
  rw [hp] at hcv
  have HB3 := Lib.hid hb3
  clear hown hb3
  go_wp2
  go_ret
  refine ⟨rfl, ?_⟩
  exact (((Below.refl _ _).alloc (Nat.le_refl _) _).trans (H2.out.below (by simp))).trans (HB3.out.mono (by have := (H2.out.below (by simp)).size; simp at this; omega))

theorem wide_yes {n : Int} (h : Wide n) (w : World) : Calls Tryd.prog 7 #[.int .i64 n] w fun e w' => e = .returned (.bool true) ∧ w = w' := by
  rcases h with rfl | rfl | rfl | rfl
  all_goals
    go_enter Tryd.func7, Tryd.ntmps7
    go_wp2
    go_ret
    exact ⟨rfl, rfl⟩
theorem wide_no {n : Int} (h : ¬ Wide n) (w : World) : Calls Tryd.prog 7 #[.int .i64 n] w fun e w' => e = .returned (.bool false) ∧ w = w' := by
  obtain ⟨h1, h2, h3, h4⟩ := not_wide h
  clear h
  go_enter Tryd.func7, Tryd.ntmps7
  go_wp2
  go_ret
  exact ⟨rfl, rfl⟩

set_option maxHeartbeats 1000000 in
theorem numS_any {x k : Nat} (hx : x < 18446744073709551616) (hk : k ≤ 1000) (w : World) :
    Calls Tryd.prog 8 #[.int .u64 (x : Int), .int .i64 (k : Int)] w fun e w' => e = .returned (.string (strOf (numB x k))) ∧ Below w.heap.size w w' := by
  go_enter Tryd.func8, Tryd.ntmps8
  go_wp2
  go_loopw [0, 5, 7] (fun a b c wr => ∃ q : Nat, q ≤ k ∧ c = .int .i64 q ∧ a = .int .u64 ((x / 256 ^ q : Nat) : Int) ∧ b = .string (strOf (numB x q)) ∧ Below w.heap.size w wr) (fun _ _ c _ => k - (intOf c).toNat)
  case atStart => exact ⟨0, by omega, rfl, by simp, rfl, Below.refl _ _⟩
  case round =>
    obtain ⟨q, hq, rfl, rfl, rfl, hb⟩ := hrel
    have HB := Lib.hid hb
    have hz := hb.size
    have hy : x / 256 ^ q < 18446744073709551616 := Nat.lt_of_le_of_lt (Nat.div_le_self _ _) hx
    clear hb
    by_cases hlt : q < k
    · have hsz : (strOf (numB x q)).size ≤ 1000 := by rw [strOf_size, numB_length]; omega
      have hn : strOf (numB x (q + 1)) = strOf [x / 256 ^ q % 256] ++ strOf (numB x q) := by rw [← strOf_append]; rfl
      have hy2 : x / 256 ^ (q + 1) = x / 256 ^ q / 256 := by rw [Nat.pow_succ, Nat.div_div_eq_div_mul]
      have HN := Lib.hid hn
      have HY2 := Lib.hid hy2
      clear hn hy2
      generalize strOf (numB x q) = s at *
      generalize x / 256 ^ q = y at *
      have hcv := one_text wr (y % 256) (u := (y : Int) % 256) (by omega)
      have hz2 : (strOf [y % 256]).size = 1 := strOf_size _
      have HZ2 : (strOf [y % 256]).size ≤ 1000 := by omega
      clear hz2
      go_wp2
      go_roundw
      case rel => exact ⟨q + 1, by omega, by go_num, by rw [HY2.out]; go_num, by rw [HN.out], HB.out.alloc hz _⟩
      case measure => simp [intOf]; omega
    · obtain rfl : q = k := by omega
      go_wp2
      go_ret
      exact ⟨rfl, HB.out⟩
end Go.Proofs.YtcomdobmkmbmeaaDoor
