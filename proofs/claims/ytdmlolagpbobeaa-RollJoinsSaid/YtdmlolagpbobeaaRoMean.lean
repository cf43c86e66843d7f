/- Package roll: Right and Mean. -/
import Derived.Test.YtdmlolagpbobeaaRoAdd
namespace Go.Proofs.Ytdmlolagpbobeaa
open Go.RowKit

def rightA (t : Ag) : Bool := decide (0 < t.n) && decide (t.lo ≤ t.hi)
def meanA (t : Ag) : Int := if 0 < t.n then t.s / t.n else 0
theorem mean_floor {s n : Int} (hn : 0 < n) : s / n = if s.tmod n < 0 then s.tdiv n - 1 else s.tdiv n := by
  have h1 := Int.emod_add_mul_ediv s n
  have h2 := Int.emod_nonneg s (show n ≠ 0 by omega)
  have h3 := Int.emod_lt_of_pos s hn
  have h4 := Int.tmod_add_mul_tdiv s n
  have h5 := Int.tmod_lt_of_pos s hn
  have h6 : -n < s.tmod n := by
    rcases Int.le_total 0 s with h | h
    · have := Int.tmod_nonneg n h; omega
    · have h7 := Int.tmod_lt_of_pos (-s) hn
      rw [Int.neg_tmod] at h7; omega
  have key : ∀ d : Int, n * d < n → -n < n * d → d = 0 := fun d ha hb => by
    rcases Int.lt_or_le 0 d with h | h
    · have := Int.mul_le_mul_of_nonneg_left (show (1 : Int) ≤ d by omega) (show 0 ≤ n by omega); omega
    · rcases Int.lt_or_le d 0 with h8 | h8
      · have := Int.mul_le_mul_of_nonneg_left (show d ≤ (-1 : Int) by omega) (show 0 ≤ n by omega); omega
      · omega
  split
  · rename_i hneg
    have := key (s / n - (s.tdiv n - 1)) (by rw [Int.mul_sub, Int.mul_sub]; omega) (by rw [Int.mul_sub, Int.mul_sub]; omega)
    omega
  · rename_i hneg
    have := key (s / n - s.tdiv n) (by rw [Int.mul_sub]; omega) (by rw [Int.mul_sub]; omega)
    omega
theorem tdiv_in {s n : Int} (hn : 0 < n) (h0 : -9223372036854775808 ≤ s) (h1 : s ≤ 9223372036854775807) :
    -9223372036854775808 ≤ s.tdiv n ∧ s.tdiv n ≤ 9223372036854775807 ∧ (s.tmod n < 0 → -9223372036854775808 < s.tdiv n) := by
  have hz : n ≠ 0 := by omega
  have e := Int.tmod_add_mul_tdiv s n
  rcases Int.le_total 0 s with h | h
  · have a1 : s.tdiv n = s / n := Int.tdiv_eq_ediv_of_nonneg h
    have a2 := Int.ediv_nonneg h (show 0 ≤ n by omega)
    have a3 := Int.ediv_le_self n h
    have a4 := Int.tmod_nonneg n h
    rw [a1]; omega
  · have a0 : (-s).tdiv n = -(s.tdiv n) := Int.neg_tdiv _ _
    have a1 : (-s).tdiv n = (-s) / n := Int.tdiv_eq_ediv_of_nonneg (by omega)
    have a2 := Int.ediv_nonneg (show 0 ≤ -s by omega) (show 0 ≤ n by omega)
    have a3 := Int.ediv_le_self n (show 0 ≤ -s by omega)
    rw [a1] at a0
    refine ⟨by omega, by omega, fun hr => ?_⟩
    by_cases hq : s.tdiv n = -9223372036854775808
    · have hs : s = -9223372036854775808 := by omega
      rw [hq] at e
      by_cases h2 : n = 1
      · subst h2; omega
      · have := Int.mul_le_mul_of_nonneg_right (show (2 : Int) ≤ n by omega) (show (0 : Int) ≤ 9223372036854775808 by omega)
        omega
    · omega
theorem one_new (w : World) (t : Ag) {W : World} (hW : W = w.alloc (.cells #[.int .i64 t.at_, .int .i64 t.n, .int .i64 t.s, .int .i64 t.lo, .int .i64 t.hi] 25)) : AgAt W w.heap.size t ∧ Below w.heap.size w W := by
  subst hW
  exact ⟨AgAt.new w t, (Below.refl _ _).alloc (Nat.le_refl _) _⟩
set_option maxHeartbeats 4000000 in
set_option maxRecDepth 100000 in
theorem roright_any (w : World) (t : Ag) :
    Calls Try.prog 12 #[agV t] w fun e w' => e = .returned (.bool (rightA t)) ∧ Below w.heap.size w w' := by
  have HV : Hid (∀ W, Calls Try.prog 22 #[.agg #[.int .i64 t.at_, .int .i64 t.n, .int .i64 t.s, .int .i64 t.lo, .int .i64 t.hi]] W fun e w' => e = .returned (.bool (decide (0 < t.n))) ∧ Below W.heap.size W w') := Lib.hid fun W => rovalued_any W t
  have HR : Hid (rightA t = (decide (0 < t.n) && decide (t.lo ≤ t.hi))) := Lib.hid rfl
  unfold agV
  go_enter Try.func12, Try.ntmps12
  go_upto_region 1 with fail
  refine wp_name fun W1 hW1 => ?_
  obtain ⟨N, hN⟩ : ∃ N, N = w.heap.size := ⟨_, rfl⟩
  obtain ⟨h1, h3⟩ := one_new w t hW1.out
  rw [← hN] at h1 ⊢
  have H1 := Lib.hid h1
  have H3 := Lib.hid h3
  obtain ⟨c0, c1, c2, c3, c4, -, -, -, -, -⟩ := h1.cells
  clear h1 h3 hW1 hN
  by_cases hn : 0 < t.n
  · have tn : decide (0 < t.n) = true := decide_eq_true hn
    clear hn
    go_wp2_with fail
    refine (HV.out W1).mono ?_
    rintro e W2 ⟨rfl, hb⟩
    have H2 := Lib.hid (H1.out.keep hb)
    have HB2 := Lib.hid (H3.out.trans (hb.mono H3.out.size))
    clear hb c0 c1 c2 c3 c4 H1 H3
    dsimp only
    obtain ⟨c0, c1, c2, c3, c4, -, -, -, -, -⟩ := H2.out.cells
    go_wp2
    go_ret
    exact ⟨by rw [HR.out, tn]; rfl, HB2.out⟩
  · have tn : decide (0 < t.n) = false := decide_eq_false hn
    clear hn
    go_wp2_with fail
    refine (HV.out W1).mono ?_
    rintro e W2 ⟨rfl, hb⟩
    have HB2 := Lib.hid (H3.out.trans (hb.mono H3.out.size))
    clear hb c0 c1 c2 c3 c4 H1 H3
    dsimp only
    go_wp2
    go_ret
    exact ⟨by rw [HR.out, tn]; rfl, HB2.out⟩
set_option maxHeartbeats 4000000 in
set_option maxRecDepth 100000 in
theorem romean_any (w : World) {t : Ag} (ht : t.fits) :
    Calls Try.prog 19 #[agV t] w fun e w' => e = .returned (.int .i64 (meanA t)) ∧ Below w.heap.size w w' := by
  have HV : Hid (∀ W, Calls Try.prog 22 #[.agg #[.int .i64 t.at_, .int .i64 t.n, .int .i64 t.s, .int .i64 t.lo, .int .i64 t.hi]] W fun e w' => e = .returned (.bool (decide (0 < t.n))) ∧ Below W.heap.size W w') := Lib.hid fun W => rovalued_any W t
  have HT := Lib.hid ht
  clear ht
  obtain ⟨M, hM⟩ : ∃ M, M = meanA t := ⟨_, rfl⟩
  rw [← hM]
  have HM := Lib.hid hM
  clear hM
  unfold agV
  go_enter Try.func19, Try.ntmps19
  go_upto_region 1 with fail
  refine wp_name fun W1 hW1 => ?_
  obtain ⟨N, hN⟩ : ∃ N, N = w.heap.size := ⟨_, rfl⟩
  obtain ⟨h1, h3⟩ := one_new w t hW1.out
  rw [← hN] at h1 ⊢
  have H1 := Lib.hid h1
  have H3 := Lib.hid h3
  obtain ⟨c0, c1, c2, c3, c4, -, -, -, -, -⟩ := h1.cells
  clear h1 h3 hW1 hN
  go_wp2_with fail
  refine (HV.out W1).mono ?_
  rintro e W2 ⟨rfl, hb⟩
  have H2 := Lib.hid (H1.out.keep hb)
  have HB2 := Lib.hid (H3.out.trans (hb.mono H3.out.size))
  clear hb c0 c1 c2 c3 c4 H1 H3
  dsimp only
  obtain ⟨c0, c1, c2, c3, c4, -, -, -, -, -⟩ := H2.out.cells
  by_cases hn : 0 < t.n
  · have tn : decide (0 < t.n) = true := decide_eq_true hn
    have z0 : ¬ t.n = 0 := by omega
    have z1 : (t.n == 0) = false := by simpa using z0
    have hfl := mean_floor (s := t.s) hn
    have hME : M = t.s / t.n := by rw [HM.out]; unfold meanA; rw [if_pos hn]
    have hq : -9223372036854775808 ≤ t.s.tdiv t.n ∧ t.s.tdiv t.n ≤ 9223372036854775807 ∧ (t.s.tmod t.n < 0 → -9223372036854775808 < t.s.tdiv t.n) := by
      exact tdiv_in hn HT.out.s0 HT.out.s1
    obtain ⟨D, hD⟩ : ∃ D, D = t.s.tdiv t.n := ⟨_, rfl⟩
    obtain ⟨E, hE⟩ : ∃ E, E = t.s.tmod t.n := ⟨_, rfl⟩
    have hEr : -9223372036854775808 ≤ t.s.tmod t.n ∧ t.s.tmod t.n ≤ 9223372036854775807 := by
      have b0 := HT.out.n1
      have b1 := HT.out.n0
      have h5 := Int.tmod_lt_of_pos t.s hn
      have h6 : -t.n < t.s.tmod t.n := by
        rcases Int.le_total 0 t.s with h | h
        · have := Int.tmod_nonneg t.n h; omega
        · have h7 := Int.tmod_lt_of_pos (-t.s) hn
          rw [Int.neg_tmod] at h7; omega
      omega
    rw [← hD] at hfl hq
    rw [← hE] at hfl hq hEr
    have d1 : t.s.tdiv t.n = D := hD.symm
    have d2 : t.s.tmod t.n = E := hE.symm
    have d3 : wrap64 D = D := by first | (apply wrap64_id <;> omega) | (unfold wrap64; omega)
    have d4 : wrap64 E = E := by first | (apply wrap64_id <;> omega) | (unfold wrap64; omega)
    rw [← hME] at hfl
    clear hD hE hME hn
    by_cases he : E < 0
    · have te : decide (E < 0) = true := decide_eq_true he
      rw [if_pos he] at hfl
      have d5 : wrap64 (D - 1) = D - 1 := by have := hq.2.2 he; first | (apply wrap64_id <;> omega) | (unfold wrap64; omega)
      have HFL := Lib.hid hfl
      clear hfl he hq hEr
      go_wp2
      go_ret
      exact ⟨ret_i64 (d5.trans HFL.out.symm), HB2.out⟩
    · have te : decide (E < 0) = false := decide_eq_false he
      rw [if_neg he] at hfl
      have HFL := Lib.hid hfl
      clear hfl he hq hEr
      go_wp2
      go_ret
      exact ⟨ret_i64 (d3.trans HFL.out.symm), HB2.out⟩
  · have tn : decide (0 < t.n) = false := decide_eq_false hn
    have HME : Hid (M = 0) := Lib.hid (by rw [HM.out]; unfold meanA; rw [if_neg hn])
    clear hn
    go_wp2
    go_ret
    exact ⟨ret_i64 HME.out.symm, HB2.out⟩
end Go.Proofs.Ytdmlolagpbobeaa
