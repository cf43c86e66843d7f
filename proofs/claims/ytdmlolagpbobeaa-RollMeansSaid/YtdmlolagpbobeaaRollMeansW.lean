/- RollMeans, walked. -/
import Derived.Test.YtdmlolagpbobeaaRoLives
namespace Go.Proofs.Ytdmlolagpbobeaa
open Go.RowKit

/-- what the mean of points of small values is -/
theorem mean_of {l : List Pt} (hne : l ≠ []) (h : SmallV 1125899906842624 l) (h60 : l.length ≤ 60) : ∃ t m : Ag × Int, t.1 = ofA 0 l ∧ m = t ∧ t.2 = meanA t.1 ∧
    -1125899906842624 ≤ t.2 ∧ t.2 ≤ 1125899906842624 ∧ 1 ≤ t.1.n ∧ t.1.n ≤ 60 ∧ t.2 * t.1.n ≤ t.1.s ∧ t.1.s < (t.2 + 1) * t.1.n ∧ t.1.lo ≤ t.2 ∧ t.2 ≤ t.1.hi := by
  cases l with
  | nil => exact absurd rfl hne
  | cons p r =>
    have hN : (1125899906842624 : Int) * ((p :: r).length : Nat) ≤ 9223372036854775807 := by omega
    have e := ofA_is (b := 1125899906842624) (by omega) (k := 0) h hN
    have hn : (0 : Int) < ((p :: r).length : Nat) := by rw [List.length_cons]; omega
    have hm : meanA (ofA 0 (p :: r)) = sumF (p :: r) / ((p :: r).length : Nat) := by rw [e]; unfold meanA; rw [if_pos hn]
    have hb := mean_between (p := p) (r := r)
    have ht := mean_tells (s := sumF (p :: r)) hn
    have hlo : -1125899906842624 ≤ minF p.v r := by
      have key : ∀ (g : List Pt) (m : Int), SmallV 1125899906842624 g → -1125899906842624 ≤ m → -1125899906842624 ≤ minF m g := by
        intro g
        induction g with
        | nil => intro m _ h; exact h
        | cons q g ih =>
          intro m h h0
          obtain ⟨h1, h2⟩ := small_cons.1 h
          exact ih _ h2 (by show _ ≤ (if q.v < m then q.v else m); split <;> omega)
      exact key r p.v (small_cons.1 h).2 (small_cons.1 h).1.1
    have hhi : maxF p.v r ≤ 1125899906842624 := by
      have key : ∀ (g : List Pt) (m : Int), SmallV 1125899906842624 g → m ≤ 1125899906842624 → maxF m g ≤ 1125899906842624 := by
        intro g
        induction g with
        | nil => intro m _ h; exact h
        | cons q g ih =>
          intro m h h0
          obtain ⟨h1, h2⟩ := small_cons.1 h
          exact ih _ h2 (by show (if m < q.v then q.v else m) ≤ _; split <;> omega)
      exact key r p.v (small_cons.1 h).2 (small_cons.1 h).1.2
    refine ⟨(ofA 0 (p :: r), meanA (ofA 0 (p :: r))), _, rfl, rfl, rfl, ?_⟩
    simp only
    rw [hm, e]
    simp only
    refine ⟨by omega, by omega, by omega, by omega, ht.1, ht.2, hb.1, hb.2⟩
theorem small_mul {z n : Int} (h0 : -1125899906842624 ≤ z) (h1 : z ≤ 1125899906842624) (h2 : 1 ≤ n) (h3 : n ≤ 60) : -67553994410557440 ≤ z * n ∧ z * n ≤ 67553994410557440 := by
  have a := Int.mul_le_mul_of_nonneg_right h1 (show 0 ≤ n by omega)
  have b := Int.mul_le_mul_of_nonneg_right h0 (show 0 ≤ n by omega)
  omega
set_option maxHeartbeats 16000000 in
set_option maxRecDepth 1000000 in
theorem rollMeans_walk {w : World} {v : Value} {l : List Pt} {t : Ag} (hv : PLies w v l) (_hfi : Fits v) (hf : ∀ p ∈ l, p.fits) (hm : l.length ≤ maxLen) (ht : t.fits) :
    Calls Try.prog 7 #[v, agV t] w fun e w' => e = .returned (.bool true) ∧ Below w.heap.size w w' := by
  have HV := Lib.hid hv
  have HF := Lib.hid hf
  have HT := Lib.hid ht
  obtain ⟨a, b, off, cap, rfl, hadr, hpts⟩ := hv
  have HADR := Lib.hid hadr
  have HP := Lib.hid hpts
  have hmx : l.length ≤ 9223372036854775807 := by unfold maxLen at hm; omega
  clear hadr hpts hf hm ht
  unfold agV
  by_cases h60 : 60 < l.length
  · have t60 : decide (60 < (l.length : Int)) = true := decide_eq_true (by omega)
    have t61 : decide (60 < l.length) = true := decide_eq_true h60
    have HB0 : Hid (Below w.heap.size w (w.alloc (.cells #[.int .i64 t.at_, .int .i64 t.n, .int .i64 t.s, .int .i64 t.lo, .int .i64 t.hi] 25))) := Lib.hid ((Below.refl _ _).alloc (Nat.le_refl _) _)
    clear h60
    go_enter Try.func7, Try.ntmps7
    go_upto_region 1 with fail
    refine wp_name fun W0 hW0 => ?_
    have HB0' : Hid (Below w.heap.size w W0) := Lib.hid (by rw [hW0.out]; exact HB0.out)
    clear hW0
    go_wp2_with fail
    refine (rolives_any W0).mono ?_
    rintro e W1 ⟨rfl, hb⟩
    have HB1 := Lib.hid (HB0'.out.trans (hb.mono HB0'.out.size))
    clear hb
    dsimp only
    go_wp2_with fail
    refine (rolives_any W1).mono ?_
    rintro e W2 ⟨rfl, hb⟩
    have HB2 := Lib.hid (HB1.out.trans (hb.mono HB1.out.size))
    clear hb
    dsimp only
    go_wp2
    go_ret
    exact ⟨rfl, HB2.out⟩
  have t60 : decide (60 < (l.length : Int)) = false := decide_eq_false (by omega)
  have t61 : decide (60 < l.length) = false := decide_eq_false h60
  have hl60 : l.length ≤ 60 := by omega
  have HME : Hid (∀ W, Calls Try.prog 19 #[.agg #[.int .i64 t.at_, .int .i64 t.n, .int .i64 t.s, .int .i64 t.lo, .int .i64 t.hi]] W fun e w' => e = .returned (.int .i64 (meanA t)) ∧ Below W.heap.size W w') := Lib.hid fun W => romean_any W HT.out
  have HRI : Hid (∀ W, Calls Try.prog 12 #[.agg #[.int .i64 t.at_, .int .i64 t.n, .int .i64 t.s, .int .i64 t.lo, .int .i64 t.hi]] W fun e w' => e = .returned (.bool (rightA t)) ∧ Below W.heap.size W w') := Lib.hid fun W => roright_any W t
  clear h60
  go_enter Try.func7, Try.ntmps7
  go_upto_region 1 with fail
  refine wp_name fun W0 hW0 => ?_
  obtain ⟨P, hP⟩ : ∃ P, P = w.heap.size := ⟨_, rfl⟩
  obtain ⟨h1, h2⟩ := one_new w t hW0.out
  rw [← hP] at h1 ⊢
  have HP0 := Lib.hid h1
  have HB0 := Lib.hid h2
  clear hW0 hP h1 h2
  go_wp2_with fail
  refine (rolives_any W0).mono ?_
  rintro e W1 ⟨rfl, hb⟩
  have HB1 := Lib.hid (HB0.out.trans (hb.mono HB0.out.size))
  have HP1 := Lib.hid (HP0.out.keep hb)
  clear hb HB0 HP0
  dsimp only
  go_upto_region 3 with fail
  have HS1 := HP1
  go_cut [40] (fun s40 W => s40 = .bool false ∧ Below w.heap.size w W)
  case first =>
    by_cases hn : t.n < 1
    · have tn : decide (t.n < 1) = true := decide_eq_true hn
      have tn2 : decide (1 ≤ t.n) = false := decide_eq_false (by omega)
      rw [show meanA t = 0 by unfold meanA; rw [if_neg (by omega)]] at HME
      rw [show rightA t = false by unfold rightA; rw [decide_eq_false (by omega)]; rfl] at HRI
      clear hn
      refine wp_region_held_drew (S := fun W => AgAt W P t) (by kernel_rfl) HS1.out.drew (fun _ => ?_)
      refine anyH_take (i := 0) (some 18) (v := _) rfl rfl (by kernel_rfl) (by kernel_rfl) (by kernel_rfl) (fun _ _ _ h => h) (by rfl) (HS1.out.drew) (by intro w hSw; obtain ⟨q0, q1, q2, q3, q4, -, -, -, -, -⟩ := AgAt.cells (t := t) hSw; go_simp; try with_reducible rfl) ?_
      (try simp only [Act.put, List.setIfInBounds_toArray, List.set_cons_zero, List.set_cons_succ])
      refine anyH_take (i := 1) (some 19) (v := _) rfl rfl (by kernel_rfl) (by kernel_rfl) (by kernel_rfl) (fun _ _ _ h => h) (by rfl) (HS1.out.drew) (by intro w hSw; obtain ⟨q0, q1, q2, q3, q4, -, -, -, -, -⟩ := AgAt.cells (t := t) hSw; go_simp; try with_reducible rfl) ?_
      (try simp only [Act.put, List.setIfInBounds_toArray, List.set_cons_zero, List.set_cons_succ])
      refine anyH_take (i := 2) (some 20) (v := _) rfl rfl (by kernel_rfl) (by kernel_rfl) (by kernel_rfl) (fun _ _ _ h => h) (by rfl) (HS1.out.drew) (by intro w hSw; obtain ⟨q0, q1, q2, q3, q4, -, -, -, -, -⟩ := AgAt.cells (t := t) hSw; go_simp; try with_reducible rfl) ?_
      (try simp only [Act.put, List.setIfInBounds_toArray, List.set_cons_zero, List.set_cons_succ])
      refine anyH_take (i := 3) (some 21) (v := _) rfl rfl (by kernel_rfl) (by kernel_rfl) (by kernel_rfl) (fun _ _ _ h => h) (by rfl) (HS1.out.drew) (by intro w hSw; obtain ⟨q0, q1, q2, q3, q4, -, -, -, -, -⟩ := AgAt.cells (t := t) hSw; go_simp; try with_reducible rfl) ?_
      (try simp only [Act.put, List.setIfInBounds_toArray, List.set_cons_zero, List.set_cons_succ])
      refine anyH_take (i := 4) (some 22) (v := _) rfl rfl (by kernel_rfl) (by kernel_rfl) (by kernel_rfl) (fun _ _ _ h => h) (by rfl) (HS1.out.drew) (by intro w hSw; obtain ⟨q0, q1, q2, q3, q4, -, -, -, -, -⟩ := AgAt.cells (t := t) hSw; go_simp; try with_reducible rfl) ?_
      (try simp only [Act.put, List.setIfInBounds_toArray, List.set_cons_zero, List.set_cons_succ])
      refine wpAnyH_ready (rs := [5]) (by kernel_rfl) (by simp) (AllReadyH.cons rfl (fun K hK => ?_) AllReadyH.nil)
      go_simp
      refine (HME.out W1.drew).mono ?_
      rintro e W2 ⟨rfl, hb⟩; replace hb := below_undrew hb
      have HS2 := Lib.hid (HS1.out.keep hb)
      have HB2 := Lib.hid (HB1.out.trans (hb.mono HB1.out.size))
      clear hb
      go_wp2_with fail
      refine hK.out _ _ (HS2.out) (fun _ => ?_)
      clear hK K
      (try simp only [Act.put, List.setIfInBounds_toArray, List.set_cons_zero, List.set_cons_succ])
      refine anyH_take (i := 6) (some 24) (v := _) rfl rfl (by kernel_rfl) (by kernel_rfl) (by kernel_rfl) (fun _ _ _ h => h) (by rfl) (HS2.out) (by intro w hSw; obtain ⟨q0, q1, q2, q3, q4, -, -, -, -, -⟩ := AgAt.cells (t := t) hSw; go_simp; try with_reducible rfl) ?_
      (try simp only [Act.put, List.setIfInBounds_toArray, List.set_cons_zero, List.set_cons_succ])
      refine anyH_take (i := 7) (some 25) (v := _) rfl rfl (by kernel_rfl) (by kernel_rfl) (by kernel_rfl) (fun _ _ _ h => h) (by rfl) (HS2.out) (by intro w hSw; obtain ⟨q0, q1, q2, q3, q4, -, -, -, -, -⟩ := AgAt.cells (t := t) hSw; go_simp; try with_reducible rfl) ?_
      (try simp only [Act.put, List.setIfInBounds_toArray, List.set_cons_zero, List.set_cons_succ])
      refine anyH_take (i := 8) (some 26) (v := _) rfl rfl (by kernel_rfl) (by kernel_rfl) (by kernel_rfl) (fun _ _ _ h => h) (by rfl) (HS2.out) (by intro w hSw; obtain ⟨q0, q1, q2, q3, q4, -, -, -, -, -⟩ := AgAt.cells (t := t) hSw; go_simp; try with_reducible rfl) ?_
      (try simp only [Act.put, List.setIfInBounds_toArray, List.set_cons_zero, List.set_cons_succ])
      refine anyH_take (i := 9) (some 27) (v := _) rfl rfl (by kernel_rfl) (by kernel_rfl) (by kernel_rfl) (fun _ _ _ h => h) (by rfl) (HS2.out) (by intro w hSw; obtain ⟨q0, q1, q2, q3, q4, -, -, -, -, -⟩ := AgAt.cells (t := t) hSw; go_simp; try with_reducible rfl) ?_
      (try simp only [Act.put, List.setIfInBounds_toArray, List.set_cons_zero, List.set_cons_succ])
      refine anyH_take (i := 11) (some 29) (v := _) rfl rfl (by kernel_rfl) (by kernel_rfl) (by kernel_rfl) (fun _ _ _ h => h) (by rfl) (HS2.out) (by intro w hSw; obtain ⟨q0, q1, q2, q3, q4, -, -, -, -, -⟩ := AgAt.cells (t := t) hSw; go_simp; try with_reducible rfl) ?_
      (try simp only [Act.put, List.setIfInBounds_toArray, List.set_cons_zero, List.set_cons_succ])
      refine anyH_take (i := 12) (some 30) (v := _) rfl rfl (by kernel_rfl) (by kernel_rfl) (by kernel_rfl) (fun _ _ _ h => h) (by rfl) (HS2.out) (by intro w hSw; obtain ⟨q0, q1, q2, q3, q4, -, -, -, -, -⟩ := AgAt.cells (t := t) hSw; go_simp; try with_reducible rfl) ?_
      (try simp only [Act.put, List.setIfInBounds_toArray, List.set_cons_zero, List.set_cons_succ])
      refine anyH_take (i := 13) (some 31) (v := _) rfl rfl (by kernel_rfl) (by kernel_rfl) (by kernel_rfl) (fun _ _ _ h => h) (by rfl) (HS2.out) (by intro w hSw; obtain ⟨q0, q1, q2, q3, q4, -, -, -, -, -⟩ := AgAt.cells (t := t) hSw; go_simp; try with_reducible rfl) ?_
      (try simp only [Act.put, List.setIfInBounds_toArray, List.set_cons_zero, List.set_cons_succ])
      refine wpAnyH_ready (rs := [10]) (by kernel_rfl) (by simp) (AllReadyH.cons rfl (fun K hK => ?_) AllReadyH.nil)
      go_simp
      refine (HRI.out W2).mono ?_
      rintro e W3 ⟨rfl, hb⟩
      have HS3 := Lib.hid (HS2.out.keep hb)
      have HB3 := Lib.hid (HB2.out.trans (hb.mono HB2.out.size))
      clear hb
      go_wp2_with fail
      refine hK.out _ _ (HS3.out) (fun _ => ?_)
      clear hK K
      (try simp only [Act.put, List.setIfInBounds_toArray, List.set_cons_zero, List.set_cons_succ])
      refine anyH_take (i := 14) (some 32) (v := _) rfl rfl (by kernel_rfl) (by kernel_rfl) (by kernel_rfl) (fun _ _ _ h => h) (by rfl) (HS3.out) (by intro w hSw; obtain ⟨q0, q1, q2, q3, q4, -, -, -, -, -⟩ := AgAt.cells (t := t) hSw; go_simp; try with_reducible rfl) ?_
      (try simp only [Act.put, List.setIfInBounds_toArray, List.set_cons_zero, List.set_cons_succ])
      refine anyH_skip (i := 15) (some 33) rfl rfl (by kernel_rfl) (by kernel_rfl) (by kernel_rfl) (fun _ _ _ h => h) (by rfl) (HS3.out) ?_
      (try simp only [Act.put, List.setIfInBounds_toArray, List.set_cons_zero, List.set_cons_succ])
      refine anyH_skip (i := 16) (some 34) rfl rfl (by kernel_rfl) (by kernel_rfl) (by kernel_rfl) (fun _ _ _ h => h) (by rfl) (HS3.out) ?_
      (try simp only [Act.put, List.setIfInBounds_toArray, List.set_cons_zero, List.set_cons_succ])
      refine anyH_skip (i := 17) (some 35) rfl rfl (by kernel_rfl) (by kernel_rfl) (by kernel_rfl) (fun _ _ _ h => h) (by rfl) (HS3.out) ?_
      (try simp only [Act.put, List.setIfInBounds_toArray, List.set_cons_zero, List.set_cons_succ])
      refine anyH_skip (i := 18) (some 36) rfl rfl (by kernel_rfl) (by kernel_rfl) (by kernel_rfl) (fun _ _ _ h => h) (by rfl) (HS3.out) ?_
      (try simp only [Act.put, List.setIfInBounds_toArray, List.set_cons_zero, List.set_cons_succ])
      refine anyH_skip (i := 19) (some 37) rfl rfl (by kernel_rfl) (by kernel_rfl) (by kernel_rfl) (fun _ _ _ h => h) (by rfl) (HS3.out) ?_
      (try simp only [Act.put, List.setIfInBounds_toArray, List.set_cons_zero, List.set_cons_succ])
      refine anyH_take (i := 20) (some 38) (v := _) rfl rfl (by kernel_rfl) (by kernel_rfl) (by kernel_rfl) (fun _ _ _ h => h) (by rfl) (HS3.out) (by intro w hSw; obtain ⟨q0, q1, q2, q3, q4, -, -, -, -, -⟩ := AgAt.cells (t := t) hSw; go_simp; try with_reducible rfl) ?_
      (try simp only [Act.put, List.setIfInBounds_toArray, List.set_cons_zero, List.set_cons_succ])
      refine anyH_take (i := 21) (some 39) (v := _) rfl rfl (by kernel_rfl) (by kernel_rfl) (by kernel_rfl) (fun _ _ _ h => h) (by rfl) (HS3.out) (by intro w hSw; obtain ⟨q0, q1, q2, q3, q4, -, -, -, -, -⟩ := AgAt.cells (t := t) hSw; go_simp; try with_reducible rfl) ?_
      (try simp only [Act.put, List.setIfInBounds_toArray, List.set_cons_zero, List.set_cons_succ])
      refine anyH_take (i := 22) (some 40) (v := _) rfl rfl (by kernel_rfl) (by kernel_rfl) (by kernel_rfl) (fun _ _ _ h => h) (by rfl) (HS3.out) (by intro w hSw; obtain ⟨q0, q1, q2, q3, q4, -, -, -, -, -⟩ := AgAt.cells (t := t) hSw; go_simp; try with_reducible rfl) ?_
      (try simp only [Act.put, List.setIfInBounds_toArray, List.set_cons_zero, List.set_cons_succ])
      refine wpAnyH_done (by kernel_rfl) ?_ _
      go_wp2_with fail
      go_meet
      exact ⟨rfl, HB3.out⟩
    · have tn : decide (t.n < 1) = false := decide_eq_false hn
      have tn2 : decide (1 ≤ t.n) = true := decide_eq_true (by omega)
      obtain ⟨q, hq⟩ : ∃ q, q = decide (t.lo ≤ t.hi) := ⟨_, rfl⟩
      rw [show rightA t = q by unfold rightA; rw [decide_eq_true (by omega), hq]; rfl] at HRI
      have tq : decide (t.lo ≤ t.hi) = q := hq.symm
      clear hn hq
      refine wp_region_held_drew (S := fun W => AgAt W P t) (by kernel_rfl) HS1.out.drew (fun _ => ?_)
      refine anyH_take (i := 0) (some 18) (v := _) rfl rfl (by kernel_rfl) (by kernel_rfl) (by kernel_rfl) (fun _ _ _ h => h) (by rfl) (HS1.out.drew) (by intro w hSw; obtain ⟨q0, q1, q2, q3, q4, -, -, -, -, -⟩ := AgAt.cells (t := t) hSw; go_simp; try with_reducible rfl) ?_
      (try simp only [Act.put, List.setIfInBounds_toArray, List.set_cons_zero, List.set_cons_succ])
      refine anyH_take (i := 1) (some 19) (v := _) rfl rfl (by kernel_rfl) (by kernel_rfl) (by kernel_rfl) (fun _ _ _ h => h) (by rfl) (HS1.out.drew) (by intro w hSw; obtain ⟨q0, q1, q2, q3, q4, -, -, -, -, -⟩ := AgAt.cells (t := t) hSw; go_simp; try with_reducible rfl) ?_
      (try simp only [Act.put, List.setIfInBounds_toArray, List.set_cons_zero, List.set_cons_succ])
      refine anyH_take (i := 2) (some 20) (v := _) rfl rfl (by kernel_rfl) (by kernel_rfl) (by kernel_rfl) (fun _ _ _ h => h) (by rfl) (HS1.out.drew) (by intro w hSw; obtain ⟨q0, q1, q2, q3, q4, -, -, -, -, -⟩ := AgAt.cells (t := t) hSw; go_simp; try with_reducible rfl) ?_
      (try simp only [Act.put, List.setIfInBounds_toArray, List.set_cons_zero, List.set_cons_succ])
      refine anyH_take (i := 3) (some 21) (v := _) rfl rfl (by kernel_rfl) (by kernel_rfl) (by kernel_rfl) (fun _ _ _ h => h) (by rfl) (HS1.out.drew) (by intro w hSw; obtain ⟨q0, q1, q2, q3, q4, -, -, -, -, -⟩ := AgAt.cells (t := t) hSw; go_simp; try with_reducible rfl) ?_
      (try simp only [Act.put, List.setIfInBounds_toArray, List.set_cons_zero, List.set_cons_succ])
      refine anyH_skip (i := 4) (some 22) rfl rfl (by kernel_rfl) (by kernel_rfl) (by kernel_rfl) (fun _ _ _ h => h) (by rfl) (HS1.out.drew) ?_
      (try simp only [Act.put, List.setIfInBounds_toArray, List.set_cons_zero, List.set_cons_succ])
      refine anyH_skip (i := 5) (some 23) rfl rfl (by kernel_rfl) (by kernel_rfl) (by kernel_rfl) (fun _ _ _ h => h) (by rfl) (HS1.out.drew) ?_
      (try simp only [Act.put, List.setIfInBounds_toArray, List.set_cons_zero, List.set_cons_succ])
      refine anyH_skip (i := 6) (some 24) rfl rfl (by kernel_rfl) (by kernel_rfl) (by kernel_rfl) (fun _ _ _ h => h) (by rfl) (HS1.out.drew) ?_
      (try simp only [Act.put, List.setIfInBounds_toArray, List.set_cons_zero, List.set_cons_succ])
      refine anyH_take (i := 7) (some 25) (v := _) rfl rfl (by kernel_rfl) (by kernel_rfl) (by kernel_rfl) (fun _ _ _ h => h) (by rfl) (HS1.out.drew) (by intro w hSw; obtain ⟨q0, q1, q2, q3, q4, -, -, -, -, -⟩ := AgAt.cells (t := t) hSw; go_simp; try with_reducible rfl) ?_
      (try simp only [Act.put, List.setIfInBounds_toArray, List.set_cons_zero, List.set_cons_succ])
      refine anyH_take (i := 8) (some 26) (v := _) rfl rfl (by kernel_rfl) (by kernel_rfl) (by kernel_rfl) (fun _ _ _ h => h) (by rfl) (HS1.out.drew) (by intro w hSw; obtain ⟨q0, q1, q2, q3, q4, -, -, -, -, -⟩ := AgAt.cells (t := t) hSw; go_simp; try with_reducible rfl) ?_
      (try simp only [Act.put, List.setIfInBounds_toArray, List.set_cons_zero, List.set_cons_succ])
      refine anyH_take (i := 9) (some 27) (v := _) rfl rfl (by kernel_rfl) (by kernel_rfl) (by kernel_rfl) (fun _ _ _ h => h) (by rfl) (HS1.out.drew) (by intro w hSw; obtain ⟨q0, q1, q2, q3, q4, -, -, -, -, -⟩ := AgAt.cells (t := t) hSw; go_simp; try with_reducible rfl) ?_
      (try simp only [Act.put, List.setIfInBounds_toArray, List.set_cons_zero, List.set_cons_succ])
      refine anyH_take (i := 11) (some 29) (v := _) rfl rfl (by kernel_rfl) (by kernel_rfl) (by kernel_rfl) (fun _ _ _ h => h) (by rfl) (HS1.out.drew) (by intro w hSw; obtain ⟨q0, q1, q2, q3, q4, -, -, -, -, -⟩ := AgAt.cells (t := t) hSw; go_simp; try with_reducible rfl) ?_
      (try simp only [Act.put, List.setIfInBounds_toArray, List.set_cons_zero, List.set_cons_succ])
      refine anyH_take (i := 12) (some 30) (v := _) rfl rfl (by kernel_rfl) (by kernel_rfl) (by kernel_rfl) (fun _ _ _ h => h) (by rfl) (HS1.out.drew) (by intro w hSw; obtain ⟨q0, q1, q2, q3, q4, -, -, -, -, -⟩ := AgAt.cells (t := t) hSw; go_simp; try with_reducible rfl) ?_
      (try simp only [Act.put, List.setIfInBounds_toArray, List.set_cons_zero, List.set_cons_succ])
      refine anyH_take (i := 13) (some 31) (v := _) rfl rfl (by kernel_rfl) (by kernel_rfl) (by kernel_rfl) (fun _ _ _ h => h) (by rfl) (HS1.out.drew) (by intro w hSw; obtain ⟨q0, q1, q2, q3, q4, -, -, -, -, -⟩ := AgAt.cells (t := t) hSw; go_simp; try with_reducible rfl) ?_
      (try simp only [Act.put, List.setIfInBounds_toArray, List.set_cons_zero, List.set_cons_succ])
      refine wpAnyH_ready (rs := [10]) (by kernel_rfl) (by simp) (AllReadyH.cons rfl (fun K hK => ?_) AllReadyH.nil)
      go_simp
      refine (HRI.out W1.drew).mono ?_
      rintro e W2 ⟨rfl, hb⟩; replace hb := below_undrew hb
      have HS2 := Lib.hid (HS1.out.keep hb)
      have HB2 := Lib.hid (HB1.out.trans (hb.mono HB1.out.size))
      clear hb
      go_wp2_with fail
      refine hK.out _ _ (HS2.out) (fun _ => ?_)
      clear hK K
      (try simp only [Act.put, List.setIfInBounds_toArray, List.set_cons_zero, List.set_cons_succ])
      refine anyH_take (i := 14) (some 32) (v := _) rfl rfl (by kernel_rfl) (by kernel_rfl) (by kernel_rfl) (fun _ _ _ h => h) (by rfl) (HS2.out) (by intro w hSw; obtain ⟨q0, q1, q2, q3, q4, -, -, -, -, -⟩ := AgAt.cells (t := t) hSw; go_simp; try with_reducible rfl) ?_
      (try simp only [Act.put, List.setIfInBounds_toArray, List.set_cons_zero, List.set_cons_succ])
      refine anyH_take (i := 15) (some 33) (v := _) rfl rfl (by kernel_rfl) (by kernel_rfl) (by kernel_rfl) (fun _ _ _ h => h) (by rfl) (HS2.out) (by intro w hSw; obtain ⟨q0, q1, q2, q3, q4, -, -, -, -, -⟩ := AgAt.cells (t := t) hSw; go_simp; try with_reducible rfl) ?_
      (try simp only [Act.put, List.setIfInBounds_toArray, List.set_cons_zero, List.set_cons_succ])
      refine anyH_take (i := 16) (some 34) (v := _) rfl rfl (by kernel_rfl) (by kernel_rfl) (by kernel_rfl) (fun _ _ _ h => h) (by rfl) (HS2.out) (by intro w hSw; obtain ⟨q0, q1, q2, q3, q4, -, -, -, -, -⟩ := AgAt.cells (t := t) hSw; go_simp; try with_reducible rfl) ?_
      (try simp only [Act.put, List.setIfInBounds_toArray, List.set_cons_zero, List.set_cons_succ])
      refine anyH_take (i := 17) (some 35) (v := _) rfl rfl (by kernel_rfl) (by kernel_rfl) (by kernel_rfl) (fun _ _ _ h => h) (by rfl) (HS2.out) (by intro w hSw; obtain ⟨q0, q1, q2, q3, q4, -, -, -, -, -⟩ := AgAt.cells (t := t) hSw; go_simp; try with_reducible rfl) ?_
      (try simp only [Act.put, List.setIfInBounds_toArray, List.set_cons_zero, List.set_cons_succ])
      refine anyH_take (i := 18) (some 36) (v := _) rfl rfl (by kernel_rfl) (by kernel_rfl) (by kernel_rfl) (fun _ _ _ h => h) (by rfl) (HS2.out) (by intro w hSw; obtain ⟨q0, q1, q2, q3, q4, -, -, -, -, -⟩ := AgAt.cells (t := t) hSw; go_simp; try with_reducible rfl) ?_
      (try simp only [Act.put, List.setIfInBounds_toArray, List.set_cons_zero, List.set_cons_succ])
      refine anyH_take (i := 19) (some 37) (v := _) rfl rfl (by kernel_rfl) (by kernel_rfl) (by kernel_rfl) (fun _ _ _ h => h) (by rfl) (HS2.out) (by intro w hSw; obtain ⟨q0, q1, q2, q3, q4, -, -, -, -, -⟩ := AgAt.cells (t := t) hSw; go_simp; try with_reducible rfl) ?_
      (try simp only [Act.put, List.setIfInBounds_toArray, List.set_cons_zero, List.set_cons_succ])
      refine anyH_take (i := 20) (some 38) (v := _) rfl rfl (by kernel_rfl) (by kernel_rfl) (by kernel_rfl) (fun _ _ _ h => h) (by rfl) (HS2.out) (by intro w hSw; obtain ⟨q0, q1, q2, q3, q4, -, -, -, -, -⟩ := AgAt.cells (t := t) hSw; go_simp; try with_reducible rfl) ?_
      (try simp only [Act.put, List.setIfInBounds_toArray, List.set_cons_zero, List.set_cons_succ])
      refine anyH_take (i := 21) (some 39) (v := _) rfl rfl (by kernel_rfl) (by kernel_rfl) (by kernel_rfl) (fun _ _ _ h => h) (by rfl) (HS2.out) (by intro w hSw; obtain ⟨q0, q1, q2, q3, q4, -, -, -, -, -⟩ := AgAt.cells (t := t) hSw; go_simp; try with_reducible rfl) ?_
      (try simp only [Act.put, List.setIfInBounds_toArray, List.set_cons_zero, List.set_cons_succ])
      refine anyH_take (i := 22) (some 40) (v := _) rfl rfl (by kernel_rfl) (by kernel_rfl) (by kernel_rfl) (fun _ _ _ h => h) (by rfl) (HS2.out) (by intro w hSw; obtain ⟨q0, q1, q2, q3, q4, -, -, -, -, -⟩ := AgAt.cells (t := t) hSw; go_simp; try with_reducible rfl) ?_
      (try simp only [Act.put, List.setIfInBounds_toArray, List.set_cons_zero, List.set_cons_succ])
      refine wpAnyH_done (by kernel_rfl) ?_ _
      go_wp2_with fail
      go_meet
      exact ⟨rfl, HB2.out⟩
  case rest =>
    obtain ⟨rfl, hb⟩ := hcut
  -- behind region 3
    obtain ⟨W3, hW3⟩ : ∃ W3, W3 = wc := ⟨_, rfl⟩
    subst hW3
    have HB3 := Lib.hid hb
    clear hb HME HRI HP1 HS1 HB1
    go_wp2_with fail
    go_loopw [43] (fun c wr => ∃ j : Nat, j ≤ l.length ∧ c = .int .i64 j ∧ SmallV 1125899906842624 (l.take j) ∧ Below w.heap.size w wr) (fun c _ => l.length - (intOf c).toNat)
    case atStart => exact ⟨0, Nat.zero_le _, rfl, fun p hp => by simp at hp, HB3.out⟩
    case round =>
      obtain ⟨j, hj, rfl, hs, hb⟩ := hrel
      obtain ⟨W4, hW4⟩ : ∃ W4, W4 = wr := ⟨_, rfl⟩
      subst hW4
      have HSM := Lib.hid hs
      have HB4 := Lib.hid hb
      have HP4 := Lib.hid (HP.out.beyond hb)
      clear hs hb HB3
      by_cases hlt : j < l.length
      · have ea := HADR.out (by intro h; simp [h] at hlt)
        subst ea
        obtain ⟨p, hp⟩ : ∃ p, l[j]? = some p := ⟨l[j], List.getElem?_eq_getElem hlt⟩
        obtain ⟨c0, c1⟩ := HP4.out j p hp
        have HPK := Lib.hid hp
        clear hp
        go_upto_region 8 with fail
        refine wp_name fun W5 hW5 => ?_
        obtain ⟨M, hM⟩ : ∃ M, M = W4.heap.size := ⟨_, rfl⟩
        have hb5 : Below W4.heap.size W4 W5 := by rw [hW5.out]; exact (Below.refl _ _).alloc (Nat.le_refl _) _
        have HB5 := Lib.hid (HB4.out.trans (hb5.mono HB4.out.size))
        have p1 : W5.cell? ⟨M, 1, none⟩ = some (.int .i64 p.v) := by rw [hW5.out, hM]; exact (cells2 (heap_alloc_new W4 _)).2.1
        rw [← hM]
        clear hb5 hW5 hM c0 c1 HP4 HB4
        by_cases hbig : 1125899906842624 < p.v
        · have tb : decide (1125899906842624 < p.v) = true := decide_eq_true hbig
          clear hbig
          go_wp2
          go_ret
          exact ⟨rfl, HB5.out⟩
        · have tb : decide (1125899906842624 < p.v) = false := decide_eq_false hbig
          by_cases hlow : p.v < -1125899906842624
          · have tl : decide (p.v < -1125899906842624) = true := decide_eq_true hlow
            clear hbig hlow
            go_wp2
            go_ret
            exact ⟨rfl, HB5.out⟩
          · have tl : decide (p.v < -1125899906842624) = false := decide_eq_false hlow
            have HSN : Hid (SmallV 1125899906842624 (l.take (j + 1))) := Lib.hid fun q hq => by
              rw [take_snoc HPK.out] at hq
              rcases List.mem_append.1 hq with h | h
              · exact HSM.out q h
              · rw [List.mem_singleton.1 h]; omega
            clear hbig hlow
            go_wp2
            go_roundw
            case rel => exact ⟨j + 1, by omega, by go_num, HSN.out, HB5.out⟩
            case measure => simp [intOf]; omega
      · obtain rfl : j = l.length := by omega
        have HSA : Hid (SmallV 1125899906842624 l) := Lib.hid (by have h := HSM.out; rwa [List.take_of_length_le (Nat.le_refl _)] at h)
        have hcall := roof_any (k := 0) (by omega) (by omega) (HV.out.beyond HB4.out) HF.out (by omega)
        obtain ⟨S, hS⟩ : ∃ S, S = !l.isEmpty := ⟨_, rfl⟩
        rw [← hS] at hcall
        obtain ⟨R, hR⟩ : ∃ R, R = ofR 0 l := ⟨_, rfl⟩
        rw [← hR] at hcall
        have HRE := Lib.hid hR
        have HSE := Lib.hid hS
        have HRF : Hid R.fits := Lib.hid (by
          rw [hR]; unfold ofR
          split
          · exact ⟨by decide, by decide, by decide, by decide, by decide, by decide, by decide, by decide, by decide, by decide⟩
          · exact ofA_fits (by omega) (by omega) HF.out (by omega))
        have HC := Lib.hid hcall
        clear hcall hS hR HSM HP4
        go_wp2_with fail
        refine (HC.out).mono ?_
        rintro e W5 ⟨rfl, hb⟩
        have HB5 := Lib.hid (HB4.out.trans (hb.mono HB4.out.size))
        clear hb HC HB4
        dsimp only
        unfold agV
        go_upto_region 12 with fail
        refine wp_name fun W6 hW6 => ?_
        obtain ⟨M, hM⟩ : ∃ M, M = W5.heap.size := ⟨_, rfl⟩
        have hb6 : Below W5.heap.size W5 W6 := by rw [hW6.out]; exact (Below.refl _ _).alloc (Nat.le_refl _) _
        have HM6 : Hid (AgAt W6 M R) := Lib.hid (by rw [hW6.out, hM]; exact AgAt.new W5 R)
        have HB6 := Lib.hid (HB5.out.trans (hb6.mono HB5.out.size))
        rw [← hM]
        clear hb6 hW6 hM HB5
        obtain ⟨c0, c1, c2, c3, c4, -, -, -, -, -⟩ := HM6.out.cells
        go_wp2_with fail
        refine (romean_any W6 HRF.out).mono ?_
        rintro e W7 ⟨rfl, hb⟩
        have HM7 := Lib.hid (HM6.out.keep hb)
        have HB7 := Lib.hid (HB6.out.trans (hb.mono HB6.out.size))
        clear hb HB6 HM6 c0 c1 c2 c3 c4
        dsimp only
        obtain ⟨c0, c1, c2, c3, c4, -, -, -, -, -⟩ := HM7.out.cells
        obtain ⟨Z, hZ⟩ : ∃ Z, Z = meanA R := ⟨_, rfl⟩
        rw [← hZ]
        have HZ := Lib.hid hZ
        clear hZ
        by_cases hl : l = []
        · obtain rfl : S = false := by rw [HSE.out, hl]; rfl
          clear hl
          go_wp2
          go_ret
          exact ⟨rfl, HB7.out⟩
        · obtain rfl : S = true := by
            rw [HSE.out]
            cases l with
            | nil => exact absurd rfl hl
            | cons => rfl
          obtain ⟨⟨t1, z1⟩, m1, h1, h2, h3, h4, h5, h6, h7, h8, h9, h10, h11⟩ := mean_of hl HSA.out hl60
          simp only at h1 h2 h3 h4 h5 h6 h7 h8 h9 h10 h11
          have hRt : t1 = R := by rw [h1, HRE.out]; unfold ofR; rw [if_neg hl]
          subst hRt
          obtain rfl : z1 = Z := by rw [h3, HZ.out]
          have b1 : -67553994410557440 ≤ z1 * t1.n ∧ z1 * t1.n ≤ 67553994410557440 := small_mul h4 h5 h6 h7
          have b2 : -67553994410557441 ≤ (z1 + 1) * t1.n ∧ (z1 + 1) * t1.n ≤ 67553994410557500 := by rw [Int.add_mul]; omega
          have w1 : wrap64 (z1 * t1.n) = z1 * t1.n := by first | (apply wrap64_id <;> omega) | (unfold wrap64; omega)
          have w2 : wrap64 (z1 + 1) = z1 + 1 := by first | (apply wrap64_id <;> omega) | (unfold wrap64; omega)
          have w3 : wrap64 ((z1 + 1) * t1.n) = (z1 + 1) * t1.n := by first | (apply wrap64_id <;> omega) | (unfold wrap64; omega)
          have d1 : decide (z1 * t1.n ≤ t1.s) = true := decide_eq_true h8
          have d2 : decide (t1.s < (z1 + 1) * t1.n) = true := decide_eq_true h9
          have d3 : decide (t1.lo ≤ z1) = true := decide_eq_true h10
          have d4 : decide (z1 ≤ t1.hi) = true := decide_eq_true h11
          clear hl h1 h2 h3 h4 h5 h6 h7 h8 h9 h10 h11 b1 b2
          go_wp2
          go_ret
          exact ⟨rfl, HB7.out⟩
end Go.Proofs.Ytdmlolagpbobeaa
