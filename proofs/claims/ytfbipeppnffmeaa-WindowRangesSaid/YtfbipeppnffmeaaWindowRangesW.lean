/- WindowRanges, walked. Written by py/window-ranges.py. -/
import Derived.Test.YtfbipeppnffmeaaWiLives
import Derived.StillTailTactics
import Derived.Deep.DeepCutAuto
namespace Go.Proofs.Ytfbipeppnffmeaa
open Go.RowKit

/-- the law's three variables -/
def SitR (W : World) (P : Nat) (a0 a1 b0 b1 x : Int) : Prop := RgAt W P a0 a1 ∧ RgAt W (P + 1) b0 b1 ∧ W.heap[P + 1 + 1]? = some (.cells #[.int .i64 x] 2 (0, 0))
theorem SitR.keep {W W' : World} {P : Nat} {a0 a1 b0 b1 x : Int} (h : SitR W P a0 a1 b0 b1 x) (hb : Below W.heap.size W W') : SitR W' P a0 a1 b0 b1 x := ⟨h.1.keep hb, h.2.1.keep hb, (hb.block _ (lt_of_block h.2.2)).trans h.2.2⟩
theorem SitR.drew {W : World} {P : Nat} {a0 a1 b0 b1 x : Int} (h : SitR W P a0 a1 b0 b1 x) : SitR W.drew P a0 a1 b0 b1 x := h
theorem SitR.cells {W : World} {P : Nat} {a0 a1 b0 b1 x : Int} (h : SitR W P a0 a1 b0 b1 x) : W.cell? ⟨P, 0, none⟩ = some (.int .i64 a0) ∧ W.cell? ⟨P, 1, none⟩ = some (.int .i64 a1) ∧ W.cell? ⟨P + 1, 0, none⟩ = some (.int .i64 b0) ∧ W.cell? ⟨P + 1, 1, none⟩ = some (.int .i64 b1) ∧ W.cell? ⟨P + 1 + 1, 0, none⟩ = some (.int .i64 x) :=
  ⟨h.1.cells.1, h.1.cells.2.1, h.2.1.cells.1, h.2.1.cells.2.1, by rw [cell_of_row W _ 0 _ _ _ h.2.2]; rfl⟩
set_option maxHeartbeats 4000000 in
/-- the law's own 'in' -/
theorem lin_any (w : World) (a b x : Int) (Q : Nat) (hQ : w.heap[Q]? = some (.cells #[.int .i64 x] 2 (0, 0))) :
    Calls Try.prog 13 #[.agg #[.int .i64 a, .int .i64 b], .pointer (some ⟨Q, 0, none⟩)] w fun e w' => e = .returned (.bool (inR a b x)) ∧ Below w.heap.size w w' := by
  have HR : Hid (inR a b x = (decide (a ≤ x) && decide (x < b))) := Lib.hid rfl
  have hlt : Q < w.heap.size := lt_of_block hQ
  have hne : ¬ w.heap.size = Q := by omega
  have hne' : ¬ Q = w.heap.size := by omega
  have d0 : (w.alloc (.cells #[.int .i64 a, .int .i64 b] 25)).cell? ⟨Q, 0, none⟩ = some (.int .i64 x) := by
    rw [cell_of_row _ Q 0 _ _ _ ((Below.heap_alloc _ _ _ hlt).trans hQ)]; rfl
  clear hQ hlt
  by_cases h0 : a ≤ x
  · have t0 : decide (a ≤ x) = true := decide_eq_true h0
    clear h0
    go_enter Try.func13, Try.ntmps13
    repeat (first | go_values | go_skip | go_guarded | go_step | go_upon)
    go_ret
    exact ⟨by rw [HR.out, t0]; rfl, (Below.refl _ _).alloc (Nat.le_refl _) _⟩
  · have t0 : decide (a ≤ x) = false := decide_eq_false h0
    clear h0
    go_enter Try.func13, Try.ntmps13
    repeat (first | go_values | go_skip | go_guarded | go_step | go_upon)
    go_ret
    exact ⟨by rw [HR.out, t0]; rfl, (Below.refl _ _).alloc (Nat.le_refl _) _⟩
set_option maxHeartbeats 16000000 in
set_option maxRecDepth 1000000 in
theorem windowRanges_walk {a0 a1 b0 b1 x : Int} (_h0 : -9223372036854775808 ≤ a0 ∧ a0 ≤ 9223372036854775807) (_h1 : -9223372036854775808 ≤ a1 ∧ a1 ≤ 9223372036854775807) (_h2 : -9223372036854775808 ≤ b0 ∧ b0 ≤ 9223372036854775807) (_h3 : -9223372036854775808 ≤ b1 ∧ b1 ≤ 9223372036854775807) (_h4 : -9223372036854775808 ≤ x) (_h5 : x ≤ 9223372036854775807) (w : World) :
    Calls Try.prog 4 #[.agg #[.int .i64 a0, .int .i64 a1], .agg #[.int .i64 b0, .int .i64 b1], .int .i64 x] w fun e w' => e = .returned (.bool true) ∧ Below w.heap.size w w' := by
  obtain ⟨R, hR⟩ : ∃ R, R = rightR a0 a1 := ⟨_, rfl⟩
  obtain ⟨I, hI⟩ : ∃ I, I = inR a0 a1 x := ⟨_, rfl⟩
  have HRI : Hid (∀ W, Calls Try.prog 14 #[.agg #[.int .i64 a0, .int .i64 a1]] W fun e w' => e = .returned (.bool R) ∧ Below W.heap.size W w') := Lib.hid fun W => by rw [hR]; exact wiright_any W a0 a1
  have HIN : Hid (∀ W, Calls Try.prog 15 #[.agg #[.int .i64 a0, .int .i64 a1], .int .i64 x] W fun e w' => e = .returned (.bool I) ∧ Below W.heap.size W w') := Lib.hid fun W => by rw [hI]; exact wiin_any W a0 a1 x
  have HRD : Hid (R = (decide (0 ≤ a0) && decide (a0 < a1) && decide (a1 ≤ 1099511627777))) := Lib.hid hR
  clear hR
  go_enter Try.func4, Try.ntmps4
  repeat (first | go_values | go_skip | go_guarded | go_step)
  refine calls_name ?_
  intro W0 hW0
  obtain ⟨P, hP⟩ : ∃ P, P = w.heap.size := ⟨_, rfl⟩
  have e1 : (w.alloc (.cells #[.int .i64 a0, .int .i64 a1] 25)).heap.size = P + 1 := by rw [hP]; simp
  have e2 : ((w.alloc (.cells #[.int .i64 a0, .int .i64 a1] 25)).alloc (.cells #[.int .i64 b0, .int .i64 b1] 25)).heap.size = P + 1 + 1 := by rw [hP]; simp
  have HS0 : Hid (SitR W0 P a0 a1 b0 b1 x) := Lib.hid ⟨by rw [hW0.out, hP]; exact ((RgAt.new w _ _).old _).old _, by rw [hW0.out, ← e1]; exact (RgAt.new _ _ _).old _, by rw [hW0.out, ← e2]; exact heap_alloc_new _ _⟩
  have HB0 : Hid (Below w.heap.size w W0) := Lib.hid (by rw [hW0.out]; exact (((Below.refl _ _).alloc (Nat.le_refl _) _).alloc (by simp) _).alloc (by simp; omega) _)
  rw [← hP]
  clear hW0 hP e1 e2
  refine (wilives_any W0).mono ?_
  rintro e W1 ⟨rfl, hb⟩
  have HS1 := Lib.hid (HS0.out.keep hb)
  have HB1 := Lib.hid (HB0.out.trans (hb.mono HB0.out.size))
  clear hb HS0 HB0
  dsimp only
  go_upto_region 4 with fail
  go_cut [41] (fun s41 W => s41 = .bool false ∧ SitR W P a0 a1 b0 b1 x ∧ Below w.heap.size w W)
  case first =>
    by_cases h0 : 0 ≤ a0
    · have t0 : decide (0 ≤ a0) = true := decide_eq_true h0
      by_cases h1 : a0 < a1
      · have t1 : decide (a0 < a1) = true := decide_eq_true h1
        obtain rfl : R = decide (a1 ≤ 1099511627777) := by rw [HRD.out, t0, t1]; rfl
        clear h0 h1 HRD
        refine wp_region_held_drew (S := fun W => SitR W P a0 a1 b0 b1 x) (by kernel_rfl) HS1.out.drew (fun _ => ?_)
        refine anyH_take (i := 0) (some 15) (v := _) rfl rfl (by kernel_rfl) (by kernel_rfl) (by kernel_rfl) (fun _ _ _ h => h) (by rfl) (HS1.out.drew) (by intro w hSw; obtain ⟨q0, q1, q2, q3, q4⟩ := hSw.cells; go_simp; try with_reducible rfl) ?_
        (try simp only [Act.put, List.setIfInBounds_toArray, List.set_cons_zero, List.set_cons_succ])
        refine anyH_take (i := 2) (some 17) (v := _) rfl rfl (by kernel_rfl) (by kernel_rfl) (by kernel_rfl) (fun _ _ _ h => h) (by rfl) (HS1.out.drew) (by intro w hSw; obtain ⟨q0, q1, q2, q3, q4⟩ := hSw.cells; go_simp; try with_reducible rfl) ?_
        (try simp only [Act.put, List.setIfInBounds_toArray, List.set_cons_zero, List.set_cons_succ])
        refine anyH_take (i := 3) (some 18) (v := _) rfl rfl (by kernel_rfl) (by kernel_rfl) (by kernel_rfl) (fun _ _ _ h => h) (by rfl) (HS1.out.drew) (by intro w hSw; obtain ⟨q0, q1, q2, q3, q4⟩ := hSw.cells; go_simp; try with_reducible rfl) ?_
        (try simp only [Act.put, List.setIfInBounds_toArray, List.set_cons_zero, List.set_cons_succ])
        refine anyH_take (i := 4) (some 19) (v := _) rfl rfl (by kernel_rfl) (by kernel_rfl) (by kernel_rfl) (fun _ _ _ h => h) (by rfl) (HS1.out.drew) (by intro w hSw; obtain ⟨q0, q1, q2, q3, q4⟩ := hSw.cells; go_simp; try with_reducible rfl) ?_
        (try simp only [Act.put, List.setIfInBounds_toArray, List.set_cons_zero, List.set_cons_succ])
        refine wpAnyH_ready (rs := [1]) (by kernel_rfl) (by simp) (AllReadyH.cons rfl (fun K hK => ?_) AllReadyH.nil)
        go_simp
        refine (HRI.out W1.drew).mono ?_
        rintro e W2 ⟨rfl, hb⟩; replace hb := below_undrew hb
        have HS2 := Lib.hid (HS1.out.keep hb)
        have HB2 := Lib.hid (HB1.out.trans (hb.mono HB1.out.size))
        clear hb
        go_wp2_with fail
        refine hK.out _ _ (HS2.out) (fun _ => ?_)
        clear hK K
        (try simp only [Act.put, List.setIfInBounds_toArray, List.set_cons_zero, List.set_cons_succ])
        refine anyH_take (i := 5) (some 20) (v := _) rfl rfl (by kernel_rfl) (by kernel_rfl) (by kernel_rfl) (fun _ _ _ h => h) (by rfl) (HS2.out) (by intro w hSw; obtain ⟨q0, q1, q2, q3, q4⟩ := hSw.cells; go_simp; try with_reducible rfl) ?_
        (try simp only [Act.put, List.setIfInBounds_toArray, List.set_cons_zero, List.set_cons_succ])
        refine anyH_take (i := 6) (some 21) (v := _) rfl rfl (by kernel_rfl) (by kernel_rfl) (by kernel_rfl) (fun _ _ _ h => h) (by rfl) (HS2.out) (by intro w hSw; obtain ⟨q0, q1, q2, q3, q4⟩ := hSw.cells; go_simp; try with_reducible rfl) ?_
        (try simp only [Act.put, List.setIfInBounds_toArray, List.set_cons_zero, List.set_cons_succ])
        refine anyH_take (i := 7) (some 22) (v := _) rfl rfl (by kernel_rfl) (by kernel_rfl) (by kernel_rfl) (fun _ _ _ h => h) (by rfl) (HS2.out) (by intro w hSw; obtain ⟨q0, q1, q2, q3, q4⟩ := hSw.cells; go_simp; try with_reducible rfl) ?_
        (try simp only [Act.put, List.setIfInBounds_toArray, List.set_cons_zero, List.set_cons_succ])
        refine anyH_take (i := 8) (some 23) (v := _) rfl rfl (by kernel_rfl) (by kernel_rfl) (by kernel_rfl) (fun _ _ _ h => h) (by rfl) (HS2.out) (by intro w hSw; obtain ⟨q0, q1, q2, q3, q4⟩ := hSw.cells; go_simp; try with_reducible rfl) ?_
        (try simp only [Act.put, List.setIfInBounds_toArray, List.set_cons_zero, List.set_cons_succ])
        refine anyH_take (i := 9) (some 24) (v := _) rfl rfl (by kernel_rfl) (by kernel_rfl) (by kernel_rfl) (fun _ _ _ h => h) (by rfl) (HS2.out) (by intro w hSw; obtain ⟨q0, q1, q2, q3, q4⟩ := hSw.cells; go_simp; try with_reducible rfl) ?_
        (try simp only [Act.put, List.setIfInBounds_toArray, List.set_cons_zero, List.set_cons_succ])
        refine anyH_take (i := 10) (some 25) (v := _) rfl rfl (by kernel_rfl) (by kernel_rfl) (by kernel_rfl) (fun _ _ _ h => h) (by rfl) (HS2.out) (by intro w hSw; obtain ⟨q0, q1, q2, q3, q4⟩ := hSw.cells; go_simp; try with_reducible rfl) ?_
        (try simp only [Act.put, List.setIfInBounds_toArray, List.set_cons_zero, List.set_cons_succ])
        refine anyH_take (i := 11) (some 26) (v := _) rfl rfl (by kernel_rfl) (by kernel_rfl) (by kernel_rfl) (fun _ _ _ h => h) (by rfl) (HS2.out) (by intro w hSw; obtain ⟨q0, q1, q2, q3, q4⟩ := hSw.cells; go_simp; try with_reducible rfl) ?_
        (try simp only [Act.put, List.setIfInBounds_toArray, List.set_cons_zero, List.set_cons_succ])
        refine anyH_take (i := 12) (some 27) (v := _) rfl rfl (by kernel_rfl) (by kernel_rfl) (by kernel_rfl) (fun _ _ _ h => h) (by rfl) (HS2.out) (by intro w hSw; obtain ⟨q0, q1, q2, q3, q4⟩ := hSw.cells; go_simp; try with_reducible rfl) ?_
        (try simp only [Act.put, List.setIfInBounds_toArray, List.set_cons_zero, List.set_cons_succ])
        refine anyH_take (i := 13) (some 28) (v := _) rfl rfl (by kernel_rfl) (by kernel_rfl) (by kernel_rfl) (fun _ _ _ h => h) (by rfl) (HS2.out) (by intro w hSw; obtain ⟨q0, q1, q2, q3, q4⟩ := hSw.cells; go_simp; try with_reducible rfl) ?_
        (try simp only [Act.put, List.setIfInBounds_toArray, List.set_cons_zero, List.set_cons_succ])
        refine anyH_take (i := 14) (some 29) (v := _) rfl rfl (by kernel_rfl) (by kernel_rfl) (by kernel_rfl) (fun _ _ _ h => h) (by rfl) (HS2.out) (by intro w hSw; obtain ⟨q0, q1, q2, q3, q4⟩ := hSw.cells; go_simp; try with_reducible rfl) ?_
        (try simp only [Act.put, List.setIfInBounds_toArray, List.set_cons_zero, List.set_cons_succ])
        refine anyH_take (i := 15) (some 30) (v := _) rfl rfl (by kernel_rfl) (by kernel_rfl) (by kernel_rfl) (fun _ _ _ h => h) (by rfl) (HS2.out) (by intro w hSw; obtain ⟨q0, q1, q2, q3, q4⟩ := hSw.cells; go_simp; try with_reducible rfl) ?_
        (try simp only [Act.put, List.setIfInBounds_toArray, List.set_cons_zero, List.set_cons_succ])
        refine anyH_take (i := 16) (some 31) (v := _) rfl rfl (by kernel_rfl) (by kernel_rfl) (by kernel_rfl) (fun _ _ _ h => h) (by rfl) (HS2.out) (by intro w hSw; obtain ⟨q0, q1, q2, q3, q4⟩ := hSw.cells; go_simp; try with_reducible rfl) ?_
        (try simp only [Act.put, List.setIfInBounds_toArray, List.set_cons_zero, List.set_cons_succ])
        refine anyH_take (i := 17) (some 32) (v := _) rfl rfl (by kernel_rfl) (by kernel_rfl) (by kernel_rfl) (fun _ _ _ h => h) (by rfl) (HS2.out) (by intro w hSw; obtain ⟨q0, q1, q2, q3, q4⟩ := hSw.cells; go_simp; try with_reducible rfl) ?_
        (try simp only [Act.put, List.setIfInBounds_toArray, List.set_cons_zero, List.set_cons_succ])
        refine anyH_take (i := 18) (some 33) (v := _) rfl rfl (by kernel_rfl) (by kernel_rfl) (by kernel_rfl) (fun _ _ _ h => h) (by rfl) (HS2.out) (by intro w hSw; obtain ⟨q0, q1, q2, q3, q4⟩ := hSw.cells; go_simp; try with_reducible rfl) ?_
        (try simp only [Act.put, List.setIfInBounds_toArray, List.set_cons_zero, List.set_cons_succ])
        refine anyH_take (i := 19) (some 34) (v := _) rfl rfl (by kernel_rfl) (by kernel_rfl) (by kernel_rfl) (fun _ _ _ h => h) (by rfl) (HS2.out) (by intro w hSw; obtain ⟨q0, q1, q2, q3, q4⟩ := hSw.cells; go_simp; try with_reducible rfl) ?_
        (try simp only [Act.put, List.setIfInBounds_toArray, List.set_cons_zero, List.set_cons_succ])
        refine anyH_take (i := 20) (some 35) (v := _) rfl rfl (by kernel_rfl) (by kernel_rfl) (by kernel_rfl) (fun _ _ _ h => h) (by rfl) (HS2.out) (by intro w hSw; obtain ⟨q0, q1, q2, q3, q4⟩ := hSw.cells; go_simp; try with_reducible rfl) ?_
        (try simp only [Act.put, List.setIfInBounds_toArray, List.set_cons_zero, List.set_cons_succ])
        refine anyH_take (i := 22) (some 37) (v := _) rfl rfl (by kernel_rfl) (by kernel_rfl) (by kernel_rfl) (fun _ _ _ h => h) (by rfl) (HS2.out) (by intro w hSw; obtain ⟨q0, q1, q2, q3, q4⟩ := hSw.cells; go_simp; try with_reducible rfl) ?_
        (try simp only [Act.put, List.setIfInBounds_toArray, List.set_cons_zero, List.set_cons_succ])
        refine anyH_take (i := 23) (some 38) (v := _) rfl rfl (by kernel_rfl) (by kernel_rfl) (by kernel_rfl) (fun _ _ _ h => h) (by rfl) (HS2.out) (by intro w hSw; obtain ⟨q0, q1, q2, q3, q4⟩ := hSw.cells; go_simp; try with_reducible rfl) ?_
        (try simp only [Act.put, List.setIfInBounds_toArray, List.set_cons_zero, List.set_cons_succ])
        refine wpAnyH_ready (rs := [21]) (by kernel_rfl) (by simp) (AllReadyH.cons rfl (fun K hK => ?_) AllReadyH.nil)
        go_simp
        refine (HIN.out W2).mono ?_
        rintro e W3 ⟨rfl, hb⟩
        have HS3 := Lib.hid (HS2.out.keep hb)
        have HB3 := Lib.hid (HB2.out.trans (hb.mono HB2.out.size))
        clear hb
        go_wp2_with fail
        refine hK.out _ _ (HS3.out) (fun _ => ?_)
        clear hK K
        (try simp only [Act.put, List.setIfInBounds_toArray, List.set_cons_zero, List.set_cons_succ])
        refine wpAnyH_ready (rs := [24]) (by kernel_rfl) (by simp) (AllReadyH.cons rfl (fun K hK => ?_) AllReadyH.nil)
        go_simp
        refine (lin_any W3 a0 a1 x (P + 1 + 1) HS3.out.2.2).mono ?_
        rintro e W4 ⟨rfl, hb⟩
        have HS4 := Lib.hid (HS3.out.keep hb)
        have HB4 := Lib.hid (HB3.out.trans (hb.mono HB3.out.size))
        clear hb
        go_wp2_with fail
        refine hK.out _ _ (HS4.out) (fun _ => ?_)
        clear hK K
        (try simp only [Act.put, List.setIfInBounds_toArray, List.set_cons_zero, List.set_cons_succ])
        refine anyH_take (i := 25) (some 40) (v := _) rfl rfl (by kernel_rfl) (by kernel_rfl) (by kernel_rfl) (fun _ _ _ h => h) (by rfl) (HS4.out) (by intro w hSw; obtain ⟨q0, q1, q2, q3, q4⟩ := hSw.cells; go_simp; try with_reducible rfl) ?_
        (try simp only [Act.put, List.setIfInBounds_toArray, List.set_cons_zero, List.set_cons_succ])
        refine anyH_take (i := 26) (some 41) (v := _) rfl rfl (by kernel_rfl) (by kernel_rfl) (by kernel_rfl) (fun _ _ _ h => h) (by rfl) (HS4.out) (by intro w hSw; obtain ⟨q0, q1, q2, q3, q4⟩ := hSw.cells; go_simp; try with_reducible rfl) ?_
        (try simp only [Act.put, List.setIfInBounds_toArray, List.set_cons_zero, List.set_cons_succ])
        refine wpAnyH_done (by kernel_rfl) ?_ _
        go_wp2_with fail
        go_meet
        exact ⟨rfl, HS4.out, HB4.out⟩
      · have t1 : decide (a0 < a1) = false := decide_eq_false h1
        obtain rfl : R = false := by rw [HRD.out, t0, t1]; rfl
        clear h0 h1 HRD
        refine wp_region_held_drew (S := fun W => SitR W P a0 a1 b0 b1 x) (by kernel_rfl) HS1.out.drew (fun _ => ?_)
        refine anyH_take (i := 0) (some 15) (v := _) rfl rfl (by kernel_rfl) (by kernel_rfl) (by kernel_rfl) (fun _ _ _ h => h) (by rfl) (HS1.out.drew) (by intro w hSw; obtain ⟨q0, q1, q2, q3, q4⟩ := hSw.cells; go_simp; try with_reducible rfl) ?_
        (try simp only [Act.put, List.setIfInBounds_toArray, List.set_cons_zero, List.set_cons_succ])
        refine anyH_take (i := 2) (some 17) (v := _) rfl rfl (by kernel_rfl) (by kernel_rfl) (by kernel_rfl) (fun _ _ _ h => h) (by rfl) (HS1.out.drew) (by intro w hSw; obtain ⟨q0, q1, q2, q3, q4⟩ := hSw.cells; go_simp; try with_reducible rfl) ?_
        (try simp only [Act.put, List.setIfInBounds_toArray, List.set_cons_zero, List.set_cons_succ])
        refine anyH_take (i := 3) (some 18) (v := _) rfl rfl (by kernel_rfl) (by kernel_rfl) (by kernel_rfl) (fun _ _ _ h => h) (by rfl) (HS1.out.drew) (by intro w hSw; obtain ⟨q0, q1, q2, q3, q4⟩ := hSw.cells; go_simp; try with_reducible rfl) ?_
        (try simp only [Act.put, List.setIfInBounds_toArray, List.set_cons_zero, List.set_cons_succ])
        refine anyH_take (i := 4) (some 19) (v := _) rfl rfl (by kernel_rfl) (by kernel_rfl) (by kernel_rfl) (fun _ _ _ h => h) (by rfl) (HS1.out.drew) (by intro w hSw; obtain ⟨q0, q1, q2, q3, q4⟩ := hSw.cells; go_simp; try with_reducible rfl) ?_
        (try simp only [Act.put, List.setIfInBounds_toArray, List.set_cons_zero, List.set_cons_succ])
        refine wpAnyH_ready (rs := [1]) (by kernel_rfl) (by simp) (AllReadyH.cons rfl (fun K hK => ?_) AllReadyH.nil)
        go_simp
        refine (HRI.out W1.drew).mono ?_
        rintro e W2 ⟨rfl, hb⟩; replace hb := below_undrew hb
        have HS2 := Lib.hid (HS1.out.keep hb)
        have HB2 := Lib.hid (HB1.out.trans (hb.mono HB1.out.size))
        clear hb
        go_wp2_with fail
        refine hK.out _ _ (HS2.out) (fun _ => ?_)
        clear hK K
        (try simp only [Act.put, List.setIfInBounds_toArray, List.set_cons_zero, List.set_cons_succ])
        refine anyH_take (i := 5) (some 20) (v := _) rfl rfl (by kernel_rfl) (by kernel_rfl) (by kernel_rfl) (fun _ _ _ h => h) (by rfl) (HS2.out) (by intro w hSw; obtain ⟨q0, q1, q2, q3, q4⟩ := hSw.cells; go_simp; try with_reducible rfl) ?_
        (try simp only [Act.put, List.setIfInBounds_toArray, List.set_cons_zero, List.set_cons_succ])
        refine anyH_take (i := 6) (some 21) (v := _) rfl rfl (by kernel_rfl) (by kernel_rfl) (by kernel_rfl) (fun _ _ _ h => h) (by rfl) (HS2.out) (by intro w hSw; obtain ⟨q0, q1, q2, q3, q4⟩ := hSw.cells; go_simp; try with_reducible rfl) ?_
        (try simp only [Act.put, List.setIfInBounds_toArray, List.set_cons_zero, List.set_cons_succ])
        refine anyH_take (i := 7) (some 22) (v := _) rfl rfl (by kernel_rfl) (by kernel_rfl) (by kernel_rfl) (fun _ _ _ h => h) (by rfl) (HS2.out) (by intro w hSw; obtain ⟨q0, q1, q2, q3, q4⟩ := hSw.cells; go_simp; try with_reducible rfl) ?_
        (try simp only [Act.put, List.setIfInBounds_toArray, List.set_cons_zero, List.set_cons_succ])
        refine anyH_take (i := 8) (some 23) (v := _) rfl rfl (by kernel_rfl) (by kernel_rfl) (by kernel_rfl) (fun _ _ _ h => h) (by rfl) (HS2.out) (by intro w hSw; obtain ⟨q0, q1, q2, q3, q4⟩ := hSw.cells; go_simp; try with_reducible rfl) ?_
        (try simp only [Act.put, List.setIfInBounds_toArray, List.set_cons_zero, List.set_cons_succ])
        refine anyH_take (i := 9) (some 24) (v := _) rfl rfl (by kernel_rfl) (by kernel_rfl) (by kernel_rfl) (fun _ _ _ h => h) (by rfl) (HS2.out) (by intro w hSw; obtain ⟨q0, q1, q2, q3, q4⟩ := hSw.cells; go_simp; try with_reducible rfl) ?_
        (try simp only [Act.put, List.setIfInBounds_toArray, List.set_cons_zero, List.set_cons_succ])
        refine anyH_take (i := 10) (some 25) (v := _) rfl rfl (by kernel_rfl) (by kernel_rfl) (by kernel_rfl) (fun _ _ _ h => h) (by rfl) (HS2.out) (by intro w hSw; obtain ⟨q0, q1, q2, q3, q4⟩ := hSw.cells; go_simp; try with_reducible rfl) ?_
        (try simp only [Act.put, List.setIfInBounds_toArray, List.set_cons_zero, List.set_cons_succ])
        refine anyH_take (i := 11) (some 26) (v := _) rfl rfl (by kernel_rfl) (by kernel_rfl) (by kernel_rfl) (fun _ _ _ h => h) (by rfl) (HS2.out) (by intro w hSw; obtain ⟨q0, q1, q2, q3, q4⟩ := hSw.cells; go_simp; try with_reducible rfl) ?_
        (try simp only [Act.put, List.setIfInBounds_toArray, List.set_cons_zero, List.set_cons_succ])
        refine anyH_take (i := 12) (some 27) (v := _) rfl rfl (by kernel_rfl) (by kernel_rfl) (by kernel_rfl) (fun _ _ _ h => h) (by rfl) (HS2.out) (by intro w hSw; obtain ⟨q0, q1, q2, q3, q4⟩ := hSw.cells; go_simp; try with_reducible rfl) ?_
        (try simp only [Act.put, List.setIfInBounds_toArray, List.set_cons_zero, List.set_cons_succ])
        refine anyH_skip (i := 13) (some 28) rfl rfl (by kernel_rfl) (by kernel_rfl) (by kernel_rfl) (fun _ _ _ h => h) (by rfl) (HS2.out) ?_
        (try simp only [Act.put, List.setIfInBounds_toArray, List.set_cons_zero, List.set_cons_succ])
        refine anyH_skip (i := 14) (some 29) rfl rfl (by kernel_rfl) (by kernel_rfl) (by kernel_rfl) (fun _ _ _ h => h) (by rfl) (HS2.out) ?_
        (try simp only [Act.put, List.setIfInBounds_toArray, List.set_cons_zero, List.set_cons_succ])
        refine anyH_skip (i := 15) (some 30) rfl rfl (by kernel_rfl) (by kernel_rfl) (by kernel_rfl) (fun _ _ _ h => h) (by rfl) (HS2.out) ?_
        (try simp only [Act.put, List.setIfInBounds_toArray, List.set_cons_zero, List.set_cons_succ])
        refine anyH_take (i := 16) (some 31) (v := _) rfl rfl (by kernel_rfl) (by kernel_rfl) (by kernel_rfl) (fun _ _ _ h => h) (by rfl) (HS2.out) (by intro w hSw; obtain ⟨q0, q1, q2, q3, q4⟩ := hSw.cells; go_simp; try with_reducible rfl) ?_
        (try simp only [Act.put, List.setIfInBounds_toArray, List.set_cons_zero, List.set_cons_succ])
        refine anyH_take (i := 17) (some 32) (v := _) rfl rfl (by kernel_rfl) (by kernel_rfl) (by kernel_rfl) (fun _ _ _ h => h) (by rfl) (HS2.out) (by intro w hSw; obtain ⟨q0, q1, q2, q3, q4⟩ := hSw.cells; go_simp; try with_reducible rfl) ?_
        (try simp only [Act.put, List.setIfInBounds_toArray, List.set_cons_zero, List.set_cons_succ])
        refine anyH_take (i := 18) (some 33) (v := _) rfl rfl (by kernel_rfl) (by kernel_rfl) (by kernel_rfl) (fun _ _ _ h => h) (by rfl) (HS2.out) (by intro w hSw; obtain ⟨q0, q1, q2, q3, q4⟩ := hSw.cells; go_simp; try with_reducible rfl) ?_
        (try simp only [Act.put, List.setIfInBounds_toArray, List.set_cons_zero, List.set_cons_succ])
        refine anyH_take (i := 19) (some 34) (v := _) rfl rfl (by kernel_rfl) (by kernel_rfl) (by kernel_rfl) (fun _ _ _ h => h) (by rfl) (HS2.out) (by intro w hSw; obtain ⟨q0, q1, q2, q3, q4⟩ := hSw.cells; go_simp; try with_reducible rfl) ?_
        (try simp only [Act.put, List.setIfInBounds_toArray, List.set_cons_zero, List.set_cons_succ])
        refine anyH_take (i := 20) (some 35) (v := _) rfl rfl (by kernel_rfl) (by kernel_rfl) (by kernel_rfl) (fun _ _ _ h => h) (by rfl) (HS2.out) (by intro w hSw; obtain ⟨q0, q1, q2, q3, q4⟩ := hSw.cells; go_simp; try with_reducible rfl) ?_
        (try simp only [Act.put, List.setIfInBounds_toArray, List.set_cons_zero, List.set_cons_succ])
        refine anyH_take (i := 22) (some 37) (v := _) rfl rfl (by kernel_rfl) (by kernel_rfl) (by kernel_rfl) (fun _ _ _ h => h) (by rfl) (HS2.out) (by intro w hSw; obtain ⟨q0, q1, q2, q3, q4⟩ := hSw.cells; go_simp; try with_reducible rfl) ?_
        (try simp only [Act.put, List.setIfInBounds_toArray, List.set_cons_zero, List.set_cons_succ])
        refine anyH_take (i := 23) (some 38) (v := _) rfl rfl (by kernel_rfl) (by kernel_rfl) (by kernel_rfl) (fun _ _ _ h => h) (by rfl) (HS2.out) (by intro w hSw; obtain ⟨q0, q1, q2, q3, q4⟩ := hSw.cells; go_simp; try with_reducible rfl) ?_
        (try simp only [Act.put, List.setIfInBounds_toArray, List.set_cons_zero, List.set_cons_succ])
        refine wpAnyH_ready (rs := [21]) (by kernel_rfl) (by simp) (AllReadyH.cons rfl (fun K hK => ?_) AllReadyH.nil)
        go_simp
        refine (HIN.out W2).mono ?_
        rintro e W3 ⟨rfl, hb⟩
        have HS3 := Lib.hid (HS2.out.keep hb)
        have HB3 := Lib.hid (HB2.out.trans (hb.mono HB2.out.size))
        clear hb
        go_wp2_with fail
        refine hK.out _ _ (HS3.out) (fun _ => ?_)
        clear hK K
        (try simp only [Act.put, List.setIfInBounds_toArray, List.set_cons_zero, List.set_cons_succ])
        refine wpAnyH_ready (rs := [24]) (by kernel_rfl) (by simp) (AllReadyH.cons rfl (fun K hK => ?_) AllReadyH.nil)
        go_simp
        refine (lin_any W3 a0 a1 x (P + 1 + 1) HS3.out.2.2).mono ?_
        rintro e W4 ⟨rfl, hb⟩
        have HS4 := Lib.hid (HS3.out.keep hb)
        have HB4 := Lib.hid (HB3.out.trans (hb.mono HB3.out.size))
        clear hb
        go_wp2_with fail
        refine hK.out _ _ (HS4.out) (fun _ => ?_)
        clear hK K
        (try simp only [Act.put, List.setIfInBounds_toArray, List.set_cons_zero, List.set_cons_succ])
        refine anyH_take (i := 25) (some 40) (v := _) rfl rfl (by kernel_rfl) (by kernel_rfl) (by kernel_rfl) (fun _ _ _ h => h) (by rfl) (HS4.out) (by intro w hSw; obtain ⟨q0, q1, q2, q3, q4⟩ := hSw.cells; go_simp; try with_reducible rfl) ?_
        (try simp only [Act.put, List.setIfInBounds_toArray, List.set_cons_zero, List.set_cons_succ])
        refine anyH_take (i := 26) (some 41) (v := _) rfl rfl (by kernel_rfl) (by kernel_rfl) (by kernel_rfl) (fun _ _ _ h => h) (by rfl) (HS4.out) (by intro w hSw; obtain ⟨q0, q1, q2, q3, q4⟩ := hSw.cells; go_simp; try with_reducible rfl) ?_
        (try simp only [Act.put, List.setIfInBounds_toArray, List.set_cons_zero, List.set_cons_succ])
        refine wpAnyH_done (by kernel_rfl) ?_ _
        go_wp2_with fail
        go_meet
        exact ⟨rfl, HS4.out, HB4.out⟩
    · have t0 : decide (0 ≤ a0) = false := decide_eq_false h0
      obtain rfl : R = false := by rw [HRD.out, t0]; rfl
      clear h0 HRD
      refine wp_region_held_drew (S := fun W => SitR W P a0 a1 b0 b1 x) (by kernel_rfl) HS1.out.drew (fun _ => ?_)
      refine anyH_take (i := 0) (some 15) (v := _) rfl rfl (by kernel_rfl) (by kernel_rfl) (by kernel_rfl) (fun _ _ _ h => h) (by rfl) (HS1.out.drew) (by intro w hSw; obtain ⟨q0, q1, q2, q3, q4⟩ := hSw.cells; go_simp; try with_reducible rfl) ?_
      (try simp only [Act.put, List.setIfInBounds_toArray, List.set_cons_zero, List.set_cons_succ])
      refine anyH_take (i := 2) (some 17) (v := _) rfl rfl (by kernel_rfl) (by kernel_rfl) (by kernel_rfl) (fun _ _ _ h => h) (by rfl) (HS1.out.drew) (by intro w hSw; obtain ⟨q0, q1, q2, q3, q4⟩ := hSw.cells; go_simp; try with_reducible rfl) ?_
      (try simp only [Act.put, List.setIfInBounds_toArray, List.set_cons_zero, List.set_cons_succ])
      refine anyH_take (i := 3) (some 18) (v := _) rfl rfl (by kernel_rfl) (by kernel_rfl) (by kernel_rfl) (fun _ _ _ h => h) (by rfl) (HS1.out.drew) (by intro w hSw; obtain ⟨q0, q1, q2, q3, q4⟩ := hSw.cells; go_simp; try with_reducible rfl) ?_
      (try simp only [Act.put, List.setIfInBounds_toArray, List.set_cons_zero, List.set_cons_succ])
      refine anyH_take (i := 4) (some 19) (v := _) rfl rfl (by kernel_rfl) (by kernel_rfl) (by kernel_rfl) (fun _ _ _ h => h) (by rfl) (HS1.out.drew) (by intro w hSw; obtain ⟨q0, q1, q2, q3, q4⟩ := hSw.cells; go_simp; try with_reducible rfl) ?_
      (try simp only [Act.put, List.setIfInBounds_toArray, List.set_cons_zero, List.set_cons_succ])
      refine wpAnyH_ready (rs := [1]) (by kernel_rfl) (by simp) (AllReadyH.cons rfl (fun K hK => ?_) AllReadyH.nil)
      go_simp
      refine (HRI.out W1.drew).mono ?_
      rintro e W2 ⟨rfl, hb⟩; replace hb := below_undrew hb
      have HS2 := Lib.hid (HS1.out.keep hb)
      have HB2 := Lib.hid (HB1.out.trans (hb.mono HB1.out.size))
      clear hb
      go_wp2_with fail
      refine hK.out _ _ (HS2.out) (fun _ => ?_)
      clear hK K
      (try simp only [Act.put, List.setIfInBounds_toArray, List.set_cons_zero, List.set_cons_succ])
      refine anyH_take (i := 5) (some 20) (v := _) rfl rfl (by kernel_rfl) (by kernel_rfl) (by kernel_rfl) (fun _ _ _ h => h) (by rfl) (HS2.out) (by intro w hSw; obtain ⟨q0, q1, q2, q3, q4⟩ := hSw.cells; go_simp; try with_reducible rfl) ?_
      (try simp only [Act.put, List.setIfInBounds_toArray, List.set_cons_zero, List.set_cons_succ])
      refine anyH_skip (i := 6) (some 21) rfl rfl (by kernel_rfl) (by kernel_rfl) (by kernel_rfl) (fun _ _ _ h => h) (by rfl) (HS2.out) ?_
      (try simp only [Act.put, List.setIfInBounds_toArray, List.set_cons_zero, List.set_cons_succ])
      refine anyH_skip (i := 7) (some 22) rfl rfl (by kernel_rfl) (by kernel_rfl) (by kernel_rfl) (fun _ _ _ h => h) (by rfl) (HS2.out) ?_
      (try simp only [Act.put, List.setIfInBounds_toArray, List.set_cons_zero, List.set_cons_succ])
      refine anyH_skip (i := 8) (some 23) rfl rfl (by kernel_rfl) (by kernel_rfl) (by kernel_rfl) (fun _ _ _ h => h) (by rfl) (HS2.out) ?_
      (try simp only [Act.put, List.setIfInBounds_toArray, List.set_cons_zero, List.set_cons_succ])
      refine anyH_skip (i := 9) (some 24) rfl rfl (by kernel_rfl) (by kernel_rfl) (by kernel_rfl) (fun _ _ _ h => h) (by rfl) (HS2.out) ?_
      (try simp only [Act.put, List.setIfInBounds_toArray, List.set_cons_zero, List.set_cons_succ])
      refine anyH_skip (i := 10) (some 25) rfl rfl (by kernel_rfl) (by kernel_rfl) (by kernel_rfl) (fun _ _ _ h => h) (by rfl) (HS2.out) ?_
      (try simp only [Act.put, List.setIfInBounds_toArray, List.set_cons_zero, List.set_cons_succ])
      refine anyH_take (i := 11) (some 26) (v := _) rfl rfl (by kernel_rfl) (by kernel_rfl) (by kernel_rfl) (fun _ _ _ h => h) (by rfl) (HS2.out) (by intro w hSw; obtain ⟨q0, q1, q2, q3, q4⟩ := hSw.cells; go_simp; try with_reducible rfl) ?_
      (try simp only [Act.put, List.setIfInBounds_toArray, List.set_cons_zero, List.set_cons_succ])
      refine anyH_take (i := 12) (some 27) (v := _) rfl rfl (by kernel_rfl) (by kernel_rfl) (by kernel_rfl) (fun _ _ _ h => h) (by rfl) (HS2.out) (by intro w hSw; obtain ⟨q0, q1, q2, q3, q4⟩ := hSw.cells; go_simp; try with_reducible rfl) ?_
      (try simp only [Act.put, List.setIfInBounds_toArray, List.set_cons_zero, List.set_cons_succ])
      refine anyH_skip (i := 13) (some 28) rfl rfl (by kernel_rfl) (by kernel_rfl) (by kernel_rfl) (fun _ _ _ h => h) (by rfl) (HS2.out) ?_
      (try simp only [Act.put, List.setIfInBounds_toArray, List.set_cons_zero, List.set_cons_succ])
      refine anyH_skip (i := 14) (some 29) rfl rfl (by kernel_rfl) (by kernel_rfl) (by kernel_rfl) (fun _ _ _ h => h) (by rfl) (HS2.out) ?_
      (try simp only [Act.put, List.setIfInBounds_toArray, List.set_cons_zero, List.set_cons_succ])
      refine anyH_skip (i := 15) (some 30) rfl rfl (by kernel_rfl) (by kernel_rfl) (by kernel_rfl) (fun _ _ _ h => h) (by rfl) (HS2.out) ?_
      (try simp only [Act.put, List.setIfInBounds_toArray, List.set_cons_zero, List.set_cons_succ])
      refine anyH_take (i := 16) (some 31) (v := _) rfl rfl (by kernel_rfl) (by kernel_rfl) (by kernel_rfl) (fun _ _ _ h => h) (by rfl) (HS2.out) (by intro w hSw; obtain ⟨q0, q1, q2, q3, q4⟩ := hSw.cells; go_simp; try with_reducible rfl) ?_
      (try simp only [Act.put, List.setIfInBounds_toArray, List.set_cons_zero, List.set_cons_succ])
      refine anyH_take (i := 17) (some 32) (v := _) rfl rfl (by kernel_rfl) (by kernel_rfl) (by kernel_rfl) (fun _ _ _ h => h) (by rfl) (HS2.out) (by intro w hSw; obtain ⟨q0, q1, q2, q3, q4⟩ := hSw.cells; go_simp; try with_reducible rfl) ?_
      (try simp only [Act.put, List.setIfInBounds_toArray, List.set_cons_zero, List.set_cons_succ])
      refine anyH_take (i := 18) (some 33) (v := _) rfl rfl (by kernel_rfl) (by kernel_rfl) (by kernel_rfl) (fun _ _ _ h => h) (by rfl) (HS2.out) (by intro w hSw; obtain ⟨q0, q1, q2, q3, q4⟩ := hSw.cells; go_simp; try with_reducible rfl) ?_
      (try simp only [Act.put, List.setIfInBounds_toArray, List.set_cons_zero, List.set_cons_succ])
      refine anyH_take (i := 19) (some 34) (v := _) rfl rfl (by kernel_rfl) (by kernel_rfl) (by kernel_rfl) (fun _ _ _ h => h) (by rfl) (HS2.out) (by intro w hSw; obtain ⟨q0, q1, q2, q3, q4⟩ := hSw.cells; go_simp; try with_reducible rfl) ?_
      (try simp only [Act.put, List.setIfInBounds_toArray, List.set_cons_zero, List.set_cons_succ])
      refine anyH_take (i := 20) (some 35) (v := _) rfl rfl (by kernel_rfl) (by kernel_rfl) (by kernel_rfl) (fun _ _ _ h => h) (by rfl) (HS2.out) (by intro w hSw; obtain ⟨q0, q1, q2, q3, q4⟩ := hSw.cells; go_simp; try with_reducible rfl) ?_
      (try simp only [Act.put, List.setIfInBounds_toArray, List.set_cons_zero, List.set_cons_succ])
      refine anyH_take (i := 22) (some 37) (v := _) rfl rfl (by kernel_rfl) (by kernel_rfl) (by kernel_rfl) (fun _ _ _ h => h) (by rfl) (HS2.out) (by intro w hSw; obtain ⟨q0, q1, q2, q3, q4⟩ := hSw.cells; go_simp; try with_reducible rfl) ?_
      (try simp only [Act.put, List.setIfInBounds_toArray, List.set_cons_zero, List.set_cons_succ])
      refine anyH_take (i := 23) (some 38) (v := _) rfl rfl (by kernel_rfl) (by kernel_rfl) (by kernel_rfl) (fun _ _ _ h => h) (by rfl) (HS2.out) (by intro w hSw; obtain ⟨q0, q1, q2, q3, q4⟩ := hSw.cells; go_simp; try with_reducible rfl) ?_
      (try simp only [Act.put, List.setIfInBounds_toArray, List.set_cons_zero, List.set_cons_succ])
      refine wpAnyH_ready (rs := [21]) (by kernel_rfl) (by simp) (AllReadyH.cons rfl (fun K hK => ?_) AllReadyH.nil)
      go_simp
      refine (HIN.out W2).mono ?_
      rintro e W3 ⟨rfl, hb⟩
      have HS3 := Lib.hid (HS2.out.keep hb)
      have HB3 := Lib.hid (HB2.out.trans (hb.mono HB2.out.size))
      clear hb
      go_wp2_with fail
      refine hK.out _ _ (HS3.out) (fun _ => ?_)
      clear hK K
      (try simp only [Act.put, List.setIfInBounds_toArray, List.set_cons_zero, List.set_cons_succ])
      refine wpAnyH_ready (rs := [24]) (by kernel_rfl) (by simp) (AllReadyH.cons rfl (fun K hK => ?_) AllReadyH.nil)
      go_simp
      refine (lin_any W3 a0 a1 x (P + 1 + 1) HS3.out.2.2).mono ?_
      rintro e W4 ⟨rfl, hb⟩
      have HS4 := Lib.hid (HS3.out.keep hb)
      have HB4 := Lib.hid (HB3.out.trans (hb.mono HB3.out.size))
      clear hb
      go_wp2_with fail
      refine hK.out _ _ (HS4.out) (fun _ => ?_)
      clear hK K
      (try simp only [Act.put, List.setIfInBounds_toArray, List.set_cons_zero, List.set_cons_succ])
      refine anyH_take (i := 25) (some 40) (v := _) rfl rfl (by kernel_rfl) (by kernel_rfl) (by kernel_rfl) (fun _ _ _ h => h) (by rfl) (HS4.out) (by intro w hSw; obtain ⟨q0, q1, q2, q3, q4⟩ := hSw.cells; go_simp; try with_reducible rfl) ?_
      (try simp only [Act.put, List.setIfInBounds_toArray, List.set_cons_zero, List.set_cons_succ])
      refine anyH_take (i := 26) (some 41) (v := _) rfl rfl (by kernel_rfl) (by kernel_rfl) (by kernel_rfl) (fun _ _ _ h => h) (by rfl) (HS4.out) (by intro w hSw; obtain ⟨q0, q1, q2, q3, q4⟩ := hSw.cells; go_simp; try with_reducible rfl) ?_
      (try simp only [Act.put, List.setIfInBounds_toArray, List.set_cons_zero, List.set_cons_succ])
      refine wpAnyH_done (by kernel_rfl) ?_ _
      go_wp2_with fail
      go_meet
      exact ⟨rfl, HS4.out, HB4.out⟩
  case rest =>
    obtain ⟨rfl, hs, hbw⟩ := hcut
    obtain ⟨W4, hW4⟩ : ∃ W4, W4 = wc := ⟨_, rfl⟩
    subst hW4
    have HS4 := Lib.hid hs
    have HB4 := Lib.hid hbw
    clear hs hbw HRI HIN HRD hI
    obtain ⟨q0, q1, q2, q3, q4⟩ := HS4.out.cells
    obtain ⟨M, hM⟩ : ∃ M, M = max a0 b0 := ⟨_, rfl⟩
    have em : (if a0 < b0 then b0 else a0) = M := by rw [hM]; split <;> omega
    have hK : meetsR a0 a1 b0 b1 = (decide (M < a1) && decide (M < b1)) := by
      have h : meetsR a0 a1 b0 b1 = decide (M < a1 ∧ M < b1) := by unfold meetsR; rw [hM]; exact decide_eq_decide.2 (by omega)
      rw [h]; simp
    have hp : meetsR a0 a1 b0 b1 = true → (bothR a0 a1 b0 b1).1 = M ∧ (bothR a0 a1 b0 b1).1 < (bothR a0 a1 b0 b1).2 ∧ inR (bothR a0 a1 b0 b1).1 (bothR a0 a1 b0 b1).2 x = (inR a0 a1 x && inR b0 b1 x) := fun h => by
      have e : bothR a0 a1 b0 b1 = (max a0 b0, min a1 b1) := by unfold bothR; rw [if_pos h]
      have h2 : max a0 b0 < min a1 b1 := by unfold meetsR at h; exact of_decide_eq_true h
      rw [e]
      refine ⟨hM.symm, h2, ?_⟩
      unfold inR
      rw [Bool.eq_iff_iff]
      simp only [Bool.and_eq_true, decide_eq_true_eq]
      omega
    have hn : meetsR a0 a1 b0 b1 = false → (bothR a0 a1 b0 b1).1 = 0 ∧ (bothR a0 a1 b0 b1).2 = 0 := fun h => by
      have e : bothR a0 a1 b0 b1 = (0, 0) := by unfold bothR; rw [if_neg (by simp [h])]
      rw [e]; exact ⟨rfl, rfl⟩
    have HBO0 : Hid (∀ W, Calls Try.prog 16 #[.agg #[.int .i64 a0, .int .i64 a1], .agg #[.int .i64 b0, .int .i64 b1]] W fun e w' => e = .returned (.tuple #[.agg #[.int .i64 (bothR a0 a1 b0 b1).1, .int .i64 (bothR a0 a1 b0 b1).2], .bool (meetsR a0 a1 b0 b1)]) ∧ Below W.heap.size W w') := Lib.hid fun W => wiboth_any W a0 a1 b0 b1
    have HME0 : Hid (∀ W, Calls Try.prog 17 #[.agg #[.int .i64 a0, .int .i64 a1], .agg #[.int .i64 b0, .int .i64 b1]] W fun e w' => e = .returned (.bool (meetsR a0 a1 b0 b1)) ∧ Below W.heap.size W w') := Lib.hid fun W => wimeets_any W a0 a1 b0 b1
    generalize (bothR a0 a1 b0 b1).1 = p at HBO0 hp hn
    generalize (bothR a0 a1 b0 b1).2 = q at HBO0 hp hn
    generalize meetsR a0 a1 b0 b1 = K at HBO0 HME0 hp hn hK
    have HBO := Lib.hid HBO0.out
    have HME := Lib.hid HME0.out
    clear HBO0 HME0 hM
    by_cases h0 : M < a1
    · have t0 : decide (M < a1) = true := decide_eq_true h0
      by_cases h1 : M < b1
      · have t1 : decide (M < b1) = true := decide_eq_true h1
        obtain rfl : K = true := by rw [hK, t0, t1]; rfl
        obtain ⟨rfl, hlt, hin⟩ := hp rfl
        have tpq : decide (p < q) = true := decide_eq_true hlt
        have HINQ := Lib.hid hin
        clear h0 h1 hK hp hn hlt hin
        repeat (first | go_values | go_skip | go_guarded | go_step)
        refine (HBO.out W4).mono ?_
        rintro e W5 ⟨rfl, hb⟩
        have HS5 := Lib.hid (HS4.out.keep hb)
        have HB5 := Lib.hid (HB4.out.trans (hb.mono HB4.out.size))
        clear hb HS4 HB4
        dsimp only
        go_upto_region 7 with fail
        refine wp_name fun W6 hW6 => ?_
        obtain ⟨Q, hQ⟩ : ∃ Q, Q = W5.heap.size := ⟨_, rfl⟩
        have HX6 : Hid (RgAt W6 Q p q) := Lib.hid (by rw [hW6.out, hQ]; exact RgAt.new W5 _ _)
        have hb : Below W5.heap.size W5 W6 := by rw [hW6.out]; exact (Below.refl _ W5).alloc (Nat.le_refl _) _
        have HS6 := Lib.hid (HS5.out.keep hb)
        have HB6 := Lib.hid (HB5.out.trans (hb.mono HB5.out.size))
        clear hb HS5 HB5
        rw [← hQ]
        clear hW6 hQ
        obtain ⟨q0, q1, q2, q3, q4⟩ := HS6.out.cells
        obtain ⟨x0, x1, -, -⟩ := HX6.out.cells
        repeat (first | go_values | go_skip | go_guarded | go_step)
        refine (HME.out W6).mono ?_
        rintro e W7 ⟨rfl, hb⟩
        have HX7 := Lib.hid (HX6.out.keep hb)
        have HS7 := Lib.hid (HS6.out.keep hb)
        have HB7 := Lib.hid (HB6.out.trans (hb.mono HB6.out.size))
        clear hb HS6 HB6
        clear HX6 q0 q1 q2 q3 q4 x0 x1
        dsimp only
        obtain ⟨q0, q1, q2, q3, q4⟩ := HS7.out.cells
        obtain ⟨x0, x1, -, -⟩ := HX7.out.cells
        go_upto_region 11 with fail
        obtain ⟨J, hJ⟩ : ∃ J, J = inR b0 b1 x := ⟨_, rfl⟩
        cases hI : inR a0 a1 x with
        | true =>
          have HLQ : Hid (∀ W, SitR W P a0 a1 b0 b1 x → Calls Try.prog 13 #[.agg #[.int .i64 p, .int .i64 q], .pointer (some ⟨P + 1 + 1, 0, none⟩)] W fun e w' => e = .returned (.bool J) ∧ Below W.heap.size W w') := Lib.hid fun W h => by have h2 := lin_any W p q x (P + 1 + 1) h.2.2; rw [HINQ.out, hI, Bool.true_and, ← hJ] at h2; exact h2
          have HLA : Hid (∀ W, SitR W P a0 a1 b0 b1 x → Calls Try.prog 13 #[.agg #[.int .i64 a0, .int .i64 a1], .pointer (some ⟨P + 1 + 1, 0, none⟩)] W fun e w' => e = .returned (.bool true) ∧ Below W.heap.size W w') := Lib.hid fun W h => by have h2 := lin_any W a0 a1 x (P + 1 + 1) h.2.2; rw [hI] at h2; exact h2
          have HLB : Hid (∀ W, SitR W P a0 a1 b0 b1 x → Calls Try.prog 13 #[.agg #[.int .i64 b0, .int .i64 b1], .pointer (some ⟨P + 1 + 1, 0, none⟩)] W fun e w' => e = .returned (.bool J) ∧ Below W.heap.size W w') := Lib.hid fun W h => by have h2 := lin_any W b0 b1 x (P + 1 + 1) h.2.2; rw [← hJ] at h2; exact h2
          clear hI hJ HINQ
          refine wp_region_held_drew (S := fun W => SitR W P a0 a1 b0 b1 x ∧ RgAt W Q p q) (by kernel_rfl) ⟨HS7.out.drew, HX7.out.drew⟩ (fun _ => ?_)
          refine anyH_take (i := 0) (some 82) (v := _) rfl rfl (by kernel_rfl) (by kernel_rfl) (by kernel_rfl) (fun _ _ _ h => h) (by rfl) (⟨HS7.out.drew, HX7.out.drew⟩) (by intro w hSw; obtain ⟨q0, q1, q2, q3, q4⟩ := hSw.1.cells; obtain ⟨x0, x1, -, -⟩ := hSw.2.cells; go_simp; try with_reducible rfl) ?_
          (try simp only [Act.put, List.setIfInBounds_toArray, List.set_cons_zero, List.set_cons_succ])
          refine anyH_take (i := 1) (some 83) (v := _) rfl rfl (by kernel_rfl) (by kernel_rfl) (by kernel_rfl) (fun _ _ _ h => h) (by rfl) (⟨HS7.out.drew, HX7.out.drew⟩) (by intro w hSw; obtain ⟨q0, q1, q2, q3, q4⟩ := hSw.1.cells; obtain ⟨x0, x1, -, -⟩ := hSw.2.cells; go_simp; try with_reducible rfl) ?_
          (try simp only [Act.put, List.setIfInBounds_toArray, List.set_cons_zero, List.set_cons_succ])
          refine anyH_take (i := 2) (some 84) (v := _) rfl rfl (by kernel_rfl) (by kernel_rfl) (by kernel_rfl) (fun _ _ _ h => h) (by rfl) (⟨HS7.out.drew, HX7.out.drew⟩) (by intro w hSw; obtain ⟨q0, q1, q2, q3, q4⟩ := hSw.1.cells; obtain ⟨x0, x1, -, -⟩ := hSw.2.cells; go_simp; try with_reducible rfl) ?_
          (try simp only [Act.put, List.setIfInBounds_toArray, List.set_cons_zero, List.set_cons_succ])
          refine anyH_take (i := 3) (some 85) (v := _) rfl rfl (by kernel_rfl) (by kernel_rfl) (by kernel_rfl) (fun _ _ _ h => h) (by rfl) (⟨HS7.out.drew, HX7.out.drew⟩) (by intro w hSw; obtain ⟨q0, q1, q2, q3, q4⟩ := hSw.1.cells; obtain ⟨x0, x1, -, -⟩ := hSw.2.cells; go_simp; try with_reducible rfl) ?_
          (try simp only [Act.put, List.setIfInBounds_toArray, List.set_cons_zero, List.set_cons_succ])
          refine anyH_take (i := 4) (some 86) (v := _) rfl rfl (by kernel_rfl) (by kernel_rfl) (by kernel_rfl) (fun _ _ _ h => h) (by rfl) (⟨HS7.out.drew, HX7.out.drew⟩) (by intro w hSw; obtain ⟨q0, q1, q2, q3, q4⟩ := hSw.1.cells; obtain ⟨x0, x1, -, -⟩ := hSw.2.cells; go_simp; try with_reducible rfl) ?_
          (try simp only [Act.put, List.setIfInBounds_toArray, List.set_cons_zero, List.set_cons_succ])
          refine anyH_take (i := 6) (some 88) (v := _) rfl rfl (by kernel_rfl) (by kernel_rfl) (by kernel_rfl) (fun _ _ _ h => h) (by rfl) (⟨HS7.out.drew, HX7.out.drew⟩) (by intro w hSw; obtain ⟨q0, q1, q2, q3, q4⟩ := hSw.1.cells; obtain ⟨x0, x1, -, -⟩ := hSw.2.cells; go_simp; try with_reducible rfl) ?_
          (try simp only [Act.put, List.setIfInBounds_toArray, List.set_cons_zero, List.set_cons_succ])
          refine anyH_take (i := 7) (some 89) (v := _) rfl rfl (by kernel_rfl) (by kernel_rfl) (by kernel_rfl) (fun _ _ _ h => h) (by rfl) (⟨HS7.out.drew, HX7.out.drew⟩) (by intro w hSw; obtain ⟨q0, q1, q2, q3, q4⟩ := hSw.1.cells; obtain ⟨x0, x1, -, -⟩ := hSw.2.cells; go_simp; try with_reducible rfl) ?_
          (try simp only [Act.put, List.setIfInBounds_toArray, List.set_cons_zero, List.set_cons_succ])
          refine wpAnyH_ready (rs := [5]) (by kernel_rfl) (by simp) (AllReadyH.cons rfl (fun K hK => ?_) AllReadyH.nil)
          go_simp
          refine (HLQ.out W7.drew HS7.out.drew).mono ?_
          rintro e W8 ⟨rfl, hb⟩; replace hb := below_undrew hb
          have HX8 := Lib.hid (HX7.out.keep hb)
          have HS8 := Lib.hid (HS7.out.keep hb)
          have HB8 := Lib.hid (HB7.out.trans (hb.mono HB7.out.size))
          clear hb
          go_wp2_with fail
          refine hK.out _ _ ⟨HS8.out, HX8.out⟩ (fun _ => ?_)
          clear hK K
          (try simp only [Act.put, List.setIfInBounds_toArray, List.set_cons_zero, List.set_cons_succ])
          refine wpAnyH_ready (rs := [8]) (by kernel_rfl) (by simp) (AllReadyH.cons rfl (fun K hK => ?_) AllReadyH.nil)
          go_simp
          refine (HLA.out W8 HS8.out).mono ?_
          rintro e W9 ⟨rfl, hb⟩
          have HX9 := Lib.hid (HX8.out.keep hb)
          have HS9 := Lib.hid (HS8.out.keep hb)
          have HB9 := Lib.hid (HB8.out.trans (hb.mono HB8.out.size))
          clear hb
          go_wp2_with fail
          refine hK.out _ _ ⟨HS9.out, HX9.out⟩ (fun _ => ?_)
          clear hK K
          (try simp only [Act.put, List.setIfInBounds_toArray, List.set_cons_zero, List.set_cons_succ])
          refine anyH_take (i := 9) (some 91) (v := _) rfl rfl (by kernel_rfl) (by kernel_rfl) (by kernel_rfl) (fun _ _ _ h => h) (by rfl) (⟨HS9.out, HX9.out⟩) (by intro w hSw; obtain ⟨q0, q1, q2, q3, q4⟩ := hSw.1.cells; obtain ⟨x0, x1, -, -⟩ := hSw.2.cells; go_simp; try with_reducible rfl) ?_
          (try simp only [Act.put, List.setIfInBounds_toArray, List.set_cons_zero, List.set_cons_succ])
          refine anyH_take (i := 10) (some 92) (v := _) rfl rfl (by kernel_rfl) (by kernel_rfl) (by kernel_rfl) (fun _ _ _ h => h) (by rfl) (⟨HS9.out, HX9.out⟩) (by intro w hSw; obtain ⟨q0, q1, q2, q3, q4⟩ := hSw.1.cells; obtain ⟨x0, x1, -, -⟩ := hSw.2.cells; go_simp; try with_reducible rfl) ?_
          (try simp only [Act.put, List.setIfInBounds_toArray, List.set_cons_zero, List.set_cons_succ])
          refine anyH_take (i := 11) (some 93) (v := _) rfl rfl (by kernel_rfl) (by kernel_rfl) (by kernel_rfl) (fun _ _ _ h => h) (by rfl) (⟨HS9.out, HX9.out⟩) (by intro w hSw; obtain ⟨q0, q1, q2, q3, q4⟩ := hSw.1.cells; obtain ⟨x0, x1, -, -⟩ := hSw.2.cells; go_simp; try with_reducible rfl) ?_
          (try simp only [Act.put, List.setIfInBounds_toArray, List.set_cons_zero, List.set_cons_succ])
          refine wpAnyH_ready (rs := [12]) (by kernel_rfl) (by simp) (AllReadyH.cons rfl (fun K hK => ?_) AllReadyH.nil)
          go_simp
          refine (HLB.out W9 HS9.out).mono ?_
          rintro e W10 ⟨rfl, hb⟩
          have HX10 := Lib.hid (HX9.out.keep hb)
          have HS10 := Lib.hid (HS9.out.keep hb)
          have HB10 := Lib.hid (HB9.out.trans (hb.mono HB9.out.size))
          clear hb
          go_wp2_with fail
          refine hK.out _ _ ⟨HS10.out, HX10.out⟩ (fun _ => ?_)
          clear hK K
          (try simp only [Act.put, List.setIfInBounds_toArray, List.set_cons_zero, List.set_cons_succ])
          refine anyH_take (i := 13) (some 95) (v := _) rfl rfl (by kernel_rfl) (by kernel_rfl) (by kernel_rfl) (fun _ _ _ h => h) (by rfl) (⟨HS10.out, HX10.out⟩) (by intro w hSw; obtain ⟨q0, q1, q2, q3, q4⟩ := hSw.1.cells; obtain ⟨x0, x1, -, -⟩ := hSw.2.cells; go_simp; try with_reducible rfl) ?_
          (try simp only [Act.put, List.setIfInBounds_toArray, List.set_cons_zero, List.set_cons_succ])
          refine anyH_take (i := 14) (some 96) (v := _) rfl rfl (by kernel_rfl) (by kernel_rfl) (by kernel_rfl) (fun _ _ _ h => h) (by rfl) (⟨HS10.out, HX10.out⟩) (by intro w hSw; obtain ⟨q0, q1, q2, q3, q4⟩ := hSw.1.cells; obtain ⟨x0, x1, -, -⟩ := hSw.2.cells; go_simp; try with_reducible rfl) ?_
          (try simp only [Act.put, List.setIfInBounds_toArray, List.set_cons_zero, List.set_cons_succ])
          refine anyH_take (i := 15) (some 97) (v := _) rfl rfl (by kernel_rfl) (by kernel_rfl) (by kernel_rfl) (fun _ _ _ h => h) (by rfl) (⟨HS10.out, HX10.out⟩) (by intro w hSw; obtain ⟨q0, q1, q2, q3, q4⟩ := hSw.1.cells; obtain ⟨x0, x1, -, -⟩ := hSw.2.cells; go_simp; try with_reducible rfl) ?_
          (try simp only [Act.put, List.setIfInBounds_toArray, List.set_cons_zero, List.set_cons_succ])
          refine anyH_take (i := 16) (some 98) (v := _) rfl rfl (by kernel_rfl) (by kernel_rfl) (by kernel_rfl) (fun _ _ _ h => h) (by rfl) (⟨HS10.out, HX10.out⟩) (by intro w hSw; obtain ⟨q0, q1, q2, q3, q4⟩ := hSw.1.cells; obtain ⟨x0, x1, -, -⟩ := hSw.2.cells; go_simp; try with_reducible rfl) ?_
          (try simp only [Act.put, List.setIfInBounds_toArray, List.set_cons_zero, List.set_cons_succ])
          refine anyH_take (i := 17) (some 99) (v := _) rfl rfl (by kernel_rfl) (by kernel_rfl) (by kernel_rfl) (fun _ _ _ h => h) (by rfl) (⟨HS10.out, HX10.out⟩) (by intro w hSw; obtain ⟨q0, q1, q2, q3, q4⟩ := hSw.1.cells; obtain ⟨x0, x1, -, -⟩ := hSw.2.cells; go_simp; try with_reducible rfl) ?_
          (try simp only [Act.put, List.setIfInBounds_toArray, List.set_cons_zero, List.set_cons_succ])
          refine anyH_take (i := 18) (some 100) (v := _) rfl rfl (by kernel_rfl) (by kernel_rfl) (by kernel_rfl) (fun _ _ _ h => h) (by rfl) (⟨HS10.out, HX10.out⟩) (by intro w hSw; obtain ⟨q0, q1, q2, q3, q4⟩ := hSw.1.cells; obtain ⟨x0, x1, -, -⟩ := hSw.2.cells; go_simp; try with_reducible rfl) ?_
          (try simp only [Act.put, List.setIfInBounds_toArray, List.set_cons_zero, List.set_cons_succ])
          refine anyH_take (i := 19) (some 101) (v := _) rfl rfl (by kernel_rfl) (by kernel_rfl) (by kernel_rfl) (fun _ _ _ h => h) (by rfl) (⟨HS10.out, HX10.out⟩) (by intro w hSw; obtain ⟨q0, q1, q2, q3, q4⟩ := hSw.1.cells; obtain ⟨x0, x1, -, -⟩ := hSw.2.cells; go_simp; try with_reducible rfl) ?_
          (try simp only [Act.put, List.setIfInBounds_toArray, List.set_cons_zero, List.set_cons_succ])
          refine anyH_take (i := 20) (some 102) (v := _) rfl rfl (by kernel_rfl) (by kernel_rfl) (by kernel_rfl) (fun _ _ _ h => h) (by rfl) (⟨HS10.out, HX10.out⟩) (by intro w hSw; obtain ⟨q0, q1, q2, q3, q4⟩ := hSw.1.cells; obtain ⟨x0, x1, -, -⟩ := hSw.2.cells; go_simp; try with_reducible rfl) ?_
          (try simp only [Act.put, List.setIfInBounds_toArray, List.set_cons_zero, List.set_cons_succ])
          refine anyH_take (i := 21) (some 103) (v := _) rfl rfl (by kernel_rfl) (by kernel_rfl) (by kernel_rfl) (fun _ _ _ h => h) (by rfl) (⟨HS10.out, HX10.out⟩) (by intro w hSw; obtain ⟨q0, q1, q2, q3, q4⟩ := hSw.1.cells; obtain ⟨x0, x1, -, -⟩ := hSw.2.cells; go_simp; try with_reducible rfl) ?_
          (try simp only [Act.put, List.setIfInBounds_toArray, List.set_cons_zero, List.set_cons_succ])
          refine anyH_take (i := 22) (some 104) (v := _) rfl rfl (by kernel_rfl) (by kernel_rfl) (by kernel_rfl) (fun _ _ _ h => h) (by rfl) (⟨HS10.out, HX10.out⟩) (by intro w hSw; obtain ⟨q0, q1, q2, q3, q4⟩ := hSw.1.cells; obtain ⟨x0, x1, -, -⟩ := hSw.2.cells; go_simp; try with_reducible rfl) ?_
          (try simp only [Act.put, List.setIfInBounds_toArray, List.set_cons_zero, List.set_cons_succ])
          refine anyH_take (i := 23) (some 6) (v := _) rfl rfl (by kernel_rfl) (by kernel_rfl) (by kernel_rfl) (fun _ _ _ h => h) (by rfl) (⟨HS10.out, HX10.out⟩) (by intro w hSw; obtain ⟨q0, q1, q2, q3, q4⟩ := hSw.1.cells; obtain ⟨x0, x1, -, -⟩ := hSw.2.cells; go_simp; try with_reducible rfl) ?_
          (try simp only [Act.put, List.setIfInBounds_toArray, List.set_cons_zero, List.set_cons_succ])
          refine wpAnyH_done (by kernel_rfl) ?_ _
          repeat (first | go_values | go_skip | go_guarded | go_step | go_upon)
          go_ret
          exact ⟨rfl, HB10.out⟩
        | false =>
          have HLQ : Hid (∀ W, SitR W P a0 a1 b0 b1 x → Calls Try.prog 13 #[.agg #[.int .i64 p, .int .i64 q], .pointer (some ⟨P + 1 + 1, 0, none⟩)] W fun e w' => e = .returned (.bool false) ∧ Below W.heap.size W w') := Lib.hid fun W h => by have h2 := lin_any W p q x (P + 1 + 1) h.2.2; rw [HINQ.out, hI, Bool.false_and] at h2; exact h2
          have HLA : Hid (∀ W, SitR W P a0 a1 b0 b1 x → Calls Try.prog 13 #[.agg #[.int .i64 a0, .int .i64 a1], .pointer (some ⟨P + 1 + 1, 0, none⟩)] W fun e w' => e = .returned (.bool false) ∧ Below W.heap.size W w') := Lib.hid fun W h => by have h2 := lin_any W a0 a1 x (P + 1 + 1) h.2.2; rw [hI] at h2; exact h2
          clear hI hJ HINQ
          refine wp_region_held_drew (S := fun W => SitR W P a0 a1 b0 b1 x ∧ RgAt W Q p q) (by kernel_rfl) ⟨HS7.out.drew, HX7.out.drew⟩ (fun _ => ?_)
          refine anyH_take (i := 0) (some 82) (v := _) rfl rfl (by kernel_rfl) (by kernel_rfl) (by kernel_rfl) (fun _ _ _ h => h) (by rfl) (⟨HS7.out.drew, HX7.out.drew⟩) (by intro w hSw; obtain ⟨q0, q1, q2, q3, q4⟩ := hSw.1.cells; obtain ⟨x0, x1, -, -⟩ := hSw.2.cells; go_simp; try with_reducible rfl) ?_
          (try simp only [Act.put, List.setIfInBounds_toArray, List.set_cons_zero, List.set_cons_succ])
          refine anyH_take (i := 1) (some 83) (v := _) rfl rfl (by kernel_rfl) (by kernel_rfl) (by kernel_rfl) (fun _ _ _ h => h) (by rfl) (⟨HS7.out.drew, HX7.out.drew⟩) (by intro w hSw; obtain ⟨q0, q1, q2, q3, q4⟩ := hSw.1.cells; obtain ⟨x0, x1, -, -⟩ := hSw.2.cells; go_simp; try with_reducible rfl) ?_
          (try simp only [Act.put, List.setIfInBounds_toArray, List.set_cons_zero, List.set_cons_succ])
          refine anyH_take (i := 2) (some 84) (v := _) rfl rfl (by kernel_rfl) (by kernel_rfl) (by kernel_rfl) (fun _ _ _ h => h) (by rfl) (⟨HS7.out.drew, HX7.out.drew⟩) (by intro w hSw; obtain ⟨q0, q1, q2, q3, q4⟩ := hSw.1.cells; obtain ⟨x0, x1, -, -⟩ := hSw.2.cells; go_simp; try with_reducible rfl) ?_
          (try simp only [Act.put, List.setIfInBounds_toArray, List.set_cons_zero, List.set_cons_succ])
          refine anyH_take (i := 3) (some 85) (v := _) rfl rfl (by kernel_rfl) (by kernel_rfl) (by kernel_rfl) (fun _ _ _ h => h) (by rfl) (⟨HS7.out.drew, HX7.out.drew⟩) (by intro w hSw; obtain ⟨q0, q1, q2, q3, q4⟩ := hSw.1.cells; obtain ⟨x0, x1, -, -⟩ := hSw.2.cells; go_simp; try with_reducible rfl) ?_
          (try simp only [Act.put, List.setIfInBounds_toArray, List.set_cons_zero, List.set_cons_succ])
          refine anyH_take (i := 4) (some 86) (v := _) rfl rfl (by kernel_rfl) (by kernel_rfl) (by kernel_rfl) (fun _ _ _ h => h) (by rfl) (⟨HS7.out.drew, HX7.out.drew⟩) (by intro w hSw; obtain ⟨q0, q1, q2, q3, q4⟩ := hSw.1.cells; obtain ⟨x0, x1, -, -⟩ := hSw.2.cells; go_simp; try with_reducible rfl) ?_
          (try simp only [Act.put, List.setIfInBounds_toArray, List.set_cons_zero, List.set_cons_succ])
          refine anyH_take (i := 6) (some 88) (v := _) rfl rfl (by kernel_rfl) (by kernel_rfl) (by kernel_rfl) (fun _ _ _ h => h) (by rfl) (⟨HS7.out.drew, HX7.out.drew⟩) (by intro w hSw; obtain ⟨q0, q1, q2, q3, q4⟩ := hSw.1.cells; obtain ⟨x0, x1, -, -⟩ := hSw.2.cells; go_simp; try with_reducible rfl) ?_
          (try simp only [Act.put, List.setIfInBounds_toArray, List.set_cons_zero, List.set_cons_succ])
          refine anyH_take (i := 7) (some 89) (v := _) rfl rfl (by kernel_rfl) (by kernel_rfl) (by kernel_rfl) (fun _ _ _ h => h) (by rfl) (⟨HS7.out.drew, HX7.out.drew⟩) (by intro w hSw; obtain ⟨q0, q1, q2, q3, q4⟩ := hSw.1.cells; obtain ⟨x0, x1, -, -⟩ := hSw.2.cells; go_simp; try with_reducible rfl) ?_
          (try simp only [Act.put, List.setIfInBounds_toArray, List.set_cons_zero, List.set_cons_succ])
          refine wpAnyH_ready (rs := [5]) (by kernel_rfl) (by simp) (AllReadyH.cons rfl (fun K hK => ?_) AllReadyH.nil)
          go_simp
          refine (HLQ.out W7.drew HS7.out.drew).mono ?_
          rintro e W8 ⟨rfl, hb⟩; replace hb := below_undrew hb
          have HX8 := Lib.hid (HX7.out.keep hb)
          have HS8 := Lib.hid (HS7.out.keep hb)
          have HB8 := Lib.hid (HB7.out.trans (hb.mono HB7.out.size))
          clear hb
          go_wp2_with fail
          refine hK.out _ _ ⟨HS8.out, HX8.out⟩ (fun _ => ?_)
          clear hK K
          (try simp only [Act.put, List.setIfInBounds_toArray, List.set_cons_zero, List.set_cons_succ])
          refine wpAnyH_ready (rs := [8]) (by kernel_rfl) (by simp) (AllReadyH.cons rfl (fun K hK => ?_) AllReadyH.nil)
          go_simp
          refine (HLA.out W8 HS8.out).mono ?_
          rintro e W9 ⟨rfl, hb⟩
          have HX9 := Lib.hid (HX8.out.keep hb)
          have HS9 := Lib.hid (HS8.out.keep hb)
          have HB9 := Lib.hid (HB8.out.trans (hb.mono HB8.out.size))
          clear hb
          go_wp2_with fail
          refine hK.out _ _ ⟨HS9.out, HX9.out⟩ (fun _ => ?_)
          clear hK K
          (try simp only [Act.put, List.setIfInBounds_toArray, List.set_cons_zero, List.set_cons_succ])
          refine anyH_take (i := 9) (some 91) (v := _) rfl rfl (by kernel_rfl) (by kernel_rfl) (by kernel_rfl) (fun _ _ _ h => h) (by rfl) (⟨HS9.out, HX9.out⟩) (by intro w hSw; obtain ⟨q0, q1, q2, q3, q4⟩ := hSw.1.cells; obtain ⟨x0, x1, -, -⟩ := hSw.2.cells; go_simp; try with_reducible rfl) ?_
          (try simp only [Act.put, List.setIfInBounds_toArray, List.set_cons_zero, List.set_cons_succ])
          refine anyH_skip (i := 10) (some 92) rfl rfl (by kernel_rfl) (by kernel_rfl) (by kernel_rfl) (fun _ _ _ h => h) (by rfl) (⟨HS9.out, HX9.out⟩) ?_
          (try simp only [Act.put, List.setIfInBounds_toArray, List.set_cons_zero, List.set_cons_succ])
          refine anyH_skip (i := 11) (some 93) rfl rfl (by kernel_rfl) (by kernel_rfl) (by kernel_rfl) (fun _ _ _ h => h) (by rfl) (⟨HS9.out, HX9.out⟩) ?_
          (try simp only [Act.put, List.setIfInBounds_toArray, List.set_cons_zero, List.set_cons_succ])
          refine anyH_skip (i := 12) (some 94) rfl rfl (by kernel_rfl) (by kernel_rfl) (by kernel_rfl) (fun _ _ _ h => h) (by rfl) (⟨HS9.out, HX9.out⟩) ?_
          (try simp only [Act.put, List.setIfInBounds_toArray, List.set_cons_zero, List.set_cons_succ])
          refine anyH_take (i := 13) (some 95) (v := _) rfl rfl (by kernel_rfl) (by kernel_rfl) (by kernel_rfl) (fun _ _ _ h => h) (by rfl) (⟨HS9.out, HX9.out⟩) (by intro w hSw; obtain ⟨q0, q1, q2, q3, q4⟩ := hSw.1.cells; obtain ⟨x0, x1, -, -⟩ := hSw.2.cells; go_simp; try with_reducible rfl) ?_
          (try simp only [Act.put, List.setIfInBounds_toArray, List.set_cons_zero, List.set_cons_succ])
          refine anyH_take (i := 14) (some 96) (v := _) rfl rfl (by kernel_rfl) (by kernel_rfl) (by kernel_rfl) (fun _ _ _ h => h) (by rfl) (⟨HS9.out, HX9.out⟩) (by intro w hSw; obtain ⟨q0, q1, q2, q3, q4⟩ := hSw.1.cells; obtain ⟨x0, x1, -, -⟩ := hSw.2.cells; go_simp; try with_reducible rfl) ?_
          (try simp only [Act.put, List.setIfInBounds_toArray, List.set_cons_zero, List.set_cons_succ])
          refine anyH_take (i := 15) (some 97) (v := _) rfl rfl (by kernel_rfl) (by kernel_rfl) (by kernel_rfl) (fun _ _ _ h => h) (by rfl) (⟨HS9.out, HX9.out⟩) (by intro w hSw; obtain ⟨q0, q1, q2, q3, q4⟩ := hSw.1.cells; obtain ⟨x0, x1, -, -⟩ := hSw.2.cells; go_simp; try with_reducible rfl) ?_
          (try simp only [Act.put, List.setIfInBounds_toArray, List.set_cons_zero, List.set_cons_succ])
          refine anyH_take (i := 16) (some 98) (v := _) rfl rfl (by kernel_rfl) (by kernel_rfl) (by kernel_rfl) (fun _ _ _ h => h) (by rfl) (⟨HS9.out, HX9.out⟩) (by intro w hSw; obtain ⟨q0, q1, q2, q3, q4⟩ := hSw.1.cells; obtain ⟨x0, x1, -, -⟩ := hSw.2.cells; go_simp; try with_reducible rfl) ?_
          (try simp only [Act.put, List.setIfInBounds_toArray, List.set_cons_zero, List.set_cons_succ])
          refine anyH_take (i := 17) (some 99) (v := _) rfl rfl (by kernel_rfl) (by kernel_rfl) (by kernel_rfl) (fun _ _ _ h => h) (by rfl) (⟨HS9.out, HX9.out⟩) (by intro w hSw; obtain ⟨q0, q1, q2, q3, q4⟩ := hSw.1.cells; obtain ⟨x0, x1, -, -⟩ := hSw.2.cells; go_simp; try with_reducible rfl) ?_
          (try simp only [Act.put, List.setIfInBounds_toArray, List.set_cons_zero, List.set_cons_succ])
          refine anyH_take (i := 18) (some 100) (v := _) rfl rfl (by kernel_rfl) (by kernel_rfl) (by kernel_rfl) (fun _ _ _ h => h) (by rfl) (⟨HS9.out, HX9.out⟩) (by intro w hSw; obtain ⟨q0, q1, q2, q3, q4⟩ := hSw.1.cells; obtain ⟨x0, x1, -, -⟩ := hSw.2.cells; go_simp; try with_reducible rfl) ?_
          (try simp only [Act.put, List.setIfInBounds_toArray, List.set_cons_zero, List.set_cons_succ])
          refine anyH_take (i := 19) (some 101) (v := _) rfl rfl (by kernel_rfl) (by kernel_rfl) (by kernel_rfl) (fun _ _ _ h => h) (by rfl) (⟨HS9.out, HX9.out⟩) (by intro w hSw; obtain ⟨q0, q1, q2, q3, q4⟩ := hSw.1.cells; obtain ⟨x0, x1, -, -⟩ := hSw.2.cells; go_simp; try with_reducible rfl) ?_
          (try simp only [Act.put, List.setIfInBounds_toArray, List.set_cons_zero, List.set_cons_succ])
          refine anyH_take (i := 20) (some 102) (v := _) rfl rfl (by kernel_rfl) (by kernel_rfl) (by kernel_rfl) (fun _ _ _ h => h) (by rfl) (⟨HS9.out, HX9.out⟩) (by intro w hSw; obtain ⟨q0, q1, q2, q3, q4⟩ := hSw.1.cells; obtain ⟨x0, x1, -, -⟩ := hSw.2.cells; go_simp; try with_reducible rfl) ?_
          (try simp only [Act.put, List.setIfInBounds_toArray, List.set_cons_zero, List.set_cons_succ])
          refine anyH_take (i := 21) (some 103) (v := _) rfl rfl (by kernel_rfl) (by kernel_rfl) (by kernel_rfl) (fun _ _ _ h => h) (by rfl) (⟨HS9.out, HX9.out⟩) (by intro w hSw; obtain ⟨q0, q1, q2, q3, q4⟩ := hSw.1.cells; obtain ⟨x0, x1, -, -⟩ := hSw.2.cells; go_simp; try with_reducible rfl) ?_
          (try simp only [Act.put, List.setIfInBounds_toArray, List.set_cons_zero, List.set_cons_succ])
          refine anyH_take (i := 22) (some 104) (v := _) rfl rfl (by kernel_rfl) (by kernel_rfl) (by kernel_rfl) (fun _ _ _ h => h) (by rfl) (⟨HS9.out, HX9.out⟩) (by intro w hSw; obtain ⟨q0, q1, q2, q3, q4⟩ := hSw.1.cells; obtain ⟨x0, x1, -, -⟩ := hSw.2.cells; go_simp; try with_reducible rfl) ?_
          (try simp only [Act.put, List.setIfInBounds_toArray, List.set_cons_zero, List.set_cons_succ])
          refine anyH_take (i := 23) (some 6) (v := _) rfl rfl (by kernel_rfl) (by kernel_rfl) (by kernel_rfl) (fun _ _ _ h => h) (by rfl) (⟨HS9.out, HX9.out⟩) (by intro w hSw; obtain ⟨q0, q1, q2, q3, q4⟩ := hSw.1.cells; obtain ⟨x0, x1, -, -⟩ := hSw.2.cells; go_simp; try with_reducible rfl) ?_
          (try simp only [Act.put, List.setIfInBounds_toArray, List.set_cons_zero, List.set_cons_succ])
          refine wpAnyH_done (by kernel_rfl) ?_ _
          repeat (first | go_values | go_skip | go_guarded | go_step | go_upon)
          go_ret
          exact ⟨rfl, HB9.out⟩
      · have t1 : decide (M < b1) = false := decide_eq_false h1
        obtain rfl : K = false := by rw [hK, t0, t1]; rfl
        obtain ⟨rfl, rfl⟩ := hn rfl
        clear h0 h1 hK hp hn
        repeat (first | go_values | go_skip | go_guarded | go_step)
        refine (HBO.out W4).mono ?_
        rintro e W5 ⟨rfl, hb⟩
        have HS5 := Lib.hid (HS4.out.keep hb)
        have HB5 := Lib.hid (HB4.out.trans (hb.mono HB4.out.size))
        clear hb HS4 HB4
        dsimp only
        go_upto_region 7 with fail
        refine wp_name fun W6 hW6 => ?_
        obtain ⟨Q, hQ⟩ : ∃ Q, Q = W5.heap.size := ⟨_, rfl⟩
        have HX6 : Hid (RgAt W6 Q 0 0) := Lib.hid (by rw [hW6.out, hQ]; exact RgAt.new W5 _ _)
        have hb : Below W5.heap.size W5 W6 := by rw [hW6.out]; exact (Below.refl _ W5).alloc (Nat.le_refl _) _
        have HS6 := Lib.hid (HS5.out.keep hb)
        have HB6 := Lib.hid (HB5.out.trans (hb.mono HB5.out.size))
        clear hb HS5 HB5
        rw [← hQ]
        clear hW6 hQ
        obtain ⟨q0, q1, q2, q3, q4⟩ := HS6.out.cells
        obtain ⟨x0, x1, -, -⟩ := HX6.out.cells
        repeat (first | go_values | go_skip | go_guarded | go_step)
        refine (HME.out W6).mono ?_
        rintro e W7 ⟨rfl, hb⟩
        have HX7 := Lib.hid (HX6.out.keep hb)
        have HS7 := Lib.hid (HS6.out.keep hb)
        have HB7 := Lib.hid (HB6.out.trans (hb.mono HB6.out.size))
        clear hb HS6 HB6
        clear HX6 q0 q1 q2 q3 q4 x0 x1
        dsimp only
        obtain ⟨q0, q1, q2, q3, q4⟩ := HS7.out.cells
        obtain ⟨x0, x1, -, -⟩ := HX7.out.cells
        go_upto_region 11 with fail
        refine wp_region_held_drew (S := fun W => SitR W P a0 a1 b0 b1 x ∧ RgAt W Q 0 0) (by kernel_rfl) ⟨HS7.out.drew, HX7.out.drew⟩ (fun _ => ?_)
        refine anyH_take (i := 0) (some 82) (v := _) rfl rfl (by kernel_rfl) (by kernel_rfl) (by kernel_rfl) (fun _ _ _ h => h) (by rfl) (⟨HS7.out.drew, HX7.out.drew⟩) (by intro w hSw; obtain ⟨q0, q1, q2, q3, q4⟩ := hSw.1.cells; obtain ⟨x0, x1, -, -⟩ := hSw.2.cells; go_simp; try with_reducible rfl) ?_
        (try simp only [Act.put, List.setIfInBounds_toArray, List.set_cons_zero, List.set_cons_succ])
        refine anyH_take (i := 1) (some 83) (v := _) rfl rfl (by kernel_rfl) (by kernel_rfl) (by kernel_rfl) (fun _ _ _ h => h) (by rfl) (⟨HS7.out.drew, HX7.out.drew⟩) (by intro w hSw; obtain ⟨q0, q1, q2, q3, q4⟩ := hSw.1.cells; obtain ⟨x0, x1, -, -⟩ := hSw.2.cells; go_simp; try with_reducible rfl) ?_
        (try simp only [Act.put, List.setIfInBounds_toArray, List.set_cons_zero, List.set_cons_succ])
        refine anyH_take (i := 2) (some 84) (v := _) rfl rfl (by kernel_rfl) (by kernel_rfl) (by kernel_rfl) (fun _ _ _ h => h) (by rfl) (⟨HS7.out.drew, HX7.out.drew⟩) (by intro w hSw; obtain ⟨q0, q1, q2, q3, q4⟩ := hSw.1.cells; obtain ⟨x0, x1, -, -⟩ := hSw.2.cells; go_simp; try with_reducible rfl) ?_
        (try simp only [Act.put, List.setIfInBounds_toArray, List.set_cons_zero, List.set_cons_succ])
        refine anyH_skip (i := 3) (some 85) rfl rfl (by kernel_rfl) (by kernel_rfl) (by kernel_rfl) (fun _ _ _ h => h) (by rfl) (⟨HS7.out.drew, HX7.out.drew⟩) ?_
        (try simp only [Act.put, List.setIfInBounds_toArray, List.set_cons_zero, List.set_cons_succ])
        refine anyH_skip (i := 4) (some 86) rfl rfl (by kernel_rfl) (by kernel_rfl) (by kernel_rfl) (fun _ _ _ h => h) (by rfl) (⟨HS7.out.drew, HX7.out.drew⟩) ?_
        (try simp only [Act.put, List.setIfInBounds_toArray, List.set_cons_zero, List.set_cons_succ])
        refine anyH_skip (i := 5) (some 87) rfl rfl (by kernel_rfl) (by kernel_rfl) (by kernel_rfl) (fun _ _ _ h => h) (by rfl) (⟨HS7.out.drew, HX7.out.drew⟩) ?_
        (try simp only [Act.put, List.setIfInBounds_toArray, List.set_cons_zero, List.set_cons_succ])
        refine anyH_skip (i := 6) (some 88) rfl rfl (by kernel_rfl) (by kernel_rfl) (by kernel_rfl) (fun _ _ _ h => h) (by rfl) (⟨HS7.out.drew, HX7.out.drew⟩) ?_
        (try simp only [Act.put, List.setIfInBounds_toArray, List.set_cons_zero, List.set_cons_succ])
        refine anyH_skip (i := 7) (some 89) rfl rfl (by kernel_rfl) (by kernel_rfl) (by kernel_rfl) (fun _ _ _ h => h) (by rfl) (⟨HS7.out.drew, HX7.out.drew⟩) ?_
        (try simp only [Act.put, List.setIfInBounds_toArray, List.set_cons_zero, List.set_cons_succ])
        refine anyH_skip (i := 8) (some 90) rfl rfl (by kernel_rfl) (by kernel_rfl) (by kernel_rfl) (fun _ _ _ h => h) (by rfl) (⟨HS7.out.drew, HX7.out.drew⟩) ?_
        (try simp only [Act.put, List.setIfInBounds_toArray, List.set_cons_zero, List.set_cons_succ])
        refine anyH_skip (i := 9) (some 91) rfl rfl (by kernel_rfl) (by kernel_rfl) (by kernel_rfl) (fun _ _ _ h => h) (by rfl) (⟨HS7.out.drew, HX7.out.drew⟩) ?_
        (try simp only [Act.put, List.setIfInBounds_toArray, List.set_cons_zero, List.set_cons_succ])
        refine anyH_skip (i := 10) (some 92) rfl rfl (by kernel_rfl) (by kernel_rfl) (by kernel_rfl) (fun _ _ _ h => h) (by rfl) (⟨HS7.out.drew, HX7.out.drew⟩) ?_
        (try simp only [Act.put, List.setIfInBounds_toArray, List.set_cons_zero, List.set_cons_succ])
        refine anyH_skip (i := 11) (some 93) rfl rfl (by kernel_rfl) (by kernel_rfl) (by kernel_rfl) (fun _ _ _ h => h) (by rfl) (⟨HS7.out.drew, HX7.out.drew⟩) ?_
        (try simp only [Act.put, List.setIfInBounds_toArray, List.set_cons_zero, List.set_cons_succ])
        refine anyH_skip (i := 12) (some 94) rfl rfl (by kernel_rfl) (by kernel_rfl) (by kernel_rfl) (fun _ _ _ h => h) (by rfl) (⟨HS7.out.drew, HX7.out.drew⟩) ?_
        (try simp only [Act.put, List.setIfInBounds_toArray, List.set_cons_zero, List.set_cons_succ])
        refine anyH_skip (i := 13) (some 95) rfl rfl (by kernel_rfl) (by kernel_rfl) (by kernel_rfl) (fun _ _ _ h => h) (by rfl) (⟨HS7.out.drew, HX7.out.drew⟩) ?_
        (try simp only [Act.put, List.setIfInBounds_toArray, List.set_cons_zero, List.set_cons_succ])
        refine anyH_skip (i := 14) (some 96) rfl rfl (by kernel_rfl) (by kernel_rfl) (by kernel_rfl) (fun _ _ _ h => h) (by rfl) (⟨HS7.out.drew, HX7.out.drew⟩) ?_
        (try simp only [Act.put, List.setIfInBounds_toArray, List.set_cons_zero, List.set_cons_succ])
        refine anyH_skip (i := 15) (some 97) rfl rfl (by kernel_rfl) (by kernel_rfl) (by kernel_rfl) (fun _ _ _ h => h) (by rfl) (⟨HS7.out.drew, HX7.out.drew⟩) ?_
        (try simp only [Act.put, List.setIfInBounds_toArray, List.set_cons_zero, List.set_cons_succ])
        refine anyH_skip (i := 16) (some 98) rfl rfl (by kernel_rfl) (by kernel_rfl) (by kernel_rfl) (fun _ _ _ h => h) (by rfl) (⟨HS7.out.drew, HX7.out.drew⟩) ?_
        (try simp only [Act.put, List.setIfInBounds_toArray, List.set_cons_zero, List.set_cons_succ])
        refine anyH_skip (i := 17) (some 99) rfl rfl (by kernel_rfl) (by kernel_rfl) (by kernel_rfl) (fun _ _ _ h => h) (by rfl) (⟨HS7.out.drew, HX7.out.drew⟩) ?_
        (try simp only [Act.put, List.setIfInBounds_toArray, List.set_cons_zero, List.set_cons_succ])
        refine anyH_skip (i := 18) (some 100) rfl rfl (by kernel_rfl) (by kernel_rfl) (by kernel_rfl) (fun _ _ _ h => h) (by rfl) (⟨HS7.out.drew, HX7.out.drew⟩) ?_
        (try simp only [Act.put, List.setIfInBounds_toArray, List.set_cons_zero, List.set_cons_succ])
        refine anyH_skip (i := 19) (some 101) rfl rfl (by kernel_rfl) (by kernel_rfl) (by kernel_rfl) (fun _ _ _ h => h) (by rfl) (⟨HS7.out.drew, HX7.out.drew⟩) ?_
        (try simp only [Act.put, List.setIfInBounds_toArray, List.set_cons_zero, List.set_cons_succ])
        refine anyH_skip (i := 20) (some 102) rfl rfl (by kernel_rfl) (by kernel_rfl) (by kernel_rfl) (fun _ _ _ h => h) (by rfl) (⟨HS7.out.drew, HX7.out.drew⟩) ?_
        (try simp only [Act.put, List.setIfInBounds_toArray, List.set_cons_zero, List.set_cons_succ])
        refine anyH_skip (i := 21) (some 103) rfl rfl (by kernel_rfl) (by kernel_rfl) (by kernel_rfl) (fun _ _ _ h => h) (by rfl) (⟨HS7.out.drew, HX7.out.drew⟩) ?_
        (try simp only [Act.put, List.setIfInBounds_toArray, List.set_cons_zero, List.set_cons_succ])
        refine anyH_take (i := 22) (some 104) (v := _) rfl rfl (by kernel_rfl) (by kernel_rfl) (by kernel_rfl) (fun _ _ _ h => h) (by rfl) (⟨HS7.out.drew, HX7.out.drew⟩) (by intro w hSw; obtain ⟨q0, q1, q2, q3, q4⟩ := hSw.1.cells; obtain ⟨x0, x1, -, -⟩ := hSw.2.cells; go_simp; try with_reducible rfl) ?_
        (try simp only [Act.put, List.setIfInBounds_toArray, List.set_cons_zero, List.set_cons_succ])
        refine anyH_take (i := 23) (some 6) (v := _) rfl rfl (by kernel_rfl) (by kernel_rfl) (by kernel_rfl) (fun _ _ _ h => h) (by rfl) (⟨HS7.out.drew, HX7.out.drew⟩) (by intro w hSw; obtain ⟨q0, q1, q2, q3, q4⟩ := hSw.1.cells; obtain ⟨x0, x1, -, -⟩ := hSw.2.cells; go_simp; try with_reducible rfl) ?_
        (try simp only [Act.put, List.setIfInBounds_toArray, List.set_cons_zero, List.set_cons_succ])
        refine wpAnyH_done (by kernel_rfl) ?_ _
        repeat (first | go_values | go_skip | go_guarded | go_step | go_upon)
        go_ret
        exact ⟨rfl, below_drew HB7.out⟩
    · have t0 : decide (M < a1) = false := decide_eq_false h0
      obtain rfl : K = false := by rw [hK, t0]; rfl
      obtain ⟨rfl, rfl⟩ := hn rfl
      clear h0 hK hp hn
      repeat (first | go_values | go_skip | go_guarded | go_step)
      refine (HBO.out W4).mono ?_
      rintro e W5 ⟨rfl, hb⟩
      have HS5 := Lib.hid (HS4.out.keep hb)
      have HB5 := Lib.hid (HB4.out.trans (hb.mono HB4.out.size))
      clear hb HS4 HB4
      dsimp only
      go_upto_region 7 with fail
      refine wp_name fun W6 hW6 => ?_
      obtain ⟨Q, hQ⟩ : ∃ Q, Q = W5.heap.size := ⟨_, rfl⟩
      have HX6 : Hid (RgAt W6 Q 0 0) := Lib.hid (by rw [hW6.out, hQ]; exact RgAt.new W5 _ _)
      have hb : Below W5.heap.size W5 W6 := by rw [hW6.out]; exact (Below.refl _ W5).alloc (Nat.le_refl _) _
      have HS6 := Lib.hid (HS5.out.keep hb)
      have HB6 := Lib.hid (HB5.out.trans (hb.mono HB5.out.size))
      clear hb HS5 HB5
      rw [← hQ]
      clear hW6 hQ
      obtain ⟨q0, q1, q2, q3, q4⟩ := HS6.out.cells
      obtain ⟨x0, x1, -, -⟩ := HX6.out.cells
      repeat (first | go_values | go_skip | go_guarded | go_step)
      refine (HME.out W6).mono ?_
      rintro e W7 ⟨rfl, hb⟩
      have HX7 := Lib.hid (HX6.out.keep hb)
      have HS7 := Lib.hid (HS6.out.keep hb)
      have HB7 := Lib.hid (HB6.out.trans (hb.mono HB6.out.size))
      clear hb HS6 HB6
      clear HX6 q0 q1 q2 q3 q4 x0 x1
      dsimp only
      obtain ⟨q0, q1, q2, q3, q4⟩ := HS7.out.cells
      obtain ⟨x0, x1, -, -⟩ := HX7.out.cells
      go_upto_region 11 with fail
      refine wp_region_held_drew (S := fun W => SitR W P a0 a1 b0 b1 x ∧ RgAt W Q 0 0) (by kernel_rfl) ⟨HS7.out.drew, HX7.out.drew⟩ (fun _ => ?_)
      refine anyH_take (i := 0) (some 82) (v := _) rfl rfl (by kernel_rfl) (by kernel_rfl) (by kernel_rfl) (fun _ _ _ h => h) (by rfl) (⟨HS7.out.drew, HX7.out.drew⟩) (by intro w hSw; obtain ⟨q0, q1, q2, q3, q4⟩ := hSw.1.cells; obtain ⟨x0, x1, -, -⟩ := hSw.2.cells; go_simp; try with_reducible rfl) ?_
      (try simp only [Act.put, List.setIfInBounds_toArray, List.set_cons_zero, List.set_cons_succ])
      refine anyH_take (i := 1) (some 83) (v := _) rfl rfl (by kernel_rfl) (by kernel_rfl) (by kernel_rfl) (fun _ _ _ h => h) (by rfl) (⟨HS7.out.drew, HX7.out.drew⟩) (by intro w hSw; obtain ⟨q0, q1, q2, q3, q4⟩ := hSw.1.cells; obtain ⟨x0, x1, -, -⟩ := hSw.2.cells; go_simp; try with_reducible rfl) ?_
      (try simp only [Act.put, List.setIfInBounds_toArray, List.set_cons_zero, List.set_cons_succ])
      refine anyH_take (i := 2) (some 84) (v := _) rfl rfl (by kernel_rfl) (by kernel_rfl) (by kernel_rfl) (fun _ _ _ h => h) (by rfl) (⟨HS7.out.drew, HX7.out.drew⟩) (by intro w hSw; obtain ⟨q0, q1, q2, q3, q4⟩ := hSw.1.cells; obtain ⟨x0, x1, -, -⟩ := hSw.2.cells; go_simp; try with_reducible rfl) ?_
      (try simp only [Act.put, List.setIfInBounds_toArray, List.set_cons_zero, List.set_cons_succ])
      refine anyH_skip (i := 3) (some 85) rfl rfl (by kernel_rfl) (by kernel_rfl) (by kernel_rfl) (fun _ _ _ h => h) (by rfl) (⟨HS7.out.drew, HX7.out.drew⟩) ?_
      (try simp only [Act.put, List.setIfInBounds_toArray, List.set_cons_zero, List.set_cons_succ])
      refine anyH_skip (i := 4) (some 86) rfl rfl (by kernel_rfl) (by kernel_rfl) (by kernel_rfl) (fun _ _ _ h => h) (by rfl) (⟨HS7.out.drew, HX7.out.drew⟩) ?_
      (try simp only [Act.put, List.setIfInBounds_toArray, List.set_cons_zero, List.set_cons_succ])
      refine anyH_skip (i := 5) (some 87) rfl rfl (by kernel_rfl) (by kernel_rfl) (by kernel_rfl) (fun _ _ _ h => h) (by rfl) (⟨HS7.out.drew, HX7.out.drew⟩) ?_
      (try simp only [Act.put, List.setIfInBounds_toArray, List.set_cons_zero, List.set_cons_succ])
      refine anyH_skip (i := 6) (some 88) rfl rfl (by kernel_rfl) (by kernel_rfl) (by kernel_rfl) (fun _ _ _ h => h) (by rfl) (⟨HS7.out.drew, HX7.out.drew⟩) ?_
      (try simp only [Act.put, List.setIfInBounds_toArray, List.set_cons_zero, List.set_cons_succ])
      refine anyH_skip (i := 7) (some 89) rfl rfl (by kernel_rfl) (by kernel_rfl) (by kernel_rfl) (fun _ _ _ h => h) (by rfl) (⟨HS7.out.drew, HX7.out.drew⟩) ?_
      (try simp only [Act.put, List.setIfInBounds_toArray, List.set_cons_zero, List.set_cons_succ])
      refine anyH_skip (i := 8) (some 90) rfl rfl (by kernel_rfl) (by kernel_rfl) (by kernel_rfl) (fun _ _ _ h => h) (by rfl) (⟨HS7.out.drew, HX7.out.drew⟩) ?_
      (try simp only [Act.put, List.setIfInBounds_toArray, List.set_cons_zero, List.set_cons_succ])
      refine anyH_skip (i := 9) (some 91) rfl rfl (by kernel_rfl) (by kernel_rfl) (by kernel_rfl) (fun _ _ _ h => h) (by rfl) (⟨HS7.out.drew, HX7.out.drew⟩) ?_
      (try simp only [Act.put, List.setIfInBounds_toArray, List.set_cons_zero, List.set_cons_succ])
      refine anyH_skip (i := 10) (some 92) rfl rfl (by kernel_rfl) (by kernel_rfl) (by kernel_rfl) (fun _ _ _ h => h) (by rfl) (⟨HS7.out.drew, HX7.out.drew⟩) ?_
      (try simp only [Act.put, List.setIfInBounds_toArray, List.set_cons_zero, List.set_cons_succ])
      refine anyH_skip (i := 11) (some 93) rfl rfl (by kernel_rfl) (by kernel_rfl) (by kernel_rfl) (fun _ _ _ h => h) (by rfl) (⟨HS7.out.drew, HX7.out.drew⟩) ?_
      (try simp only [Act.put, List.setIfInBounds_toArray, List.set_cons_zero, List.set_cons_succ])
      refine anyH_skip (i := 12) (some 94) rfl rfl (by kernel_rfl) (by kernel_rfl) (by kernel_rfl) (fun _ _ _ h => h) (by rfl) (⟨HS7.out.drew, HX7.out.drew⟩) ?_
      (try simp only [Act.put, List.setIfInBounds_toArray, List.set_cons_zero, List.set_cons_succ])
      refine anyH_skip (i := 13) (some 95) rfl rfl (by kernel_rfl) (by kernel_rfl) (by kernel_rfl) (fun _ _ _ h => h) (by rfl) (⟨HS7.out.drew, HX7.out.drew⟩) ?_
      (try simp only [Act.put, List.setIfInBounds_toArray, List.set_cons_zero, List.set_cons_succ])
      refine anyH_skip (i := 14) (some 96) rfl rfl (by kernel_rfl) (by kernel_rfl) (by kernel_rfl) (fun _ _ _ h => h) (by rfl) (⟨HS7.out.drew, HX7.out.drew⟩) ?_
      (try simp only [Act.put, List.setIfInBounds_toArray, List.set_cons_zero, List.set_cons_succ])
      refine anyH_skip (i := 15) (some 97) rfl rfl (by kernel_rfl) (by kernel_rfl) (by kernel_rfl) (fun _ _ _ h => h) (by rfl) (⟨HS7.out.drew, HX7.out.drew⟩) ?_
      (try simp only [Act.put, List.setIfInBounds_toArray, List.set_cons_zero, List.set_cons_succ])
      refine anyH_skip (i := 16) (some 98) rfl rfl (by kernel_rfl) (by kernel_rfl) (by kernel_rfl) (fun _ _ _ h => h) (by rfl) (⟨HS7.out.drew, HX7.out.drew⟩) ?_
      (try simp only [Act.put, List.setIfInBounds_toArray, List.set_cons_zero, List.set_cons_succ])
      refine anyH_skip (i := 17) (some 99) rfl rfl (by kernel_rfl) (by kernel_rfl) (by kernel_rfl) (fun _ _ _ h => h) (by rfl) (⟨HS7.out.drew, HX7.out.drew⟩) ?_
      (try simp only [Act.put, List.setIfInBounds_toArray, List.set_cons_zero, List.set_cons_succ])
      refine anyH_skip (i := 18) (some 100) rfl rfl (by kernel_rfl) (by kernel_rfl) (by kernel_rfl) (fun _ _ _ h => h) (by rfl) (⟨HS7.out.drew, HX7.out.drew⟩) ?_
      (try simp only [Act.put, List.setIfInBounds_toArray, List.set_cons_zero, List.set_cons_succ])
      refine anyH_skip (i := 19) (some 101) rfl rfl (by kernel_rfl) (by kernel_rfl) (by kernel_rfl) (fun _ _ _ h => h) (by rfl) (⟨HS7.out.drew, HX7.out.drew⟩) ?_
      (try simp only [Act.put, List.setIfInBounds_toArray, List.set_cons_zero, List.set_cons_succ])
      refine anyH_skip (i := 20) (some 102) rfl rfl (by kernel_rfl) (by kernel_rfl) (by kernel_rfl) (fun _ _ _ h => h) (by rfl) (⟨HS7.out.drew, HX7.out.drew⟩) ?_
      (try simp only [Act.put, List.setIfInBounds_toArray, List.set_cons_zero, List.set_cons_succ])
      refine anyH_skip (i := 21) (some 103) rfl rfl (by kernel_rfl) (by kernel_rfl) (by kernel_rfl) (fun _ _ _ h => h) (by rfl) (⟨HS7.out.drew, HX7.out.drew⟩) ?_
      (try simp only [Act.put, List.setIfInBounds_toArray, List.set_cons_zero, List.set_cons_succ])
      refine anyH_take (i := 22) (some 104) (v := _) rfl rfl (by kernel_rfl) (by kernel_rfl) (by kernel_rfl) (fun _ _ _ h => h) (by rfl) (⟨HS7.out.drew, HX7.out.drew⟩) (by intro w hSw; obtain ⟨q0, q1, q2, q3, q4⟩ := hSw.1.cells; obtain ⟨x0, x1, -, -⟩ := hSw.2.cells; go_simp; try with_reducible rfl) ?_
      (try simp only [Act.put, List.setIfInBounds_toArray, List.set_cons_zero, List.set_cons_succ])
      refine anyH_take (i := 23) (some 6) (v := _) rfl rfl (by kernel_rfl) (by kernel_rfl) (by kernel_rfl) (fun _ _ _ h => h) (by rfl) (⟨HS7.out.drew, HX7.out.drew⟩) (by intro w hSw; obtain ⟨q0, q1, q2, q3, q4⟩ := hSw.1.cells; obtain ⟨x0, x1, -, -⟩ := hSw.2.cells; go_simp; try with_reducible rfl) ?_
      (try simp only [Act.put, List.setIfInBounds_toArray, List.set_cons_zero, List.set_cons_succ])
      refine wpAnyH_done (by kernel_rfl) ?_ _
      repeat (first | go_values | go_skip | go_guarded | go_step | go_upon)
      go_ret
      exact ⟨rfl, below_drew HB7.out⟩
end Go.Proofs.Ytfbipeppnffmeaa
