/- Package roll: with. -/
import Derived.Test.YtdmlolagpbobeaaRoVal
namespace Go.Proofs.Ytdmlolagpbobeaa
open Go.RowKit

set_option maxHeartbeats 8000000 in
set_option maxRecDepth 100000 in
theorem rowith_any (w : World) {t u : Ag} (ht : t.fits) (hu : u.fits) :
    Calls Try.prog 21 #[agV t, agV u] w fun e w' => e = .returned (agV (withA t u)) ∧ Below w.heap.size w w' := by
  have HVT : Hid (∀ W, Calls Try.prog 22 #[.agg #[.int .i64 t.at_, .int .i64 t.n, .int .i64 t.s, .int .i64 t.lo, .int .i64 t.hi]] W fun e w' => e = .returned (.bool (decide (0 < t.n))) ∧ Below W.heap.size W w') := Lib.hid fun W => rovalued_any W t
  have HVU : Hid (∀ W, Calls Try.prog 22 #[.agg #[.int .i64 u.at_, .int .i64 u.n, .int .i64 u.s, .int .i64 u.lo, .int .i64 u.hi]] W fun e w' => e = .returned (.bool (decide (0 < u.n))) ∧ Below W.heap.size W w') := Lib.hid fun W => rovalued_any W u
  have HAN : Hid (∀ W, Calls Try.prog 27 #[.int .i64 t.n, .int .i64 u.n] W fun e w' => e = .returned (.int .i64 (sat (t.n + u.n))) ∧ w' = W) := Lib.hid fun W => (add_any ht.n0 ht.n1 hu.n0 hu.n1 W).mono fun e w' h => ⟨h.1, h.2.symm⟩
  have HAS : Hid (∀ W, Calls Try.prog 27 #[.int .i64 t.s, .int .i64 u.s] W fun e w' => e = .returned (.int .i64 (sat (t.s + u.s))) ∧ w' = W) := Lib.hid fun W => (add_any ht.s0 ht.s1 hu.s0 hu.s1 W).mono fun e w' h => ⟨h.1, h.2.symm⟩
  obtain ⟨R, hR⟩ : ∃ R, R = withA t u := ⟨_, rfl⟩
  rw [← hR]
  have HRR := Lib.hid hR
  clear hR ht hu
  unfold agV
  go_enter Try.func21, Try.ntmps21
  go_upto_region 1 with fail
  refine wp_name fun W1 hW1 => ?_
  obtain ⟨N, hN⟩ : ∃ N, N = w.heap.size := ⟨_, rfl⟩
  obtain ⟨h1, h2, h3, h4⟩ := three_new w t u zeroAg hW1.out
  have HN := Lib.hid hN
  rw [← hN] at h1 h2 h3 ⊢
  have H1 := Lib.hid h1
  have H2 := Lib.hid h2
  have H3 := Lib.hid h3
  have H4 := Lib.hid h4
  obtain ⟨c0, c1, c2, c3, c4, -, -, -, -, -⟩ := h1.cells
  obtain ⟨d0, d1, d2, d3, d4, -, -, -, -, -⟩ := h2.cells
  clear h1 h2 h3 h4 hW1 hN
  go_wp2_with fail
  refine (HVU.out W1).mono ?_
  rintro e W2 ⟨rfl, hb⟩
  have HT2 := Lib.hid (H1.out.keep hb)
  have HU2 := Lib.hid (H2.out.keep hb)
  have HZ2 := Lib.hid (H3.out.keep hb)
  have HB2 := Lib.hid (H4.out.trans (hb.mono H4.out.size))
  clear hb c0 c1 c2 c3 c4 d0 d1 d2 d3 d4 H1 H2 H3 H4
  dsimp only
  by_cases hu : 0 < u.n
  · have tu : decide (0 < u.n) = true := decide_eq_true hu
    obtain ⟨c0, c1, c2, c3, c4, -, -, -, -, -⟩ := HT2.out.cells
    go_wp2_with fail
    refine (HVT.out W2).mono ?_
    rintro e W3 ⟨rfl, hb⟩
    have HT3 := Lib.hid (HT2.out.keep hb)
    have HU3 := Lib.hid (HU2.out.keep hb)
    have HZ3 := Lib.hid (HZ2.out.keep hb)
    have HB3 := Lib.hid (HB2.out.trans (hb.mono HB2.out.size))
    clear hb c0 c1 c2 c3 c4 HT2 HU2 HZ2 HB2
    dsimp only
    obtain ⟨c0, c1, c2, c3, c4, -, -, -, -, -⟩ := HT3.out.cells
    obtain ⟨d0, d1, d2, d3, d4, f0, f1, f2, f3, f4⟩ := HU3.out.cells
    obtain ⟨z0, z1, z2, z3, z4, g0, g1, g2, g3, g4⟩ := HZ3.out.cells
    by_cases hn : 0 < t.n
    · have tn : decide (0 < t.n) = true := decide_eq_true hn
      have e1 : Hid (R = joinA2 t u) := Lib.hid (by rw [HRR.out]; unfold withA; rw [if_neg (by omega), if_neg (by omega)])
      clear hn hu
      go_upto_region 6 with fail
      refine wp_region_still_tail 23 (by kernel_rfl) (by kernel_rfl) ?_
      simp only [List.take_succ_cons, List.take_zero, List.drop_succ_cons, List.drop_zero]
      iterate 6 still_step
      still_call (HAN.out W3.drew)
      iterate 4 still_step
      still_call (HAS.out W3.drew)
      iterate 4 still_step
      still_step
      iterate 4 still_step
      still_step
      still_step
      refine wpStill_nil ?_
      change wpList _ _ _ _ _ W3.drew
      have HZD : Hid (AgAt W3.drew (N + 1 + 1) zeroAg) := Lib.hid HZ3.out.drew
      have HBD : Hid (Below w.heap.size w W3.drew) := Lib.hid (below_drew HB3.out)
      obtain ⟨W4, hW4⟩ : ∃ W4, W4 = W3.drew := ⟨_, rfl⟩
      rw [← hW4] at HZD HBD ⊢
      clear hW4
      obtain ⟨z0, z1, z2, z3, z4, g0, g1, g2, g3, g4⟩ := HZD.out.cells
      go_wp2
      have e2 : joinA2 t u = ⟨t.at_, sat (t.n + u.n), sat (t.s + u.s), min t.lo u.lo, max t.hi u.hi⟩ := by
        unfold joinA2
        refine congr (congr (congr (congr (congrArg Ag.mk rfl) rfl) rfl) ?_) ?_ <;> split <;> omega
      have h9 := setAg_at HZD.out ⟨t.at_, sat (t.n + u.n), sat (t.s + u.s), min t.lo u.lo, max t.hi u.hi⟩
      have h8 : Below w.heap.size w (setAg W4 (N + 1 + 1) ⟨t.at_, sat (t.n + u.n), sat (t.s + u.s), min t.lo u.lo, max t.hi u.hi⟩) := HBD.out.trans ((setAg_only W4 (N + 1 + 1) _).below HBD.out.size (fun k hk => by have := HN.out; omega))
      refine bodyPost_ret (ret_ag (Q := N + 1 + 1) (t := ⟨t.at_, sat (t.n + u.n), sat (t.s + u.s), min t.lo u.lo, max t.hi u.hi⟩) rfl rfl h9) rfl ?_
      exact ⟨by rw [e1.out, e2]; rfl, h8⟩
    · have tn : decide (0 < t.n) = false := decide_eq_false hn
      have e1 : Hid (R = { u with at_ := t.at_ }) := Lib.hid (by rw [HRR.out]; unfold withA; rw [if_neg (by omega), if_pos (by omega)])
      clear hn hu
      go_wp2
      have h1 : Only (fun k => k = N + 1) W3 (W3.setCell ⟨N + 1, 0, none⟩ (.int .i64 t.at_)) := Only.setCell (S := fun k => k = N + 1) _ rfl _
      have h9 := setAg_at (HZ3.out.only h1 (by omega)) ⟨t.at_, u.n, u.s, u.lo, u.hi⟩
      have h8 : Below w.heap.size w (setAg (W3.setCell ⟨N + 1, 0, none⟩ (.int .i64 t.at_)) (N + 1 + 1) ⟨t.at_, u.n, u.s, u.lo, u.hi⟩) := (HB3.out.trans (h1.below HB3.out.size (fun k hk => by have := HN.out; omega))).trans ((setAg_only _ (N + 1 + 1) _).below (Nat.le_trans HB3.out.size h1.size) (fun k hk => by have := HN.out; omega))
      refine bodyPost_ret (ret_ag (Q := N + 1 + 1) (t := ⟨t.at_, u.n, u.s, u.lo, u.hi⟩) rfl rfl h9) rfl ?_
      exact ⟨by rw [e1.out]; rfl, h8⟩
  · have tu : decide (0 < u.n) = false := decide_eq_false hu
    have e1 : Hid (R = t) := Lib.hid (by rw [HRR.out]; unfold withA; rw [if_pos (by omega)])
    obtain ⟨c0, c1, c2, c3, c4, -, -, -, -, -⟩ := HT2.out.cells
    obtain ⟨z0, z1, z2, z3, z4, g0, g1, g2, g3, g4⟩ := HZ2.out.cells
    clear hu
    go_wp2
    refine bodyPost_ret (ret_ag (Q := N + 2) (t := t) rfl rfl (setAg_at HZ2.out t)) rfl ?_
    exact ⟨by rw [e1.out]; rfl, HB2.out.trans ((setAg_only W2 (N + 2) t).below HB2.out.size (fun k hk => by have := HN.out; omega))⟩
end Go.Proofs.Ytdmlolagpbobeaa
