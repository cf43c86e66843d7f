/- NumAddC, RoVal, RoWith, RoAdd, RoOf, RoJoin: laid into one. -/
import Derived.Test.YthbdchleppbidaaGreatMA
import Derived.Test.YthbdchleppbidaaGreatMB
import Derived.Test.YthbdchleppbidaaGreatME
import Derived.Deep.DeepCutAuto
import Derived.StillTailTactics
import Derived.Lib.MinMax
import Derived.Test.YthbdchleppbidaaGreatMC
/- nums' sum, walked: the whole number's, saturated to 64 bits. -/
namespace Go.Proofs.YthbdchleppbidaaGreat
open Go.RowKit

set_option maxHeartbeats 400000 in
theorem bound_any (b : Bool) (w : World) :
    Calls Tryz.prog 137 #[.bool b] w fun e w' => e = .returned (.int .i64 (if b then -9223372036854775808 else 9223372036854775807)) ∧ w = w' := by
  cases b
  all_goals
    go_enter Tryz.func137, Tryz.ntmps137
    go_wp2
    go_ret
    exact ⟨rfl, rfl⟩

section
variable {a b : Int} (ha : -9223372036854775808 ≤ a) (ha' : a ≤ 9223372036854775807) (hb : -9223372036854775808 ≤ b) (hb' : b ≤ 9223372036854775807)
include ha ha' hb hb'
theorem add_keep (h : (!decide (a < wrap64 (a + b)) == decide (0 < b)) = false) : wrap64 (a + b) = sat (a + b) := by
  unfold sat; unfold wrap64 at *
  by_cases h1 : 0 < b <;> simp [h1] at h <;> (repeat' split) <;> omega
theorem add_under (h : (!decide (a < wrap64 (a + b)) == decide (0 < b)) = true) (h1 : b < 0) : -9223372036854775808 = sat (a + b) := by
  refine (sat_under ?_).symm; unfold wrap64 at *
  by_cases h1 : 0 < b <;> simp [h1] at h <;> omega
theorem add_over (h : (!decide (a < wrap64 (a + b)) == decide (0 < b)) = true) (h1 : 0 ≤ b) : 9223372036854775807 = sat (a + b) := by
  refine (sat_over ?_).symm; unfold wrap64 at *
  by_cases h1 : 0 < b <;> simp [h1] at h <;> omega
set_option maxHeartbeats 400000 in
theorem nadd_any (w : World) :
    Calls Tryz.prog 123 #[.int .i64 a, .int .i64 b] w fun e w' => e = .returned (.int .i64 (sat (a + b))) ∧ w = w' := by
  go_enter Tryz.func123, Tryz.ntmps123
  go_wp2_with (go_at_call 137; refine (bound_any _ _).mono ?_; rintro e w' ⟨rfl, rfl⟩)
  all_goals go_ret
  · exact ⟨ret_i64 (add_under ha ha' hb hb' ‹_› (by omega)), rfl⟩
  · exact ⟨ret_i64 (add_over ha ha' hb hb' ‹_› (by omega)), rfl⟩
  · exact ⟨ret_i64 (add_keep ha ha' hb hb' ‹_›), rfl⟩

end
end Go.Proofs.YthbdchleppbidaaGreat
/- Package roll: valued, told. -/
namespace Go.Proofs.YthbdchleppbidaaGreat
open Go.RowKit

set_option maxHeartbeats 2000000 in
theorem rovalued_any (w : World) (t : Ag) :
    Calls Tryz.prog 122 #[agV t] w fun e w' => e = .returned (.bool (decide (0 < t.n))) ∧ Below w.heap.size w w' := by
  have HB : Hid (Below w.heap.size w (w.alloc (.cells #[.int .i64 t.at_, .int .i64 t.n, .int .i64 t.s, .int .i64 t.lo, .int .i64 t.hi] 55))) := Lib.hid ((Below.refl _ _).alloc (Nat.le_refl _) _)
  unfold agV
  go_enter Tryz.func122, Tryz.ntmps122
  go_wp2
  go_ret
  exact ⟨rfl, HB.out⟩
/-- two variables just made -/
theorem ag_two_new (w : World) (t u : Ag) {W : World} (hW : W = (w.alloc (.cells #[.int .i64 t.at_, .int .i64 t.n, .int .i64 t.s, .int .i64 t.lo, .int .i64 t.hi] 55)).alloc (.cells #[.int .i64 u.at_, .int .i64 u.n, .int .i64 u.s, .int .i64 u.lo, .int .i64 u.hi] 55)) :
    AgAt W w.heap.size t ∧ AgAt W (w.heap.size + 1) u ∧ Below w.heap.size w W := by
  subst hW
  refine ⟨(AgAt.new w t).old _, ?_, ((Below.refl _ _).alloc (Nat.le_refl _) _).alloc (by simp) _⟩
  have h := AgAt.new (w.alloc (.cells #[.int .i64 t.at_, .int .i64 t.n, .int .i64 t.s, .int .i64 t.lo, .int .i64 t.hi] 55)) u
  rw [World.size_alloc] at h
  exact h
theorem ag_three_new (w : World) (t u x : Ag) {W : World} (hW : W = ((w.alloc (.cells #[.int .i64 t.at_, .int .i64 t.n, .int .i64 t.s, .int .i64 t.lo, .int .i64 t.hi] 55)).alloc (.cells #[.int .i64 u.at_, .int .i64 u.n, .int .i64 u.s, .int .i64 u.lo, .int .i64 u.hi] 55)).alloc (.cells #[.int .i64 x.at_, .int .i64 x.n, .int .i64 x.s, .int .i64 x.lo, .int .i64 x.hi] 55)) :
    AgAt W w.heap.size t ∧ AgAt W (w.heap.size + 1) u ∧ AgAt W (w.heap.size + 1 + 1) x ∧ Below w.heap.size w W := by
  obtain ⟨W1, hW1⟩ : ∃ W1, W1 = (w.alloc (.cells #[.int .i64 t.at_, .int .i64 t.n, .int .i64 t.s, .int .i64 t.lo, .int .i64 t.hi] 55)).alloc (.cells #[.int .i64 u.at_, .int .i64 u.n, .int .i64 u.s, .int .i64 u.lo, .int .i64 u.hi] 55) := ⟨_, rfl⟩
  obtain ⟨h1, h2, h3⟩ := ag_two_new w t u hW1
  have hs : W1.heap.size = w.heap.size + 1 + 1 := by rw [hW1]; simp [World.size_alloc]
  rw [← hW1] at hW
  subst hW
  have h := AgAt.new W1 x
  rw [hs] at h
  exact ⟨h1.old _, h2.old _, h, h3.alloc h3.size _⟩
set_option maxHeartbeats 4000000 in
set_option maxRecDepth 100000 in
theorem rotold_any (w : World) (t : Ag) :
    Calls Tryz.prog 104 #[agV t] w fun e w' => e = .returned (.tuple #[if 0 < t.n then agV t else agV zeroAg, .bool (decide (0 < t.n))]) ∧ Below w.heap.size w w' := by
  have HV : Hid (∀ W, Calls Tryz.prog 122 #[.agg #[.int .i64 t.at_, .int .i64 t.n, .int .i64 t.s, .int .i64 t.lo, .int .i64 t.hi]] W fun e w' => e = .returned (.bool (decide (0 < t.n))) ∧ Below W.heap.size W w') := Lib.hid fun W => rovalued_any W t
  obtain ⟨R, hR⟩ : ∃ R, R = (if 0 < t.n then agV t else agV zeroAg) := ⟨_, rfl⟩
  rw [← hR]
  have HRR := Lib.hid hR
  clear hR
  unfold agV
  go_enter Tryz.func104, Tryz.ntmps104
  go_upto_region 1 with fail
  refine wp_name fun W1 hW1 => ?_
  obtain ⟨N, hN⟩ : ∃ N, N = w.heap.size := ⟨_, rfl⟩
  obtain ⟨h1, h2, h3⟩ := ag_two_new w t zeroAg hW1.out
  have HN := Lib.hid hN
  rw [← hN] at h1 h2 ⊢
  have H1 := Lib.hid h1
  have H2 := Lib.hid h2
  have H3 := Lib.hid h3
  obtain ⟨c0, c1, c2, c3, c4, -, -, -, -, -⟩ := h1.cells
  clear h1 h2 h3 hW1 hN
  go_wp2_with fail
  refine (HV.out W1).mono ?_
  rintro e W2 ⟨rfl, hb⟩
  have HT2 := Lib.hid (H1.out.keep hb)
  have HU2 := Lib.hid (H2.out.keep hb)
  have HB2 := Lib.hid (H3.out.trans (hb.mono H3.out.size))
  clear hb c0 c1 c2 c3 c4 H1 H2 H3
  dsimp only
  obtain ⟨c0, c1, c2, c3, c4, -, -, -, -, -⟩ := HT2.out.cells
  obtain ⟨d0, d1, d2, d3, d4, f0, f1, f2, f3, f4⟩ := HU2.out.cells
  by_cases hn : 0 < t.n
  · have tn : decide (0 < t.n) = true := decide_eq_true hn
    have e1 : Hid (R = agV t) := Lib.hid (by rw [HRR.out, if_pos hn])
    clear hn
    go_wp2
    refine bodyPost_ret (ret_ag2 (Q := N + 1) (t := t) rfl rfl (setAg_at HU2.out t)) rfl ?_
    exact ⟨by rw [e1.out, tn]; rfl, HB2.out.trans ((setAg_only W2 (N + 1) t).below HB2.out.size (fun k hk => by have := HN.out; omega))⟩
  · have tn : decide (0 < t.n) = false := decide_eq_false hn
    have e1 : Hid (R = agV zeroAg) := Lib.hid (by rw [HRR.out, if_neg hn])
    clear hn
    go_wp2
    refine bodyPost_ret (ret_ag2 (Q := N + 1) (t := zeroAg) rfl rfl (setAg_at HU2.out zeroAg)) rfl ?_
    exact ⟨by rw [e1.out, tn]; rfl, HB2.out.trans ((setAg_only W2 (N + 1) zeroAg).below HB2.out.size (fun k hk => by have := HN.out; omega))⟩
end Go.Proofs.YthbdchleppbidaaGreat
/- Package roll: with. -/
namespace Go.Proofs.YthbdchleppbidaaGreat
open Go.RowKit

set_option maxHeartbeats 8000000 in
set_option maxRecDepth 100000 in
theorem rowith_any (w : World) {t u : Ag} (ht : t.fits) (hu : u.fits) :
    Calls Tryz.prog 105 #[agV t, agV u] w fun e w' => e = .returned (agV (withA t u)) ∧ Below w.heap.size w w' := by
  have HVT : Hid (∀ W, Calls Tryz.prog 122 #[.agg #[.int .i64 t.at_, .int .i64 t.n, .int .i64 t.s, .int .i64 t.lo, .int .i64 t.hi]] W fun e w' => e = .returned (.bool (decide (0 < t.n))) ∧ Below W.heap.size W w') := Lib.hid fun W => rovalued_any W t
  have HVU : Hid (∀ W, Calls Tryz.prog 122 #[.agg #[.int .i64 u.at_, .int .i64 u.n, .int .i64 u.s, .int .i64 u.lo, .int .i64 u.hi]] W fun e w' => e = .returned (.bool (decide (0 < u.n))) ∧ Below W.heap.size W w') := Lib.hid fun W => rovalued_any W u
  have HAN : Hid (∀ W, Calls Tryz.prog 123 #[.int .i64 t.n, .int .i64 u.n] W fun e w' => e = .returned (.int .i64 (sat (t.n + u.n))) ∧ w' = W) := Lib.hid fun W => (nadd_any ht.n0 ht.n1 hu.n0 hu.n1 W).mono fun e w' h => ⟨h.1, h.2.symm⟩
  have HAS : Hid (∀ W, Calls Tryz.prog 123 #[.int .i64 t.s, .int .i64 u.s] W fun e w' => e = .returned (.int .i64 (sat (t.s + u.s))) ∧ w' = W) := Lib.hid fun W => (nadd_any ht.s0 ht.s1 hu.s0 hu.s1 W).mono fun e w' h => ⟨h.1, h.2.symm⟩
  obtain ⟨R, hR⟩ : ∃ R, R = withA t u := ⟨_, rfl⟩
  rw [← hR]
  have HRR := Lib.hid hR
  clear hR ht hu
  unfold agV
  go_enter Tryz.func105, Tryz.ntmps105
  go_upto_region 1 with fail
  refine wp_name fun W1 hW1 => ?_
  obtain ⟨N, hN⟩ : ∃ N, N = w.heap.size := ⟨_, rfl⟩
  obtain ⟨h1, h2, h3, h4⟩ := ag_three_new w t u zeroAg hW1.out
  have HN := Lib.hid hN
  rw [← hN] at h1 h2 h3 ⊢
  have H1 := Lib.hid h1
  have H2 := Lib.hid h2
  have H3 := Lib.hid h3
  have H4 := Lib.hid h4
  obtain ⟨c0, c1, c2, c3, c4, -, -, -, -, -⟩ := h1.cells
  obtain ⟨d0, d1, d2, d3, d4, -, -, -, -, -⟩ := h2.cells
  clear h1 h2 h3 h4 hW1 hN
  go_wp2_with fail
  refine (HVU.out W1).mono ?_
  rintro e W2 ⟨rfl, hb⟩
  have HT2 := Lib.hid (H1.out.keep hb)
  have HU2 := Lib.hid (H2.out.keep hb)
  have HZ2 := Lib.hid (H3.out.keep hb)
  have HB2 := Lib.hid (H4.out.trans (hb.mono H4.out.size))
  clear hb c0 c1 c2 c3 c4 d0 d1 d2 d3 d4 H1 H2 H3 H4
  dsimp only
  by_cases hu : 0 < u.n
  · have tu : decide (0 < u.n) = true := decide_eq_true hu
    obtain ⟨c0, c1, c2, c3, c4, -, -, -, -, -⟩ := HT2.out.cells
    go_wp2_with fail
    refine (HVT.out W2).mono ?_
    rintro e W3 ⟨rfl, hb⟩
    have HT3 := Lib.hid (HT2.out.keep hb)
    have HU3 := Lib.hid (HU2.out.keep hb)
    have HZ3 := Lib.hid (HZ2.out.keep hb)
    have HB3 := Lib.hid (HB2.out.trans (hb.mono HB2.out.size))
    clear hb c0 c1 c2 c3 c4 HT2 HU2 HZ2 HB2
    dsimp only
    obtain ⟨c0, c1, c2, c3, c4, -, -, -, -, -⟩ := HT3.out.cells
    obtain ⟨d0, d1, d2, d3, d4, f0, f1, f2, f3, f4⟩ := HU3.out.cells
    obtain ⟨z0, z1, z2, z3, z4, g0, g1, g2, g3, g4⟩ := HZ3.out.cells
    by_cases hn : 0 < t.n
    · have tn : decide (0 < t.n) = true := decide_eq_true hn
      have e1 : Hid (R = joinA2 t u) := Lib.hid (by rw [HRR.out]; unfold withA; rw [if_neg (by omega), if_neg (by omega)])
      clear hn hu
      go_upto_region 6 with fail
      refine wp_region_still_tail 23 (by kernel_rfl) (by kernel_rfl) ?_
      simp only [List.take_succ_cons, List.take_zero, List.drop_succ_cons, List.drop_zero]
      iterate 6 still_step
      still_call (HAN.out W3.drew)
      iterate 4 still_step
      still_call (HAS.out W3.drew)
      iterate 4 still_step
      still_step
      iterate 4 still_step
      still_step
      still_step
      refine wpStill_nil ?_
      change wpList _ _ _ _ _ W3.drew
      have HZD : Hid (AgAt W3.drew (N + 1 + 1) zeroAg) := Lib.hid HZ3.out.drew
      have HBD : Hid (Below w.heap.size w W3.drew) := Lib.hid (below_drew HB3.out)
      obtain ⟨W4, hW4⟩ : ∃ W4, W4 = W3.drew := ⟨_, rfl⟩
      rw [← hW4] at HZD HBD ⊢
      clear hW4
      obtain ⟨z0, z1, z2, z3, z4, g0, g1, g2, g3, g4⟩ := HZD.out.cells
      go_wp2
      have e2 : joinA2 t u = ⟨t.at_, sat (t.n + u.n), sat (t.s + u.s), min t.lo u.lo, max t.hi u.hi⟩ := by
        unfold joinA2
        refine congr (congr (congr (congr (congrArg Ag.mk rfl) rfl) rfl) ?_) ?_ <;> split <;> omega
      have h9 := setAg_at HZD.out ⟨t.at_, sat (t.n + u.n), sat (t.s + u.s), min t.lo u.lo, max t.hi u.hi⟩
      have h8 : Below w.heap.size w (setAg W4 (N + 1 + 1) ⟨t.at_, sat (t.n + u.n), sat (t.s + u.s), min t.lo u.lo, max t.hi u.hi⟩) := HBD.out.trans ((setAg_only W4 (N + 1 + 1) _).below HBD.out.size (fun k hk => by have := HN.out; omega))
      refine bodyPost_ret (ret_ag (Q := N + 1 + 1) (t := ⟨t.at_, sat (t.n + u.n), sat (t.s + u.s), min t.lo u.lo, max t.hi u.hi⟩) rfl rfl h9) rfl ?_
      exact ⟨by rw [e1.out, e2]; rfl, h8⟩
    · have tn : decide (0 < t.n) = false := decide_eq_false hn
      have e1 : Hid (R = { u with at_ := t.at_ }) := Lib.hid (by rw [HRR.out]; unfold withA; rw [if_neg (by omega), if_pos (by omega)])
      clear hn hu
      go_wp2
      have h1 : Only (fun k => k = N + 1) W3 (W3.setCell ⟨N + 1, 0, none⟩ (.int .i64 t.at_)) := Only.setCell (S := fun k => k = N + 1) _ rfl _
      have h9 := setAg_at (HZ3.out.only h1 (by omega)) ⟨t.at_, u.n, u.s, u.lo, u.hi⟩
      have h8 : Below w.heap.size w (setAg (W3.setCell ⟨N + 1, 0, none⟩ (.int .i64 t.at_)) (N + 1 + 1) ⟨t.at_, u.n, u.s, u.lo, u.hi⟩) := (HB3.out.trans (h1.below HB3.out.size (fun k hk => by have := HN.out; omega))).trans ((setAg_only _ (N + 1 + 1) _).below (Nat.le_trans HB3.out.size h1.size) (fun k hk => by have := HN.out; omega))
      refine bodyPost_ret (ret_ag (Q := N + 1 + 1) (t := ⟨t.at_, u.n, u.s, u.lo, u.hi⟩) rfl rfl h9) rfl ?_
      exact ⟨by rw [e1.out]; rfl, h8⟩
  · have tu : decide (0 < u.n) = false := decide_eq_false hu
    have e1 : Hid (R = t) := Lib.hid (by rw [HRR.out]; unfold withA; rw [if_pos (by omega)])
    obtain ⟨c0, c1, c2, c3, c4, -, -, -, -, -⟩ := HT2.out.cells
    obtain ⟨z0, z1, z2, z3, z4, g0, g1, g2, g3, g4⟩ := HZ2.out.cells
    clear hu
    go_wp2
    refine bodyPost_ret (ret_ag (Q := N + 2) (t := t) rfl rfl (setAg_at HZ2.out t)) rfl ?_
    exact ⟨by rw [e1.out]; rfl, HB2.out.trans ((setAg_only W2 (N + 2) t).below HB2.out.size (fun k hk => by have := HN.out; omega))⟩
end Go.Proofs.YthbdchleppbidaaGreat
/- Package roll: Add. -/
namespace Go.Proofs.YthbdchleppbidaaGreat
open Go.RowKit

set_option maxHeartbeats 4000000 in
set_option maxRecDepth 100000 in
theorem roadd_any (w : World) {t : Ag} (ht : t.fits) {v : Int} (h0 : -9223372036854775808 ≤ v) (h1 : v ≤ 9223372036854775807) :
    Calls Tryz.prog 103 #[agV t, .int .i64 v] w fun e w' => e = .returned (agV (addA t v)) ∧ Below w.heap.size w w' := by
  have HW : Hid (∀ W, Calls Tryz.prog 105 #[.agg #[.int .i64 t.at_, .int .i64 t.n, .int .i64 t.s, .int .i64 t.lo, .int .i64 t.hi], .agg #[.int .i64 0, .int .i64 1, .int .i64 v, .int .i64 v, .int .i64 v]] W fun e w' => e = .returned (agV (addA t v)) ∧ Below W.heap.size W w') := Lib.hid fun W => rowith_any W ht (oneA_fits h0 h1)
  obtain ⟨R, hR⟩ : ∃ R, R = addA t v := ⟨_, rfl⟩
  rw [← hR] at HW ⊢
  clear hR ht
  unfold agV at HW ⊢
  go_enter Tryz.func103, Tryz.ntmps103
  go_upto_region 1 with fail
  refine wp_name fun W1 hW1 => ?_
  obtain ⟨N, hN⟩ : ∃ N, N = w.heap.size := ⟨_, rfl⟩
  obtain ⟨h1, h2, h3⟩ := ag_two_new w t zeroAg hW1.out
  have HN := Lib.hid hN
  rw [← hN] at h1 h2 ⊢
  have H2 := Lib.hid h2
  have H3 := Lib.hid h3
  obtain ⟨c0, c1, c2, c3, c4, -, -, -, -, -⟩ := h1.cells
  clear h1 h2 h3 hW1 hN
  go_wp2_with fail
  refine (HW.out W1).mono ?_
  rintro e W2 ⟨rfl, hb⟩
  have HZ2 := Lib.hid (H2.out.keep hb)
  have HB2 := Lib.hid (H3.out.trans (hb.mono H3.out.size))
  clear hb c0 c1 c2 c3 c4 H2 H3
  dsimp only
  obtain ⟨z0, z1, z2, z3, z4, g0, g1, g2, g3, g4⟩ := HZ2.out.cells
  go_wp2
  refine bodyPost_ret (ret_ag (Q := N + 1) (t := R) rfl rfl (setAg_at HZ2.out R)) rfl ?_
  exact ⟨rfl, HB2.out.trans ((setAg_only W2 (N + 1) R).below HB2.out.size (fun k hk => by have := HN.out; omega))⟩
end Go.Proofs.YthbdchleppbidaaGreat
/- Package roll: Of. -/
namespace Go.Proofs.YthbdchleppbidaaGreat
open Go.RowKit

/-- what Of tells -/
def ofR (k : Int) (l : List Pt) : Ag := if l = [] then zeroAg else ofA k l
theorem ofR_told (k : Int) (l : List Pt) : (if 0 < (ofA k l).n then agV (ofA k l) else agV zeroAg) = agV (ofR k l) ∧ decide (0 < (ofA k l).n) = !l.isEmpty := by
  rw [ofA_n]
  unfold ofR
  cases l with
  | nil => exact ⟨rfl, rfl⟩
  | cons p r =>
    have h : (0 : Int) < ((p :: r).length : Nat) := by rw [List.length_cons]; omega
    rw [if_pos h, if_neg (by simp), decide_eq_true h]
    exact ⟨rfl, rfl⟩
set_option maxHeartbeats 8000000 in
set_option maxRecDepth 100000 in
theorem roof_any {w : World} {k : Int} (hk0 : -9223372036854775808 ≤ k) (hk1 : k ≤ 9223372036854775807) {v : Value} {l : List Pt} (hv : PLies w v l) (hf : ∀ p ∈ l, p.fits) (hl : l.length ≤ 1000000000) :
    Calls Tryz.prog 65 #[.int .i64 k, v] w fun e w' => e = .returned (.tuple #[agV (ofR k l), .bool (!l.isEmpty)]) ∧ Below w.heap.size w w' := by
  obtain ⟨a, b, off, cap, rfl, hadr, hpts⟩ := hv
  have HADR := Lib.hid hadr
  have HP := Lib.hid hpts
  have HF := Lib.hid hf
  have HL : Hid (l.length < 9223372036854775807) := Lib.hid (by omega)
  have HK := Lib.hid (And.intro hk0 hk1)
  have HTO := Lib.hid (ofR_told k l)
  have hlen : l.length ≤ 9223372036854775807 := by have := HL.out; omega
  clear hadr hpts hf hl hk0 hk1
  obtain ⟨G, hG⟩ : ∃ G, G = ofR k l := ⟨_, rfl⟩
  obtain ⟨S, hS⟩ : ∃ S, S = !l.isEmpty := ⟨_, rfl⟩
  rw [← hG, ← hS] at HTO ⊢
  clear hG hS
  go_enter Tryz.func65, Tryz.ntmps65
  go_upto_region 2 with fail
  refine wp_name fun W1 hW1 => ?_
  obtain ⟨N, hN⟩ : ∃ N, N = w.heap.size := ⟨_, rfl⟩
  obtain ⟨h1, h2, h3⟩ := ag_two_new w zeroAg (noAg k) hW1.out
  have HN := Lib.hid hN
  rw [← hN] at h1 h2 ⊢
  have H1 := Lib.hid h1
  have H2 := Lib.hid h2
  have H3 := Lib.hid h3
  clear h1 h2 h3 hW1 hN
  go_wp2_with fail
  go_loopw [13] (fun c wr => ∃ j : Nat, j ≤ l.length ∧ c = .int .i64 j ∧ AgAt wr N zeroAg ∧ AgAt wr (N + 1) (ofA k (l.take j)) ∧ Below w.heap.size w wr) (fun c _ => l.length - (intOf c).toNat)
  case atStart => exact ⟨0, Nat.zero_le _, rfl, H1.out, H2.out, H3.out⟩
  case round =>
    obtain ⟨j, hj, rfl, hz, ho, hb⟩ := hrel
    obtain ⟨W3, hW3⟩ : ∃ W3, W3 = wr := ⟨_, rfl⟩
    subst hW3
    have HZ3 := Lib.hid hz
    have HO3 := Lib.hid ho
    have HB3 := Lib.hid hb
    have HP3 := Lib.hid (HP.out.beyond hb)
    clear hz ho hb H1 H2 H3
    by_cases hlt : j < l.length
    · have ea := HADR.out (by intro h; simp [h] at hlt)
      subst ea
      obtain ⟨p, hp⟩ : ∃ p, l[j]? = some p := ⟨l[j], List.getElem?_eq_getElem hlt⟩
      obtain ⟨c0, c1⟩ := HP3.out j p hp
      have HPK := Lib.hid hp
      clear hp
      go_upto_region 5 with fail
      refine wp_name fun W4 hW4 => ?_
      obtain ⟨M, hM⟩ : ∃ M, M = W3.heap.size := ⟨_, rfl⟩
      have hb4 : Below W3.heap.size W3 W4 := by rw [hW4.out]; exact (Below.refl _ _).alloc (Nat.le_refl _) _
      have HZ4 := Lib.hid (HZ3.out.keep hb4)
      have HO4 := Lib.hid (HO3.out.keep hb4)
      have HB4 := Lib.hid (HB3.out.trans (hb4.mono HB3.out.size))
      have p1 : W4.cell? ⟨M, 1, none⟩ = some (.int .i64 p.v) := by rw [hW4.out, hM]; exact (cells2 (heap_alloc_new W3 _)).2.1
      rw [← hM]
      clear hb4 hW4 hM c0 c1 HZ3 HO3 HP3
      obtain ⟨A, hA⟩ : ∃ A, A = ofA k (l.take j) := ⟨_, rfl⟩
      obtain ⟨A', hA'⟩ : ∃ A', A' = ofA k (l.take (j + 1)) := ⟨_, rfl⟩
      have HAF : Hid (A.fits) := Lib.hid (by rw [hA]; exact ofA_fits HK.out.1 HK.out.2 (fun p hp => HF.out p (List.mem_of_mem_take hp)) (by rw [List.length_take]; have := HL.out; omega))
      have HAA : Hid (addA A p.v = A') := Lib.hid (by rw [hA, hA', take_snoc HPK.out]; exact ofA_add (by rw [List.length_take]; have := HL.out; omega))
      have HPF := HF.out p (List.mem_of_getElem? HPK.out)
      have hcall := roadd_any W4 HAF.out HPF.2.2.1 HPF.2.2.2
      rw [HAA.out] at hcall
      have HCA := Lib.hid hcall
      rw [← hA] at HO4
      have HAE := Lib.hid hA'
      clear hcall hA HPF hA'
      obtain ⟨z0, z1, z2, z3, z4, g0, g1, g2, g3, g4⟩ := HO4.out.cells
      go_wp2_with fail
      refine (HCA.out).mono ?_
      rintro e W5 ⟨rfl, hb5⟩
      have HZ5 := Lib.hid (HZ4.out.keep hb5)
      have HO5 := Lib.hid (HO4.out.keep hb5)
      have HB5 := Lib.hid (HB4.out.trans (hb5.mono HB4.out.size))
      clear hb5 z0 z1 z2 z3 z4 g0 g1 g2 g3 g4 HZ4 HO4 HB4 p1
      unfold agV
      obtain ⟨z0, z1, z2, z3, z4, g0, g1, g2, g3, g4⟩ := HO5.out.cells
      go_wp2_with fail
      have h9 := setAg_at HO5.out A'
      have h8 := HB5.out.trans ((setAg_only W5 (N + 1) A').below HB5.out.size (fun k hk => by have := HN.out; omega))
      have h7 := HZ5.out.only (setAg_only W5 (N + 1) A') (by omega)
      have HREL : Hid (AgAt (setAg W5 (N + 1) A') N zeroAg ∧ AgAt (setAg W5 (N + 1) A') (N + 1) (ofA k (l.take (j + 1))) ∧ Below w.heap.size w (setAg W5 (N + 1) A')) := Lib.hid ⟨h7, by rw [← HAE.out]; exact h9, h8⟩
      clear h7 h8 h9
      go_roundw
      case rel => exact ⟨j + 1, by omega, by go_num, HREL.out⟩
      case measure => simp [intOf]; omega
    · obtain rfl : j = l.length := by omega
      obtain ⟨A, hA⟩ : ∃ A, A = ofA k l := ⟨_, rfl⟩
      have HO4 : Hid (AgAt W3 (N + 1) A) := Lib.hid (by have h := HO3.out; rw [List.take_of_length_le (Nat.le_refl _)] at h; rw [hA]; exact h)
      have hcall := rotold_any W3 A
      obtain ⟨e1, e2⟩ := HTO.out
      rw [← hA] at e1 e2
      rw [e1, e2] at hcall
      have HCA := Lib.hid hcall
      clear hcall hA e1 e2
      obtain ⟨z0, z1, z2, z3, z4, -, -, -, -, -⟩ := HO4.out.cells
      go_wp2_with fail
      refine (HCA.out).mono ?_
      rintro e W5 ⟨rfl, hb5⟩
      have HZ5 := Lib.hid (HZ3.out.keep hb5)
      have HB5 := Lib.hid (HB3.out.trans (hb5.mono HB3.out.size))
      clear hb5 z0 z1 z2 z3 z4 HO4 HO3 HZ3 HB3 HP3
      dsimp only
      unfold agV
      obtain ⟨z0, z1, z2, z3, z4, g0, g1, g2, g3, g4⟩ := HZ5.out.cells
      go_wp2
      refine bodyPost_ret (ret_ag2 (Q := N) (t := G) rfl rfl (setAg_at HZ5.out G)) rfl ?_
      exact ⟨rfl, HB5.out.trans ((setAg_only W5 N G).below HB5.out.size (fun k hk => by have := HN.out; omega))⟩
end Go.Proofs.YthbdchleppbidaaGreat
/- Package roll: Join. -/
namespace Go.Proofs.YthbdchleppbidaaGreat
open Go.RowKit

/-- what Join tells -/
def joinR (k : Int) (l : List Ag) : Ag := (joinA k l).getD zeroAg
theorem joinR_told (k : Int) (l : List Ag) : (if 0 < (accA k l).n then agV (accA k l) else agV zeroAg) = agV (joinR k l) ∧ decide (0 < (accA k l).n) = (joinA k l).isSome := by
  have h := acc_told k l
  unfold joinR
  rw [← h]
  by_cases h0 : 0 < (accA k l).n
  · rw [if_pos h0, if_pos h0, decide_eq_true h0]; exact ⟨rfl, rfl⟩
  · rw [if_neg h0, if_neg h0, decide_eq_false h0]; exact ⟨rfl, rfl⟩
set_option maxHeartbeats 8000000 in
set_option maxRecDepth 100000 in
theorem rojoin_any {w : World} {k : Int} (hk0 : -9223372036854775808 ≤ k) (hk1 : k ≤ 9223372036854775807) {v : Value} {l : List Ag} (hv : ALies w v l) (hf : ∀ p ∈ l, p.fits) (hl : l.length ≤ 1000000000) :
    Calls Tryz.prog 67 #[.int .i64 k, v] w fun e w' => e = .returned (.tuple #[agV (joinR k l), .bool (joinA k l).isSome]) ∧ Below w.heap.size w w' := by
  obtain ⟨a, b, off, cap, rfl, hadr, hpts⟩ := hv
  have HADR := Lib.hid hadr
  have HP := Lib.hid hpts
  have HF := Lib.hid hf
  have HL : Hid (l.length < 9223372036854775807) := Lib.hid (by omega)
  have HK := Lib.hid (And.intro hk0 hk1)
  have HTO := Lib.hid (joinR_told k l)
  have hlen : l.length ≤ 9223372036854775807 := by have := HL.out; omega
  clear hadr hpts hf hl hk0 hk1
  obtain ⟨G, hG⟩ : ∃ G, G = joinR k l := ⟨_, rfl⟩
  obtain ⟨S, hS⟩ : ∃ S, S = (joinA k l).isSome := ⟨_, rfl⟩
  rw [← hG, ← hS] at HTO ⊢
  clear hG hS
  go_enter Tryz.func67, Tryz.ntmps67
  go_upto_region 2 with fail
  refine wp_name fun W1 hW1 => ?_
  obtain ⟨N, hN⟩ : ∃ N, N = w.heap.size := ⟨_, rfl⟩
  obtain ⟨h1, h2, h3⟩ := ag_two_new w zeroAg (noAg k) hW1.out
  have HN := Lib.hid hN
  rw [← hN] at h1 h2 ⊢
  have H1 := Lib.hid h1
  have H2 := Lib.hid h2
  have H3 := Lib.hid h3
  clear h1 h2 h3 hW1 hN
  go_wp2_with fail
  go_loopw [13] (fun c wr => ∃ j : Nat, j ≤ l.length ∧ c = .int .i64 j ∧ AgAt wr N zeroAg ∧ AgAt wr (N + 1) (accA k (l.take j)) ∧ Below w.heap.size w wr) (fun c _ => l.length - (intOf c).toNat)
  case atStart => exact ⟨0, Nat.zero_le _, rfl, H1.out, H2.out, H3.out⟩
  case round =>
    obtain ⟨j, hj, rfl, hz, ho, hb⟩ := hrel
    obtain ⟨W3, hW3⟩ : ∃ W3, W3 = wr := ⟨_, rfl⟩
    subst hW3
    have HZ3 := Lib.hid hz
    have HO3 := Lib.hid ho
    have HB3 := Lib.hid hb
    have HP3 := Lib.hid (HP.out.beyond hb)
    clear hz ho hb H1 H2 H3
    by_cases hlt : j < l.length
    · have ea := HADR.out (by intro h; simp [h] at hlt)
      subst ea
      obtain ⟨p, hp⟩ : ∃ p, l[j]? = some p := ⟨l[j], List.getElem?_eq_getElem hlt⟩
      obtain ⟨c0, c1, c2, c3, c4⟩ := HP3.out j p hp
      have HPK := Lib.hid hp
      clear hp
      go_upto_region 5 with fail
      refine wp_name fun W4 hW4 => ?_
      obtain ⟨M, hM⟩ : ∃ M, M = W3.heap.size := ⟨_, rfl⟩
      have hb4 : Below W3.heap.size W3 W4 := by rw [hW4.out]; exact (Below.refl _ _).alloc (Nat.le_refl _) _
      have HZ4 := Lib.hid (HZ3.out.keep hb4)
      have HO4 := Lib.hid (HO3.out.keep hb4)
      have HB4 := Lib.hid (HB3.out.trans (hb4.mono HB3.out.size))
      have HM4 : Hid (AgAt W4 M p) := Lib.hid (by rw [hW4.out, hM]; exact AgAt.new W3 p)
      obtain ⟨p0, p1, p2, p3, p4, -, -, -, -, -⟩ := HM4.out.cells
      rw [← hM]
      clear hb4 hW4 hM c0 c1 c2 c3 c4 HZ3 HO3 HP3
      obtain ⟨A, hA⟩ : ∃ A, A = accA k (l.take j) := ⟨_, rfl⟩
      obtain ⟨A', hA'⟩ : ∃ A', A' = accA k (l.take (j + 1)) := ⟨_, rfl⟩
      have HAF : Hid (A.fits) := Lib.hid (by rw [hA]; exact accA_fits HK.out.1 HK.out.2 (fun p hp => HF.out p (List.mem_of_mem_take hp)))
      have HAA : Hid (withA A p = A') := Lib.hid (by rw [hA, hA', take_snoc HPK.out]; exact (accA_snoc _ _ _).symm)
      have HPF := HF.out p (List.mem_of_getElem? HPK.out)
      have hcall := rowith_any W4 HAF.out HPF
      rw [HAA.out] at hcall
      have HCA := Lib.hid hcall
      rw [← hA] at HO4
      have HAE := Lib.hid hA'
      clear hcall hA HPF hA'
      obtain ⟨z0, z1, z2, z3, z4, g0, g1, g2, g3, g4⟩ := HO4.out.cells
      go_wp2_with fail
      refine (HCA.out).mono ?_
      rintro e W5 ⟨rfl, hb5⟩
      have HZ5 := Lib.hid (HZ4.out.keep hb5)
      have HO5 := Lib.hid (HO4.out.keep hb5)
      have HB5 := Lib.hid (HB4.out.trans (hb5.mono HB4.out.size))
      clear hb5 z0 z1 z2 z3 z4 g0 g1 g2 g3 g4 HZ4 HO4 HB4 HM4 p0 p1 p2 p3 p4
      unfold agV
      obtain ⟨z0, z1, z2, z3, z4, g0, g1, g2, g3, g4⟩ := HO5.out.cells
      go_wp2_with fail
      have h9 := setAg_at HO5.out A'
      have h8 := HB5.out.trans ((setAg_only W5 (N + 1) A').below HB5.out.size (fun k hk => by have := HN.out; omega))
      have h7 := HZ5.out.only (setAg_only W5 (N + 1) A') (by omega)
      have HREL : Hid (AgAt (setAg W5 (N + 1) A') N zeroAg ∧ AgAt (setAg W5 (N + 1) A') (N + 1) (accA k (l.take (j + 1))) ∧ Below w.heap.size w (setAg W5 (N + 1) A')) := Lib.hid ⟨h7, by rw [← HAE.out]; exact h9, h8⟩
      clear h7 h8 h9
      go_roundw
      case rel => exact ⟨j + 1, by omega, by go_num, HREL.out⟩
      case measure => simp [intOf]; omega
    · obtain rfl : j = l.length := by omega
      obtain ⟨A, hA⟩ : ∃ A, A = accA k l := ⟨_, rfl⟩
      have HO4 : Hid (AgAt W3 (N + 1) A) := Lib.hid (by have h := HO3.out; rw [List.take_of_length_le (Nat.le_refl _)] at h; rw [hA]; exact h)
      have hcall := rotold_any W3 A
      obtain ⟨e1, e2⟩ := HTO.out
      rw [← hA] at e1 e2
      rw [e1, e2] at hcall
      have HCA := Lib.hid hcall
      clear hcall hA e1 e2
      obtain ⟨z0, z1, z2, z3, z4, -, -, -, -, -⟩ := HO4.out.cells
      go_wp2_with fail
      refine (HCA.out).mono ?_
      rintro e W5 ⟨rfl, hb5⟩
      have HZ5 := Lib.hid (HZ3.out.keep hb5)
      have HB5 := Lib.hid (HB3.out.trans (hb5.mono HB3.out.size))
      clear hb5 z0 z1 z2 z3 z4 HO4 HO3 HZ3 HB3 HP3
      dsimp only
      unfold agV
      obtain ⟨z0, z1, z2, z3, z4, g0, g1, g2, g3, g4⟩ := HZ5.out.cells
      go_wp2
      refine bodyPost_ret (ret_ag2 (Q := N) (t := G) rfl rfl (setAg_at HZ5.out G)) rfl ?_
      exact ⟨rfl, HB5.out.trans ((setAg_only W5 N G).below HB5.out.size (fun k hk => by have := HN.out; omega))⟩
end Go.Proofs.YthbdchleppbidaaGreat
