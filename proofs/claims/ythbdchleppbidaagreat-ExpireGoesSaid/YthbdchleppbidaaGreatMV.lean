/- TiPur0, TiRen0, TiRenM, TiRenL, TiPurge, TierW: laid into one. -/
import Derived.Test.YthbdchleppbidaaGreatMT
import Derived.Test.YthbdchleppbidaaGreatMU
import Derived.Test.YthbdchleppbidaaGreatMR
import Derived.Deep.DeepCutAuto
import Derived.Test.YthbdchleppbidaaGreatMS
import Derived.Deep.RegionHeld3
/- Package tier: what is left of a window: Purge's two functions. Written by py/ti-pur.py. -/
namespace Go.Proofs.YthbdchleppbidaaGreat
open Go.RowKit

theorem range_agg_new (w : World) (a b : Int) {W : World} (hW : W = (w.alloc (.cells #[.int .i64 a, .int .i64 b] 41)).alloc (.cells #[.int .i64 0, .int .i64 0, .int .i64 0, .int .i64 0, .int .i64 0] 55)) : RgAt W w.heap.size a b ∧ AgAt W (w.heap.size + 1) zeroAg ∧ Below w.heap.size w W := by
  subst hW
  have h1 := RgAt.new w a b
  have h2 := AgAt.new (w.alloc (.cells #[.int .i64 a, .int .i64 b] 41)) zeroAg
  rw [show (w.alloc (.cells #[.int .i64 a, .int .i64 b] 41)).heap.size = w.heap.size + 1 by simp] at h2
  exact ⟨h1.old _, h2, ((Below.refl _ w).alloc (Nat.le_refl _) _).alloc (by simp) _⟩
theorem pur_on {W W' : World} {P B p sp : Nat} {a b : Int} (h : W.cell? ⟨P, 0, none⟩ = some (.int .i64 a) ∧ W.cell? ⟨P, 1, none⟩ = some (.int .i64 b) ∧ W.cell? ⟨p, 0, none⟩ = some (.pointer (some ⟨sp, 0, none⟩)) ∧ W.cell? ⟨B, 0, none⟩ = some (.pointer (some ⟨p, 0, none⟩))) (hb : Below W.heap.size W W') : W'.cell? ⟨P, 0, none⟩ = some (.int .i64 a) ∧ W'.cell? ⟨P, 1, none⟩ = some (.int .i64 b) ∧ W'.cell? ⟨p, 0, none⟩ = some (.pointer (some ⟨sp, 0, none⟩)) ∧ W'.cell? ⟨B, 0, none⟩ = some (.pointer (some ⟨p, 0, none⟩)) :=
  ⟨(hb.cell (p := ⟨P, 0, none⟩) (cell_lt h.1)).trans h.1, (hb.cell (p := ⟨P, 1, none⟩) (cell_lt h.2.1)).trans h.2.1, (hb.cell (p := ⟨p, 0, none⟩) (cell_lt h.2.2.1)).trans h.2.2.1, (hb.cell (p := ⟨B, 0, none⟩) (cell_lt h.2.2.2)).trans h.2.2.2⟩
theorem pur_set {W : World} {P B p sp N : Nat} {a b : Int} {t : Ag} (h : W.cell? ⟨P, 0, none⟩ = some (.int .i64 a) ∧ W.cell? ⟨P, 1, none⟩ = some (.int .i64 b) ∧ W.cell? ⟨p, 0, none⟩ = some (.pointer (some ⟨sp, 0, none⟩)) ∧ W.cell? ⟨B, 0, none⟩ = some (.pointer (some ⟨p, 0, none⟩))) (hne : P ≠ N ∧ p ≠ N ∧ B ≠ N) : (setAg W N t).cell? ⟨P, 0, none⟩ = some (.int .i64 a) ∧ (setAg W N t).cell? ⟨P, 1, none⟩ = some (.int .i64 b) ∧ (setAg W N t).cell? ⟨p, 0, none⟩ = some (.pointer (some ⟨sp, 0, none⟩)) ∧ (setAg W N t).cell? ⟨B, 0, none⟩ = some (.pointer (some ⟨p, 0, none⟩)) := by
  have ho := setAg_only W N t
  exact ⟨(World.cell?_of_block (a := ⟨P, 0, none⟩) (ho.block P (cell_lt h.1) hne.1)).trans h.1, (World.cell?_of_block (a := ⟨P, 1, none⟩) (ho.block P (cell_lt h.1) hne.1)).trans h.2.1, (World.cell?_of_block (a := ⟨p, 0, none⟩) (ho.block p (cell_lt h.2.2.1) hne.2.1)).trans h.2.2.1, (World.cell?_of_block (a := ⟨B, 0, none⟩) (ho.block B (cell_lt h.2.2.2) hne.2.2)).trans h.2.2.2⟩
set_option maxHeartbeats 8000000 in
set_option maxRecDepth 100000 in
theorem tipur1_any {w : World} {B p sp : Nat} {v vm vl : Value} {s : Stk} (h : TSit w p sp v vm vl s) (hc : CapAt w B p) {a b : Int} (ha0 : -9223372036854775808 ≤ a) (ha1 : a ≤ 9223372036854775807) :
    Calls Tryz.prog 64 #[.agg #[.int .i64 a, .int .i64 b], .pointer (some ⟨B, 0, none⟩)] w fun e w' => e = .returned (.tuple #[agV (ofR a (getL s.raw a b)), .bool (!(getL s.raw a b).isEmpty)]) ∧ Below w.heap.size w w' := by
  have HG : Hid (∀ W, Below w.heap.size w W → Calls Tryz.prog 37 #[.pointer (some ⟨sp, 0, none⟩), .agg #[.int .i64 a, .int .i64 b]] W fun e w' => ∃ v', e = .returned v' ∧ PtRowB W.heap.size w' v' (getL s.raw a b) ∧ Below W.heap.size W w') := Lib.hid fun W hb => seget_any (h.ser.keep hb) a b
  have HRP : Hid (∀ W B' u, PtRowB B' W u (getL s.raw a b) → Calls Tryz.prog 65 #[.int .i64 a, u] W fun e w' => e = .returned (.tuple #[agV (ofR a (getL s.raw a b)), .bool (!(getL s.raw a b).isEmpty)]) ∧ Below W.heap.size W w') := Lib.hid fun W B' u hu => roof_any ha0 ha1 hu.plies (fun q hq => h.good.pfits q (List.mem_filter.1 hq).1) (by have h1 : (getL s.raw a b).length ≤ s.raw.length := List.length_filter_le _ _; have := h.good.plen; omega)
  obtain ⟨c0, -, -, -, -, -, -⟩ := h.cells
  have cb := hc.cell
  have hplt : p < w.heap.size := cell_lt c0
  have hBlt : B < w.heap.size := cell_lt cb
  obtain ⟨G, hG⟩ : ∃ G, G = getL s.raw a b := ⟨_, rfl⟩
  rw [← hG] at HG HRP ⊢
  obtain ⟨O, hO⟩ : ∃ O, O = ofR a G := ⟨_, rfl⟩
  obtain ⟨Q, hQ⟩ : ∃ Q, Q = (!G.isEmpty) := ⟨_, rfl⟩
  rw [← hO, ← hQ] at HRP ⊢
  clear hG hO hQ h hc ha0 ha1
  go_enter Tryz.func64, Tryz.ntmps64
  go_upto_region 1 with fail
  refine wp_name fun W1 hW1 => ?_
  obtain ⟨P, hP⟩ : ∃ P, P = w.heap.size := ⟨_, rfl⟩
  obtain ⟨hR1, hN1, hb1⟩ := range_agg_new w a b hW1.out
  have HG1 := Lib.hid (HG.out _ (below_drew hb1))
  rw [← hP] at hR1 hN1
  have HC : Hid (W1.cell? ⟨P, 0, none⟩ = some (.int .i64 a) ∧ W1.cell? ⟨P, 1, none⟩ = some (.int .i64 b) ∧ W1.cell? ⟨p, 0, none⟩ = some (.pointer (some ⟨sp, 0, none⟩)) ∧ W1.cell? ⟨B, 0, none⟩ = some (.pointer (some ⟨p, 0, none⟩))) := Lib.hid ⟨hR1.cells.1, hR1.cells.2.1, (hb1.cell (p := ⟨p, 0, none⟩) (cell_lt c0)).trans c0, (hb1.cell (p := ⟨B, 0, none⟩) (cell_lt cb)).trans cb⟩
  have HCD : Hid (W1.drew.cell? ⟨P, 0, none⟩ = some (.int .i64 a) ∧ W1.drew.cell? ⟨P, 1, none⟩ = some (.int .i64 b) ∧ W1.drew.cell? ⟨p, 0, none⟩ = some (.pointer (some ⟨sp, 0, none⟩)) ∧ W1.drew.cell? ⟨B, 0, none⟩ = some (.pointer (some ⟨p, 0, none⟩))) := Lib.hid HC.out
  have HB1 := Lib.hid hb1
  have HN1 := Lib.hid hN1
  have HNE : Hid (P ≠ P + 1 ∧ p ≠ P + 1 ∧ B ≠ P + 1) := Lib.hid (by omega)
  have HPW := Lib.hid hP
  rw [← hP]
  clear hW1 hb1 hP hR1 hN1 HG c0 cb hplt hBlt
  go_region_held3 (fun w' => w'.cell? ⟨P, 0, none⟩ = some (.int .i64 a) ∧ w'.cell? ⟨P, 1, none⟩ = some (.int .i64 b) ∧ w'.cell? ⟨p, 0, none⟩ = some (.pointer (some ⟨sp, 0, none⟩)) ∧ w'.cell? ⟨B, 0, none⟩ = some (.pointer (some ⟨p, 0, none⟩))) (first | with_reducible exact HC.out | with_reducible exact HCD.out | with_reducible exact HC2.out | with_reducible exact HC3.out | exact pur_set (W := W3) (N := P + 1) (t := O) HC3.out HNE.out) ((first | (go_at_call 37; refine (HG1.out).mono ?_; rintro e W2 ⟨v2, rfl, hr2, hb2⟩; have HC2 : Hid (W2.cell? ⟨P, 0, none⟩ = some (.int .i64 a) ∧ W2.cell? ⟨P, 1, none⟩ = some (.int .i64 b) ∧ W2.cell? ⟨p, 0, none⟩ = some (.pointer (some ⟨sp, 0, none⟩)) ∧ W2.cell? ⟨B, 0, none⟩ = some (.pointer (some ⟨p, 0, none⟩))) := Lib.hid (pur_on (W := W1.drew) HC.out hb2); have HB2 : Hid (Below w.heap.size w W2) := Lib.hid (HB1.out.trans ((below_drew (Below.refl w.heap.size W1)).trans (hb2.mono HB1.out.size))); have HN2 := Lib.hid (HN1.out.drew.keep hb2); have HP2 := Lib.hid (HRP.out W2 _ v2 hr2); clear hb2 hr2) | (go_at_call 65; refine (HP2.out).mono ?_; rintro e W3 ⟨rfl, hb3⟩; have HC3 : Hid (W3.cell? ⟨P, 0, none⟩ = some (.int .i64 a) ∧ W3.cell? ⟨P, 1, none⟩ = some (.int .i64 b) ∧ W3.cell? ⟨p, 0, none⟩ = some (.pointer (some ⟨sp, 0, none⟩)) ∧ W3.cell? ⟨B, 0, none⟩ = some (.pointer (some ⟨p, 0, none⟩))) := Lib.hid (pur_on HC2.out hb3); have HB3 : Hid (Below w.heap.size w W3) := Lib.hid (HB2.out.trans (hb3.mono HB2.out.size)); have HN3 := Lib.hid (HN2.out.keep hb3); obtain ⟨z0, z1, z2, z3, z4, g0, g1, g2, g3, g4⟩ := HN3.out.cells; unfold agV; clear hb3)))
  all_goals
    go_wp2_with fail
    refine bodyPost_ret (ret_ag2 (Q := P + 1) (t := O) rfl rfl (setAg_at HN3.out O)) rfl ?_
    exact ⟨rfl, HB3.out.trans ((setAg_only W3 (P + 1) O).below HB3.out.size (fun k hk => by rw [hk, HPW.out]; omega))⟩
set_option maxHeartbeats 8000000 in
set_option maxRecDepth 100000 in
theorem tipur2_any {w : World} {B p sp : Nat} {v vm vl : Value} {s : Stk} (h : TSit w p sp v vm vl s) (hc : CapAt w B p) {a b : Int} (ha0 : -9223372036854775808 ≤ a) (ha1 : a ≤ 9223372036854775807) :
    Calls Tryz.prog 66 #[.agg #[.int .i64 a, .int .i64 b], .pointer (some ⟨B, 0, none⟩)] w fun e w' => e = .returned (.tuple #[agV (joinR a (s.mid.filter fun x => decide (a < b) && metA 300 a b x.at_)), .bool ((joinA a (s.mid.filter fun x => decide (a < b) && metA 300 a b x.at_)).isSome)]) ∧ Below w.heap.size w w' := by
  have HG : Hid (∀ W, Below w.heap.size w W → Calls Tryz.prog 20 #[.pointer (some ⟨p, 0, none⟩), .int .i64 1, .agg #[.int .i64 a, .int .i64 b]] W fun e w' => ∃ v', e = .returned v' ∧ AgRow W.heap.size w' v' (s.mid.filter fun x => decide (a < b) && metA 300 a b x.at_) ∧ Below W.heap.size W w') := Lib.hid fun W hb => tiaggs_mid (h.keep hb) a b
  have HRP : Hid (∀ W B' u, AgRow B' W u (s.mid.filter fun x => decide (a < b) && metA 300 a b x.at_) → Calls Tryz.prog 67 #[.int .i64 a, u] W fun e w' => e = .returned (.tuple #[agV (joinR a (s.mid.filter fun x => decide (a < b) && metA 300 a b x.at_)), .bool ((joinA a (s.mid.filter fun x => decide (a < b) && metA 300 a b x.at_)).isSome)]) ∧ Below W.heap.size W w') := Lib.hid fun W B' u hu => rojoin_any ha0 ha1 hu.lies (fun q hq => h.good.mid.fits q (List.mem_filter.1 hq).1) (by have h1 : (s.mid.filter fun x => decide (a < b) && metA 300 a b x.at_).length ≤ s.mid.length := List.length_filter_le _ _; have := h.good.mid.len; omega)
  obtain ⟨c0, -, -, -, -, -, -⟩ := h.cells
  have cb := hc.cell
  have hplt : p < w.heap.size := cell_lt c0
  have hBlt : B < w.heap.size := cell_lt cb
  obtain ⟨G, hG⟩ : ∃ G, G = s.mid.filter fun x => decide (a < b) && metA 300 a b x.at_ := ⟨_, rfl⟩
  rw [← hG] at HG HRP ⊢
  obtain ⟨O, hO⟩ : ∃ O, O = joinR a G := ⟨_, rfl⟩
  obtain ⟨Q, hQ⟩ : ∃ Q, Q = ((joinA a G).isSome) := ⟨_, rfl⟩
  rw [← hO, ← hQ] at HRP ⊢
  clear hG hO hQ h hc ha0 ha1
  go_enter Tryz.func66, Tryz.ntmps66
  go_upto_region 1 with fail
  refine wp_name fun W1 hW1 => ?_
  obtain ⟨P, hP⟩ : ∃ P, P = w.heap.size := ⟨_, rfl⟩
  obtain ⟨hR1, hN1, hb1⟩ := range_agg_new w a b hW1.out
  have HG1 := Lib.hid (HG.out _ (below_drew hb1))
  rw [← hP] at hR1 hN1
  have HC : Hid (W1.cell? ⟨P, 0, none⟩ = some (.int .i64 a) ∧ W1.cell? ⟨P, 1, none⟩ = some (.int .i64 b) ∧ W1.cell? ⟨p, 0, none⟩ = some (.pointer (some ⟨sp, 0, none⟩)) ∧ W1.cell? ⟨B, 0, none⟩ = some (.pointer (some ⟨p, 0, none⟩))) := Lib.hid ⟨hR1.cells.1, hR1.cells.2.1, (hb1.cell (p := ⟨p, 0, none⟩) (cell_lt c0)).trans c0, (hb1.cell (p := ⟨B, 0, none⟩) (cell_lt cb)).trans cb⟩
  have HCD : Hid (W1.drew.cell? ⟨P, 0, none⟩ = some (.int .i64 a) ∧ W1.drew.cell? ⟨P, 1, none⟩ = some (.int .i64 b) ∧ W1.drew.cell? ⟨p, 0, none⟩ = some (.pointer (some ⟨sp, 0, none⟩)) ∧ W1.drew.cell? ⟨B, 0, none⟩ = some (.pointer (some ⟨p, 0, none⟩))) := Lib.hid HC.out
  have HB1 := Lib.hid hb1
  have HN1 := Lib.hid hN1
  have HNE : Hid (P ≠ P + 1 ∧ p ≠ P + 1 ∧ B ≠ P + 1) := Lib.hid (by omega)
  have HPW := Lib.hid hP
  rw [← hP]
  clear hW1 hb1 hP hR1 hN1 HG c0 cb hplt hBlt
  go_region_held3 (fun w' => w'.cell? ⟨P, 0, none⟩ = some (.int .i64 a) ∧ w'.cell? ⟨P, 1, none⟩ = some (.int .i64 b) ∧ w'.cell? ⟨p, 0, none⟩ = some (.pointer (some ⟨sp, 0, none⟩)) ∧ w'.cell? ⟨B, 0, none⟩ = some (.pointer (some ⟨p, 0, none⟩))) (first | with_reducible exact HC.out | with_reducible exact HCD.out | with_reducible exact HC2.out | with_reducible exact HC3.out | exact pur_set (W := W3) (N := P + 1) (t := O) HC3.out HNE.out) ((first | (go_at_call 20; refine (HG1.out).mono ?_; rintro e W2 ⟨v2, rfl, hr2, hb2⟩; have HC2 : Hid (W2.cell? ⟨P, 0, none⟩ = some (.int .i64 a) ∧ W2.cell? ⟨P, 1, none⟩ = some (.int .i64 b) ∧ W2.cell? ⟨p, 0, none⟩ = some (.pointer (some ⟨sp, 0, none⟩)) ∧ W2.cell? ⟨B, 0, none⟩ = some (.pointer (some ⟨p, 0, none⟩))) := Lib.hid (pur_on (W := W1.drew) HC.out hb2); have HB2 : Hid (Below w.heap.size w W2) := Lib.hid (HB1.out.trans ((below_drew (Below.refl w.heap.size W1)).trans (hb2.mono HB1.out.size))); have HN2 := Lib.hid (HN1.out.drew.keep hb2); have HP2 := Lib.hid (HRP.out W2 _ v2 hr2); clear hb2 hr2) | (go_at_call 67; refine (HP2.out).mono ?_; rintro e W3 ⟨rfl, hb3⟩; have HC3 : Hid (W3.cell? ⟨P, 0, none⟩ = some (.int .i64 a) ∧ W3.cell? ⟨P, 1, none⟩ = some (.int .i64 b) ∧ W3.cell? ⟨p, 0, none⟩ = some (.pointer (some ⟨sp, 0, none⟩)) ∧ W3.cell? ⟨B, 0, none⟩ = some (.pointer (some ⟨p, 0, none⟩))) := Lib.hid (pur_on HC2.out hb3); have HB3 : Hid (Below w.heap.size w W3) := Lib.hid (HB2.out.trans (hb3.mono HB2.out.size)); have HN3 := Lib.hid (HN2.out.keep hb3); obtain ⟨z0, z1, z2, z3, z4, g0, g1, g2, g3, g4⟩ := HN3.out.cells; unfold agV; clear hb3)))
  all_goals
    go_wp2_with fail
    refine bodyPost_ret (ret_ag2 (Q := P + 1) (t := O) rfl rfl (setAg_at HN3.out O)) rfl ?_
    exact ⟨rfl, HB3.out.trans ((setAg_only W3 (P + 1) O).below HB3.out.size (fun k hk => by rw [hk, HPW.out]; omega))⟩
end Go.Proofs.YthbdchleppbidaaGreat
/- Package tier: a stock with a new row. Written by py/ti-ren.py. -/
namespace Go.Proofs.YthbdchleppbidaaGreat
open Go.RowKit

theorem TSit.ren_mid {w w1 w2 : World} {p sp B : Nat} {v vm vl v1 : Value} {s : Stk} {N : List Ag} (h : TSit w p sp v vm vl s) (hb : Below w.heap.size w w1) (hB : w.heap.size ≤ B) (h1 : AgRow B w1 v1 N) (h2 : w2 = w1.setCell ⟨p, 2, none⟩ v1) (hgd : GoodT ⟨s.raw, N, s.long, s.mm, s.ml⟩) : Turned w w2 p sp v vm vl ⟨s.raw, N, s.long, s.mm, s.ml⟩ := by
  have ho2 : Only (fun k => k = p) w1 w2 := by rw [h2]; exact Only.setCell (S := fun k => k = p) w1 rfl _
  have hw := h.keep hb
  have e2 := heap_setCell_same w1 p 2 _ _ v1 hw.at_
  have hp := lt_of_block h.at_
  have hnew : ∀ k, v1.ownBlock = some k → w.heap.size ≤ k := fun k hk => Nat.le_trans hB (h1.lt k hk).1
  refine ⟨v, v1, vl, ⟨?_, hw.ser.only ho2 (fun k hk e => h.np (e ▸ hk)), row_only (h1.base (Nat.zero_le _)) ho2 (fun k hk e => ?_), row_only hw.long ho2 (fun k hk e => h.nl (e ▸ hk)), fun k hk hl => ?_, hgd⟩, fun k hk => ?_, (only_beyond hb).trans ho2 (fun k _ hk => .inl hk)⟩
  · rw [h2, e2]; simp
  · have := hnew k hk; omega
  · have h3 := hnew k hk; have h4 := (h.long.lt k hl).2; omega
  · rcases hk with e | e | e | e
    · exact .inl (.inl e)
    · exact .inl (.inr (.inl e))
    · exact .inr (hnew k e)
    · exact .inl (.inr (.inr (.inr e)))
theorem TSit.ren_long {w w1 w2 : World} {p sp B : Nat} {v vm vl v1 : Value} {s : Stk} {N : List Ag} (h : TSit w p sp v vm vl s) (hb : Below w.heap.size w w1) (hB : w.heap.size ≤ B) (h1 : AgRow B w1 v1 N) (h2 : w2 = w1.setCell ⟨p, 3, none⟩ v1) (hgd : GoodT ⟨s.raw, s.mid, N, s.mm, s.ml⟩) : Turned w w2 p sp v vm vl ⟨s.raw, s.mid, N, s.mm, s.ml⟩ := by
  have ho2 : Only (fun k => k = p) w1 w2 := by rw [h2]; exact Only.setCell (S := fun k => k = p) w1 rfl _
  have hw := h.keep hb
  have e2 := heap_setCell_same w1 p 3 _ _ v1 hw.at_
  have hp := lt_of_block h.at_
  have hnew : ∀ k, v1.ownBlock = some k → w.heap.size ≤ k := fun k hk => Nat.le_trans hB (h1.lt k hk).1
  refine ⟨v, vm, v1, ⟨?_, hw.ser.only ho2 (fun k hk e => h.np (e ▸ hk)), row_only hw.mid ho2 (fun k hk e => h.nm (e ▸ hk)), row_only (h1.base (Nat.zero_le _)) ho2 (fun k hk e => ?_), fun k hk hl => ?_, hgd⟩, fun k hk => ?_, (only_beyond hb).trans ho2 (fun k _ hk => .inl hk)⟩
  · rw [h2, e2]; simp
  · have := hnew k hk; omega
  · have h3 := hnew k hl; have h4 := (h.mid.lt k hk).2; omega
  · rcases hk with e | e | e | e
    · exact .inl (.inl e)
    · exact .inl (.inr (.inl e))
    · exact .inl (.inr (.inr (.inl e)))
    · exact .inr (hnew k e)
end Go.Proofs.YthbdchleppbidaaGreat
/- Package tier: renew of Mid. Written by py/ti-ren.py. -/
namespace Go.Proofs.YthbdchleppbidaaGreat
open Go.RowKit

set_option maxHeartbeats 16000000 in
set_option maxRecDepth 1000000 in
theorem tiren_mid {w : World} {p sp B : Nat} {v vm vl : Value} {s : Stk} (h : TSit w p sp v vm vl s) (a b : Int) {f : Ag → Ag} {g : Ag → Bool} {P : Ag → Option Ag}
    (hP : ∀ x ∈ s.mid, P x = if (decide (a < b) && metA 300 a b x.at_) = true then (if g x = true then some (f x) else none) else some x)
    (hco : ∀ V, Below w.heap.size w V → ∀ x ∈ s.mid, Calls Tryz.prog 64 #[.agg #[.int .i64 x.at_, .int .i64 (x.at_ + 300)], .pointer (some ⟨B, 0, none⟩)] V fun e w' => e = .returned (.tuple #[agV (f x), .bool (g x)]) ∧ Below V.heap.size V w')
    (hgd : GoodT ⟨s.raw, s.mid.filterMap P, s.long, s.mm, s.ml⟩) :
    Calls Tryz.prog 63 #[.pointer (some ⟨p, 0, none⟩), .int .i64 1, .agg #[.int .i64 a, .int .i64 b], .func (.func 64) #[] #[.pointer (some ⟨B, 0, none⟩)]] w fun e w' => e = .returned (.tuple #[]) ∧ Turned w w' p sp v vm vl ⟨s.raw, s.mid.filterMap P, s.long, s.mm, s.ml⟩ := by
  have hlen := h.good.mid.len
  have HOF : Hid (∀ V x, x ∈ s.mid → Calls Tryz.prog 43 #[.int .i64 1, .int .i64 x.at_] V fun e w' => e = .returned (.agg #[.int .i64 x.at_, .int .i64 (x.at_ + 300)]) ∧ Below V.heap.size V w') := Lib.hid fun V x hx => by
    have hf := h.good.mid.fits x hx
    have hq := met_win (a := a) (b := b) (t := 1) (W := 300) (.inl ⟨rfl, rfl⟩) h.good.mid h.good.mm.2.1 hx
    have := wiof_any V 1 x.at_ (by omega) (by omega) hf.a0 hf.a1
    rwa [hq.1, hq.2.1] at this
  have HME : Hid (∀ V x, x ∈ s.mid → Calls Tryz.prog 42 #[.agg #[.int .i64 x.at_, .int .i64 (x.at_ + 300)], .agg #[.int .i64 a, .int .i64 b]] V fun e w' => e = .returned (.bool (decide (a < b) && metA 300 a b x.at_)) ∧ Below V.heap.size V w') := Lib.hid fun V x hx => by
    have := wimeets_any V x.at_ (x.at_ + 300) a b
    rwa [(met_win (a := a) (b := b) (t := 1) (W := 300) (.inl ⟨rfl, rfl⟩) h.good.mid h.good.mm.2.1 hx).2.2] at this
  have HT := Lib.hid h
  have HCO := Lib.hid hco
  have HP := Lib.hid hP
  have HGD := Lib.hid hgd
  have HLI := Lib.hid h.mid.lies
  obtain ⟨-, -, ca, -, -, -, -⟩ := h.cells
  obtain ⟨am, cm, e0⟩ := own_slice h.mid
  obtain ⟨L, hL⟩ : ∃ L, L = s.mid := ⟨_, rfl⟩
  have HLE := Lib.hid hL
  rw [← hL] at hlen HOF HME HCO HP HGD HLI e0 ⊢
  rw [e0] at ca HLI
  have HE0 := Lib.hid e0
  clear h hco hP hgd hL e0
  go_enter Tryz.func63, Tryz.ntmps63
  go_upto_region 2 with fail
  refine wp_name fun W1 hW1 => ?_
  obtain ⟨R, hR⟩ : ∃ R, R = w.heap.size := ⟨_, rfl⟩
  have hb1 : Below w.heap.size w W1 := by rw [hW1.out]; exact (Below.refl _ _).alloc (Nat.le_refl _) _
  have HR1 : Hid (RgAt W1 R a b) := Lib.hid (by rw [hW1.out, hR]; exact RgAt.new w a b)
  have HB1 := Lib.hid hb1
  have HRL : Hid (R < W1.heap.size) := Lib.hid (lt_of_block HR1.out)
  replace ca := (hb1.cell (p := ⟨p, 2, none⟩) (cell_lt ca)).trans ca
  rw [← hR]
  clear hW1 hb1 hR
  go_wp2_with fail
  go_loopw [8, 20] (fun vv c wr => ∃ (k : Nat) (v9 : Value), k ≤ L.length ∧ c = .int .i64 k ∧ v9 = vv ∧ AgRow W1.heap.size wr v9 ((L.take k).filterMap P) ∧ Below W1.heap.size W1 wr) (fun _ c _ => L.length - (intOf c).toNat)
  case atStart => exact ⟨0, _, Nat.zero_le _, rfl, rfl, by simp only [List.take_zero, List.filterMap_nil]; exact AgRow.nil _ _, Below.refl _ _⟩
  case round =>
    clear ca
    obtain ⟨k, v9, hk, rfl, rfl, hrow, hbb⟩ := hrel
    obtain ⟨W2, hW2⟩ : ∃ W2, W2 = wr := ⟨_, rfl⟩
    subst hW2
    have HROW2 := Lib.hid hrow
    have HBB2 := Lib.hid hbb
    clear hrow hbb
    by_cases hlt : k < L.length
    · obtain ⟨x, hx⟩ : ∃ x, L[k]? = some x := ⟨L[k], List.getElem?_eq_getElem hlt⟩
      have HXM := Lib.hid (List.mem_of_getElem? hx)
      have HOX := Lib.hid fun V => HOF.out V x HXM.out
      have HMX := Lib.hid fun V => HME.out V x HXM.out
      have HCX : Hid (∀ V, Below W1.heap.size W1 V → Calls Tryz.prog 64 #[.agg #[.int .i64 x.at_, .int .i64 (x.at_ + 300)], .pointer (some ⟨B, 0, none⟩)] V fun e w' => e = .returned (.tuple #[agV (f x), .bool (g x)]) ∧ Below V.heap.size V w') := Lib.hid fun V hb => HCO.out V (HB1.out.trans (hb.mono HB1.out.size)) x HXM.out
      have HPX := Lib.hid (HP.out x HXM.out)
      obtain ⟨Z, hZ⟩ : ∃ Z, Z = x.at_ + 300 := ⟨_, rfl⟩
      obtain ⟨F, hF⟩ : ∃ F, F = (decide (a < b) && metA 300 a b x.at_) := ⟨_, rfl⟩
      rw [← hF] at HMX HPX
      rw [← hZ] at HOX HMX HCX
      clear hZ hF
      have hly : ALies W2 (.slice am L.length cm) L := HLI.out.beyond (HB1.out.trans (HBB2.out.mono HB1.out.size))
      obtain ⟨a', b', off, cap, e1, hadr, hpts⟩ := hly
      injection e1 with e1 e2 e3
      have ea := hadr (by intro h0; simp [h0] at hlt)
      rw [← e1] at ea
      subst ea
      obtain ⟨c0, c1, c2, c3, c4⟩ := hpts k x hx
      have HXK := Lib.hid hx
      have HTK : Hid ((L.take (k + 1)).filterMap P = (L.take k).filterMap P ++ (P x).toList) := Lib.hid (by rw [take_snoc hx, List.filterMap_append]; cases hp : P x <;> simp [hp])
      have HLT : Hid (((L.take k).filterMap P).length ≤ 256) := Lib.hid (Nat.le_trans (List.length_filterMap_le _ _) (by rw [List.length_take]; omega))
      have hmax : k < 9223372036854775807 := by omega
      clear hx hadr hpts e1 e2 e3
      go_upto_region 5 with fail
      refine wp_name fun W3 hW3 => ?_
      obtain ⟨M, hM⟩ : ∃ M, M = W2.heap.size := ⟨_, rfl⟩
      have hb3 : Below W2.heap.size W2 W3 := by rw [hW3.out]; exact (Below.refl _ _).alloc (Nat.le_refl _) _
      have HA3 : Hid (AgAt W3 M x) := Lib.hid (by rw [hW3.out, hM]; exact AgAt.new W2 x)
      have HMB : Hid (W1.heap.size ≤ M) := Lib.hid (by rw [hM]; exact HBB2.out.size)
      have HROW3 := Lib.hid (HROW2.out.keep hb3)
      have HBB3 := Lib.hid (HBB2.out.trans (hb3.mono HBB2.out.size))
      have HFA3 : Hid (v9.ownBlock ≠ some M) := Lib.hid (fun e => by have := (HROW2.out.lt M e).2; omega)
      rw [← hM]
      clear hb3 hW3 hM HROW2 HBB2 c0 c1 c2 c3 c4
      obtain ⟨c0, -, -, -, -, -, -, -, -, -⟩ := HA3.out.cells
      go_wp2_with fail
      refine (HOX.out W3).mono ?_
      rintro e W4 ⟨rfl, hb4⟩
      have HA4 := Lib.hid (HA3.out.keep hb4)
      have HROW4 := Lib.hid (HROW3.out.keep hb4)
      have HBB4 := Lib.hid (HBB3.out.trans (hb4.mono HBB3.out.size))
      clear hb4 c0 HA3 HROW3 HBB3
      dsimp only
      go_upto_region 7 with fail
      refine wp_name fun W5 hW5 => ?_
      obtain ⟨N, hN⟩ : ∃ N, N = W4.heap.size := ⟨_, rfl⟩
      have hb5 : Below W4.heap.size W4 W5 := by rw [hW5.out]; exact (Below.refl _ _).alloc (Nat.le_refl _) _
      have HG5 : Hid (RgAt W5 N x.at_ Z) := Lib.hid (by rw [hW5.out, hN]; exact RgAt.new W4 x.at_ Z)
      have HA5 := Lib.hid (HA4.out.keep hb5)
      have HROW5 := Lib.hid (HROW4.out.keep hb5)
      have HBB5 := Lib.hid (HBB4.out.trans (hb5.mono HBB4.out.size))
      rw [← hN]
      clear hb5 hW5 hN HA4 HROW4 HBB4
      obtain ⟨g0, g1, -, -⟩ := HG5.out.cells
      have r0 : W5.cell? ⟨R, 0, none⟩ = some (.int .i64 a) := (HBB5.out.cell (p := ⟨R, 0, none⟩) HRL.out).trans HR1.out.cells.1
      have r1 : W5.cell? ⟨R, 1, none⟩ = some (.int .i64 b) := (HBB5.out.cell (p := ⟨R, 1, none⟩) HRL.out).trans HR1.out.cells.2.1
      go_wp2_with fail
      refine (HMX.out W5).mono ?_
      rintro e W6 ⟨rfl, hb6⟩
      have HG6 := Lib.hid (HG5.out.keep hb6)
      have HA6 := Lib.hid (HA5.out.keep hb6)
      have HROW6 := Lib.hid (HROW5.out.keep hb6)
      have HBB6 := Lib.hid (HBB5.out.trans (hb6.mono HBB5.out.size))
      clear hb6 g0 g1 r0 r1 HG5 HA5 HROW5 HBB5
      dsimp only
      cases F with
      | false =>
        have HNX : Hid ((L.take (k + 1)).filterMap P = (L.take k).filterMap P ++ [x]) := Lib.hid (by rw [HTK.out, HPX.out]; rfl)
        obtain ⟨c0, c1, c2, c3, c4, -, -, -, -, -⟩ := HA6.out.cells
        have HNEW := Lib.hid (AgAt.new W6 x)
        have HRW := Lib.hid (HROW6.out.keep ((Below.refl W6.heap.size W6).alloc (Nat.le_refl _) (.cells #[.int .i64 x.at_, .int .i64 x.n, .int .i64 x.s, .int .i64 x.lo, .int .i64 x.hi] 55)))
        have HBX := Lib.hid (HBB6.out.alloc HBB6.out.size (.cells #[.int .i64 x.at_, .int .i64 x.n, .int .i64 x.s, .int .i64 x.lo, .int .i64 x.hi] 55))
        go_wp2_with (at_builtin; refine wpList_append_ag rfl (.tmp 38) (.tmp 40) rfl W1.heap.size _ _ rfl HRW.out W6.heap.size x rfl HNEW.out (by have := HLT.out; omega) HBX.out.size ?_; intro v10 W10 HROW10 hgrow; have HBB10 : Hid (Below W1.heap.size W1 W10) := Lib.hid (HBX.out.grown hgrow.out HBX.out.size (fun b hb => (HRW.out.lt b hb).1)); clear hgrow)
        go_roundw
        case rel => exact ⟨k + 1, _, by omega, by go_num, rfl, by rw [HNX.out]; exact HROW10.out, HBB10.out⟩
        case measure => simp [intOf]; omega
      | true =>
        obtain ⟨g0, g1, -, -⟩ := HG6.out.cells
        have hcx := HCX.out W6 HBB6.out
        obtain ⟨y, hy⟩ : ∃ y, y = f x := ⟨_, rfl⟩
        obtain ⟨G, hG⟩ : ∃ G, G = g x := ⟨_, rfl⟩
        rw [← hy, ← hG] at hcx HPX
        unfold agV at hcx
        have HC6 := Lib.hid hcx
        clear hcx hy hG HCX
        go_wp2_with fail
        refine HC6.out.mono ?_
        rintro e W7 ⟨rfl, hb7⟩
        have HA7 := Lib.hid (HA6.out.keep hb7)
        have HROW7 := Lib.hid (HROW6.out.keep hb7)
        have HBB7 := Lib.hid (HBB6.out.trans (hb7.mono HBB6.out.size))
        clear hb7 g0 g1 HG6 HA6 HROW6 HBB6
        dsimp only
        obtain ⟨c0, c1, c2, c3, c4, f0, f1, f2, f3, f4⟩ := HA7.out.cells
        go_upto_region 9 with fail
        refine wp_name fun W8 hW8 => ?_
        have HA8 : Hid (AgAt W8 M y) := Lib.hid (by rw [hW8.out]; exact setAg_at HA7.out y)
        have HO8 : Hid (Only (fun k => k = M) W7 W8) := Lib.hid (by rw [hW8.out]; exact setAg_only W7 M y)
        have HROW8 : Hid (AgRow W1.heap.size W8 v9 ((L.take k).filterMap P)) := Lib.hid (row_only HROW7.out HO8.out (fun k hk e => HFA3.out (by rw [hk, e])))
        have HBB8 : Hid (Below W1.heap.size W1 W8) := Lib.hid (HBB7.out.trans (HO8.out.below HBB7.out.size (fun k hk => by rw [hk]; exact HMB.out)))
        clear hW8 c0 c1 c2 c3 c4 f0 f1 f2 f3 f4 HA7 HROW7 HBB7
        cases G with
        | true =>
          have HNX : Hid ((L.take (k + 1)).filterMap P = (L.take k).filterMap P ++ [y]) := Lib.hid (by rw [HTK.out, HPX.out]; rfl)
          obtain ⟨c0, c1, c2, c3, c4, -, -, -, -, -⟩ := HA8.out.cells
          have HNEW := Lib.hid (AgAt.new W8 y)
          have HRW := Lib.hid (HROW8.out.keep ((Below.refl W8.heap.size W8).alloc (Nat.le_refl _) (.cells #[.int .i64 y.at_, .int .i64 y.n, .int .i64 y.s, .int .i64 y.lo, .int .i64 y.hi] 55)))
          have HBX := Lib.hid (HBB8.out.alloc HBB8.out.size (.cells #[.int .i64 y.at_, .int .i64 y.n, .int .i64 y.s, .int .i64 y.lo, .int .i64 y.hi] 55))
          go_wp2_with (at_builtin; refine wpList_append_ag rfl (.tmp 38) (.tmp 40) rfl W1.heap.size _ _ rfl HRW.out W8.heap.size y rfl HNEW.out (by have := HLT.out; omega) HBX.out.size ?_; intro v10 W10 HROW10 hgrow; have HBB10 : Hid (Below W1.heap.size W1 W10) := Lib.hid (HBX.out.grown hgrow.out HBX.out.size (fun b hb => (HRW.out.lt b hb).1)); clear hgrow)
          go_roundw
          case rel => exact ⟨k + 1, _, by omega, by go_num, rfl, by rw [HNX.out]; exact HROW10.out, HBB10.out⟩
          case measure => simp [intOf]; omega
        | false =>
          have HNX : Hid ((L.take (k + 1)).filterMap P = (L.take k).filterMap P) := Lib.hid (by rw [HTK.out, HPX.out]; exact List.append_nil _)
          go_wp2_with fail
          go_roundw
          case rel => exact ⟨k + 1, _, by omega, by go_num, rfl, by rw [HNX.out]; exact HROW8.out, HBB8.out⟩
          case measure => simp [intOf]; omega
    · obtain rfl : k = L.length := by omega
      have HEND : Hid ((L.take L.length).filterMap P = L.filterMap P) := Lib.hid (by rw [List.take_length])
      have HTW := Lib.hid (HT.out.keep (HB1.out.trans (HBB2.out.mono HB1.out.size)))
      obtain ⟨-, -, ca, -, -, -, -⟩ := HTW.out.cells
      rw [HE0.out] at ca
      have fa := HTW.out.free 2
      have hrow := HROW2.out
      rw [HEND.out] at hrow
      obtain ⟨n9, hn9⟩ : ∃ n9, n9 = (L.filterMap P).length := ⟨_, rfl⟩
      obtain ⟨a9, c9, e9⟩ := own_slice hrow
      rw [← hn9] at e9
      subst e9
      have HRE := Lib.hid hrow
      clear hrow hn9
      go_wp2_with fail
      go_end0
      refine ⟨rfl, ?_⟩
      exact HT.out.ren_mid (HB1.out.trans (HBB2.out.mono HB1.out.size)) HB1.out.size HRE.out rfl HGD.out
end Go.Proofs.YthbdchleppbidaaGreat
/- Package tier: renew of Long. Written by py/ti-ren.py. -/
namespace Go.Proofs.YthbdchleppbidaaGreat
open Go.RowKit

set_option maxHeartbeats 16000000 in
set_option maxRecDepth 1000000 in
theorem tiren_long {w : World} {p sp B : Nat} {v vm vl : Value} {s : Stk} (h : TSit w p sp v vm vl s) (a b : Int) {f : Ag → Ag} {g : Ag → Bool} {P : Ag → Option Ag}
    (hP : ∀ x ∈ s.long, P x = if (decide (a < b) && metA 3600 a b x.at_) = true then (if g x = true then some (f x) else none) else some x)
    (hco : ∀ V, Below w.heap.size w V → ∀ x ∈ s.long, Calls Tryz.prog 66 #[.agg #[.int .i64 x.at_, .int .i64 (x.at_ + 3600)], .pointer (some ⟨B, 0, none⟩)] V fun e w' => e = .returned (.tuple #[agV (f x), .bool (g x)]) ∧ Below V.heap.size V w')
    (hgd : GoodT ⟨s.raw, s.mid, s.long.filterMap P, s.mm, s.ml⟩) :
    Calls Tryz.prog 63 #[.pointer (some ⟨p, 0, none⟩), .int .i64 2, .agg #[.int .i64 a, .int .i64 b], .func (.func 66) #[] #[.pointer (some ⟨B, 0, none⟩)]] w fun e w' => e = .returned (.tuple #[]) ∧ Turned w w' p sp v vm vl ⟨s.raw, s.mid, s.long.filterMap P, s.mm, s.ml⟩ := by
  have hlen := h.good.long.len
  have HOF : Hid (∀ V x, x ∈ s.long → Calls Tryz.prog 43 #[.int .i64 2, .int .i64 x.at_] V fun e w' => e = .returned (.agg #[.int .i64 x.at_, .int .i64 (x.at_ + 3600)]) ∧ Below V.heap.size V w') := Lib.hid fun V x hx => by
    have hf := h.good.long.fits x hx
    have hq := met_win (a := a) (b := b) (t := 2) (W := 3600) (.inr ⟨rfl, rfl⟩) h.good.long (by have := h.good.ml; have := h.good.mm; omega) hx
    have := wiof_any V 2 x.at_ (by omega) (by omega) hf.a0 hf.a1
    rwa [hq.1, hq.2.1] at this
  have HME : Hid (∀ V x, x ∈ s.long → Calls Tryz.prog 42 #[.agg #[.int .i64 x.at_, .int .i64 (x.at_ + 3600)], .agg #[.int .i64 a, .int .i64 b]] V fun e w' => e = .returned (.bool (decide (a < b) && metA 3600 a b x.at_)) ∧ Below V.heap.size V w') := Lib.hid fun V x hx => by
    have := wimeets_any V x.at_ (x.at_ + 3600) a b
    rwa [(met_win (a := a) (b := b) (t := 2) (W := 3600) (.inr ⟨rfl, rfl⟩) h.good.long (by have := h.good.ml; have := h.good.mm; omega) hx).2.2] at this
  have HT := Lib.hid h
  have HCO := Lib.hid hco
  have HP := Lib.hid hP
  have HGD := Lib.hid hgd
  have HLI := Lib.hid h.long.lies
  obtain ⟨-, -, -, ca, -, -, -⟩ := h.cells
  obtain ⟨am, cm, e0⟩ := own_slice h.long
  obtain ⟨L, hL⟩ : ∃ L, L = s.long := ⟨_, rfl⟩
  have HLE := Lib.hid hL
  rw [← hL] at hlen HOF HME HCO HP HGD HLI e0 ⊢
  rw [e0] at ca HLI
  have HE0 := Lib.hid e0
  clear h hco hP hgd hL e0
  go_enter Tryz.func63, Tryz.ntmps63
  go_upto_region 2 with fail
  refine wp_name fun W1 hW1 => ?_
  obtain ⟨R, hR⟩ : ∃ R, R = w.heap.size := ⟨_, rfl⟩
  have hb1 : Below w.heap.size w W1 := by rw [hW1.out]; exact (Below.refl _ _).alloc (Nat.le_refl _) _
  have HR1 : Hid (RgAt W1 R a b) := Lib.hid (by rw [hW1.out, hR]; exact RgAt.new w a b)
  have HB1 := Lib.hid hb1
  have HRL : Hid (R < W1.heap.size) := Lib.hid (lt_of_block HR1.out)
  replace ca := (hb1.cell (p := ⟨p, 3, none⟩) (cell_lt ca)).trans ca
  rw [← hR]
  clear hW1 hb1 hR
  go_wp2_with fail
  go_loopw [8, 20] (fun vv c wr => ∃ (k : Nat) (v9 : Value), k ≤ L.length ∧ c = .int .i64 k ∧ v9 = vv ∧ AgRow W1.heap.size wr v9 ((L.take k).filterMap P) ∧ Below W1.heap.size W1 wr) (fun _ c _ => L.length - (intOf c).toNat)
  case atStart => exact ⟨0, _, Nat.zero_le _, rfl, rfl, by simp only [List.take_zero, List.filterMap_nil]; exact AgRow.nil _ _, Below.refl _ _⟩
  case round =>
    clear ca
    obtain ⟨k, v9, hk, rfl, rfl, hrow, hbb⟩ := hrel
    obtain ⟨W2, hW2⟩ : ∃ W2, W2 = wr := ⟨_, rfl⟩
    subst hW2
    have HROW2 := Lib.hid hrow
    have HBB2 := Lib.hid hbb
    clear hrow hbb
    by_cases hlt : k < L.length
    · obtain ⟨x, hx⟩ : ∃ x, L[k]? = some x := ⟨L[k], List.getElem?_eq_getElem hlt⟩
      have HXM := Lib.hid (List.mem_of_getElem? hx)
      have HOX := Lib.hid fun V => HOF.out V x HXM.out
      have HMX := Lib.hid fun V => HME.out V x HXM.out
      have HCX : Hid (∀ V, Below W1.heap.size W1 V → Calls Tryz.prog 66 #[.agg #[.int .i64 x.at_, .int .i64 (x.at_ + 3600)], .pointer (some ⟨B, 0, none⟩)] V fun e w' => e = .returned (.tuple #[agV (f x), .bool (g x)]) ∧ Below V.heap.size V w') := Lib.hid fun V hb => HCO.out V (HB1.out.trans (hb.mono HB1.out.size)) x HXM.out
      have HPX := Lib.hid (HP.out x HXM.out)
      obtain ⟨Z, hZ⟩ : ∃ Z, Z = x.at_ + 3600 := ⟨_, rfl⟩
      obtain ⟨F, hF⟩ : ∃ F, F = (decide (a < b) && metA 3600 a b x.at_) := ⟨_, rfl⟩
      rw [← hF] at HMX HPX
      rw [← hZ] at HOX HMX HCX
      clear hZ hF
      have hly : ALies W2 (.slice am L.length cm) L := HLI.out.beyond (HB1.out.trans (HBB2.out.mono HB1.out.size))
      obtain ⟨a', b', off, cap, e1, hadr, hpts⟩ := hly
      injection e1 with e1 e2 e3
      have ea := hadr (by intro h0; simp [h0] at hlt)
      rw [← e1] at ea
      subst ea
      obtain ⟨c0, c1, c2, c3, c4⟩ := hpts k x hx
      have HXK := Lib.hid hx
      have HTK : Hid ((L.take (k + 1)).filterMap P = (L.take k).filterMap P ++ (P x).toList) := Lib.hid (by rw [take_snoc hx, List.filterMap_append]; cases hp : P x <;> simp [hp])
      have HLT : Hid (((L.take k).filterMap P).length ≤ 256) := Lib.hid (Nat.le_trans (List.length_filterMap_le _ _) (by rw [List.length_take]; omega))
      have hmax : k < 9223372036854775807 := by omega
      clear hx hadr hpts e1 e2 e3
      go_upto_region 5 with fail
      refine wp_name fun W3 hW3 => ?_
      obtain ⟨M, hM⟩ : ∃ M, M = W2.heap.size := ⟨_, rfl⟩
      have hb3 : Below W2.heap.size W2 W3 := by rw [hW3.out]; exact (Below.refl _ _).alloc (Nat.le_refl _) _
      have HA3 : Hid (AgAt W3 M x) := Lib.hid (by rw [hW3.out, hM]; exact AgAt.new W2 x)
      have HMB : Hid (W1.heap.size ≤ M) := Lib.hid (by rw [hM]; exact HBB2.out.size)
      have HROW3 := Lib.hid (HROW2.out.keep hb3)
      have HBB3 := Lib.hid (HBB2.out.trans (hb3.mono HBB2.out.size))
      have HFA3 : Hid (v9.ownBlock ≠ some M) := Lib.hid (fun e => by have := (HROW2.out.lt M e).2; omega)
      rw [← hM]
      clear hb3 hW3 hM HROW2 HBB2 c0 c1 c2 c3 c4
      obtain ⟨c0, -, -, -, -, -, -, -, -, -⟩ := HA3.out.cells
      go_wp2_with fail
      refine (HOX.out W3).mono ?_
      rintro e W4 ⟨rfl, hb4⟩
      have HA4 := Lib.hid (HA3.out.keep hb4)
      have HROW4 := Lib.hid (HROW3.out.keep hb4)
      have HBB4 := Lib.hid (HBB3.out.trans (hb4.mono HBB3.out.size))
      clear hb4 c0 HA3 HROW3 HBB3
      dsimp only
      go_upto_region 7 with fail
      refine wp_name fun W5 hW5 => ?_
      obtain ⟨N, hN⟩ : ∃ N, N = W4.heap.size := ⟨_, rfl⟩
      have hb5 : Below W4.heap.size W4 W5 := by rw [hW5.out]; exact (Below.refl _ _).alloc (Nat.le_refl _) _
      have HG5 : Hid (RgAt W5 N x.at_ Z) := Lib.hid (by rw [hW5.out, hN]; exact RgAt.new W4 x.at_ Z)
      have HA5 := Lib.hid (HA4.out.keep hb5)
      have HROW5 := Lib.hid (HROW4.out.keep hb5)
      have HBB5 := Lib.hid (HBB4.out.trans (hb5.mono HBB4.out.size))
      rw [← hN]
      clear hb5 hW5 hN HA4 HROW4 HBB4
      obtain ⟨g0, g1, -, -⟩ := HG5.out.cells
      have r0 : W5.cell? ⟨R, 0, none⟩ = some (.int .i64 a) := (HBB5.out.cell (p := ⟨R, 0, none⟩) HRL.out).trans HR1.out.cells.1
      have r1 : W5.cell? ⟨R, 1, none⟩ = some (.int .i64 b) := (HBB5.out.cell (p := ⟨R, 1, none⟩) HRL.out).trans HR1.out.cells.2.1
      go_wp2_with fail
      refine (HMX.out W5).mono ?_
      rintro e W6 ⟨rfl, hb6⟩
      have HG6 := Lib.hid (HG5.out.keep hb6)
      have HA6 := Lib.hid (HA5.out.keep hb6)
      have HROW6 := Lib.hid (HROW5.out.keep hb6)
      have HBB6 := Lib.hid (HBB5.out.trans (hb6.mono HBB5.out.size))
      clear hb6 g0 g1 r0 r1 HG5 HA5 HROW5 HBB5
      dsimp only
      cases F with
      | false =>
        have HNX : Hid ((L.take (k + 1)).filterMap P = (L.take k).filterMap P ++ [x]) := Lib.hid (by rw [HTK.out, HPX.out]; rfl)
        obtain ⟨c0, c1, c2, c3, c4, -, -, -, -, -⟩ := HA6.out.cells
        have HNEW := Lib.hid (AgAt.new W6 x)
        have HRW := Lib.hid (HROW6.out.keep ((Below.refl W6.heap.size W6).alloc (Nat.le_refl _) (.cells #[.int .i64 x.at_, .int .i64 x.n, .int .i64 x.s, .int .i64 x.lo, .int .i64 x.hi] 55)))
        have HBX := Lib.hid (HBB6.out.alloc HBB6.out.size (.cells #[.int .i64 x.at_, .int .i64 x.n, .int .i64 x.s, .int .i64 x.lo, .int .i64 x.hi] 55))
        go_wp2_with (at_builtin; refine wpList_append_ag rfl (.tmp 38) (.tmp 40) rfl W1.heap.size _ _ rfl HRW.out W6.heap.size x rfl HNEW.out (by have := HLT.out; omega) HBX.out.size ?_; intro v10 W10 HROW10 hgrow; have HBB10 : Hid (Below W1.heap.size W1 W10) := Lib.hid (HBX.out.grown hgrow.out HBX.out.size (fun b hb => (HRW.out.lt b hb).1)); clear hgrow)
        go_roundw
        case rel => exact ⟨k + 1, _, by omega, by go_num, rfl, by rw [HNX.out]; exact HROW10.out, HBB10.out⟩
        case measure => simp [intOf]; omega
      | true =>
        obtain ⟨g0, g1, -, -⟩ := HG6.out.cells
        have hcx := HCX.out W6 HBB6.out
        obtain ⟨y, hy⟩ : ∃ y, y = f x := ⟨_, rfl⟩
        obtain ⟨G, hG⟩ : ∃ G, G = g x := ⟨_, rfl⟩
        rw [← hy, ← hG] at hcx HPX
        unfold agV at hcx
        have HC6 := Lib.hid hcx
        clear hcx hy hG HCX
        go_wp2_with fail
        refine HC6.out.mono ?_
        rintro e W7 ⟨rfl, hb7⟩
        have HA7 := Lib.hid (HA6.out.keep hb7)
        have HROW7 := Lib.hid (HROW6.out.keep hb7)
        have HBB7 := Lib.hid (HBB6.out.trans (hb7.mono HBB6.out.size))
        clear hb7 g0 g1 HG6 HA6 HROW6 HBB6
        dsimp only
        obtain ⟨c0, c1, c2, c3, c4, f0, f1, f2, f3, f4⟩ := HA7.out.cells
        go_upto_region 9 with fail
        refine wp_name fun W8 hW8 => ?_
        have HA8 : Hid (AgAt W8 M y) := Lib.hid (by rw [hW8.out]; exact setAg_at HA7.out y)
        have HO8 : Hid (Only (fun k => k = M) W7 W8) := Lib.hid (by rw [hW8.out]; exact setAg_only W7 M y)
        have HROW8 : Hid (AgRow W1.heap.size W8 v9 ((L.take k).filterMap P)) := Lib.hid (row_only HROW7.out HO8.out (fun k hk e => HFA3.out (by rw [hk, e])))
        have HBB8 : Hid (Below W1.heap.size W1 W8) := Lib.hid (HBB7.out.trans (HO8.out.below HBB7.out.size (fun k hk => by rw [hk]; exact HMB.out)))
        clear hW8 c0 c1 c2 c3 c4 f0 f1 f2 f3 f4 HA7 HROW7 HBB7
        cases G with
        | true =>
          have HNX : Hid ((L.take (k + 1)).filterMap P = (L.take k).filterMap P ++ [y]) := Lib.hid (by rw [HTK.out, HPX.out]; rfl)
          obtain ⟨c0, c1, c2, c3, c4, -, -, -, -, -⟩ := HA8.out.cells
          have HNEW := Lib.hid (AgAt.new W8 y)
          have HRW := Lib.hid (HROW8.out.keep ((Below.refl W8.heap.size W8).alloc (Nat.le_refl _) (.cells #[.int .i64 y.at_, .int .i64 y.n, .int .i64 y.s, .int .i64 y.lo, .int .i64 y.hi] 55)))
          have HBX := Lib.hid (HBB8.out.alloc HBB8.out.size (.cells #[.int .i64 y.at_, .int .i64 y.n, .int .i64 y.s, .int .i64 y.lo, .int .i64 y.hi] 55))
          go_wp2_with (at_builtin; refine wpList_append_ag rfl (.tmp 38) (.tmp 40) rfl W1.heap.size _ _ rfl HRW.out W8.heap.size y rfl HNEW.out (by have := HLT.out; omega) HBX.out.size ?_; intro v10 W10 HROW10 hgrow; have HBB10 : Hid (Below W1.heap.size W1 W10) := Lib.hid (HBX.out.grown hgrow.out HBX.out.size (fun b hb => (HRW.out.lt b hb).1)); clear hgrow)
          go_roundw
          case rel => exact ⟨k + 1, _, by omega, by go_num, rfl, by rw [HNX.out]; exact HROW10.out, HBB10.out⟩
          case measure => simp [intOf]; omega
        | false =>
          have HNX : Hid ((L.take (k + 1)).filterMap P = (L.take k).filterMap P) := Lib.hid (by rw [HTK.out, HPX.out]; exact List.append_nil _)
          go_wp2_with fail
          go_roundw
          case rel => exact ⟨k + 1, _, by omega, by go_num, rfl, by rw [HNX.out]; exact HROW8.out, HBB8.out⟩
          case measure => simp [intOf]; omega
    · obtain rfl : k = L.length := by omega
      have HEND : Hid ((L.take L.length).filterMap P = L.filterMap P) := Lib.hid (by rw [List.take_length])
      have HTW := Lib.hid (HT.out.keep (HB1.out.trans (HBB2.out.mono HB1.out.size)))
      obtain ⟨-, -, -, ca, -, -, -⟩ := HTW.out.cells
      rw [HE0.out] at ca
      have fa := HTW.out.free 3
      have hrow := HROW2.out
      rw [HEND.out] at hrow
      obtain ⟨n9, hn9⟩ : ∃ n9, n9 = (L.filterMap P).length := ⟨_, rfl⟩
      obtain ⟨a9, c9, e9⟩ := own_slice hrow
      rw [← hn9] at e9
      subst e9
      have HRE := Lib.hid hrow
      clear hrow hn9
      go_wp2_with fail
      go_end0
      refine ⟨rfl, ?_⟩
      exact HT.out.ren_long (HB1.out.trans (HBB2.out.mono HB1.out.size)) HB1.out.size HRE.out rfl HGD.out
end Go.Proofs.YthbdchleppbidaaGreat
/- Package tier: Purge, of a stock that is there. -/
namespace Go.Proofs.YthbdchleppbidaaGreat
open Go.RowKit

/-- a stock whose points were cut, only -/
theorem good_cut {s : Stk} (h : GoodT s) (a b : Int) : GoodT ⟨cutL s.raw a b, s.mid, s.long, s.mm, s.ml⟩ :=
  ⟨cutL_srt h.srt a b, fun p hp => h.tick p (List.mem_filter.1 hp).1, fun p hp => h.pfits p (List.mem_filter.1 hp).1, Nat.le_trans (List.length_filter_le _ _) h.plen, h.mid, h.long, h.mm, h.ml⟩
/-- and Mid's aggregates, too -/
theorem good_purM {s : Stk} (h : GoodT s) {raw : List Pt} (hr : ∀ p ∈ raw, p.fits) (hl : raw.length ≤ 256) (a b : Int) : GoodT ⟨s.raw, s.mid.filterMap (purM raw a b), s.long, s.mm, s.ml⟩ := by
  refine ⟨h.srt, h.tick, h.pfits, h.plen, ?_, h.long, h.mm, h.ml⟩
  refine goodA_fmap h.mid fun t ht u hu => ?_
  unfold purM at hu
  split at hu
  · split at hu
    · cases hu
    · rename_i hne
      rw [← Option.some.inj hu, ofA_at]
      have hf := h.mid.fits t ht
      refine ⟨rfl, right_of hne, ofA_fits hf.a0 hf.a1 (fun p hp => hr p (List.mem_filter.1 hp).1) ?_⟩
      have : (getL raw t.at_ (t.at_ + 300)).length ≤ raw.length := List.length_filter_le _ _
      omega
  · rw [← Option.some.inj hu]; exact ⟨rfl, h.mid.right t ht, h.mid.fits t ht⟩
theorem good_purL {s : Stk} (h : GoodT s) {mid : List Ag} (hm : ∀ t ∈ mid, rightA t = true ∧ t.fits) (a b : Int) : GoodT ⟨s.raw, s.mid, s.long.filterMap (purL mid a b), s.mm, s.ml⟩ := by
  refine ⟨h.srt, h.tick, h.pfits, h.plen, h.mid, ?_, h.mm, h.ml⟩
  refine goodA_fmap h.long fun t ht u hu => ?_
  unfold purL at hu
  split at hu
  · have hf := h.long.fits t ht
    obtain ⟨r1, r2, r3⟩ := joinA_good hf.a0 hf.a1 (fun x hx => (hm x (List.mem_filter.1 hx).1).1) (fun x hx => (hm x (List.mem_filter.1 hx).1).2) hu
    exact ⟨r3, r1, r2⟩
  · rw [← Option.some.inj hu]; exact ⟨rfl, h.long.right t ht, h.long.fits t ht⟩
theorem tright_lt {a b : Int} (h : rightT a b = true) : a < b := by
  unfold rightT at h
  simp only [Bool.and_eq_true, decide_eq_true_eq] at h
  omega
/-- renew of Mid, as Purge asks for it -/
theorem tirenM_any {w : World} {B p sp : Nat} {v vm vl : Value} {s : Stk} (h : TSit w p sp v vm vl s) (hc : CapAt w B p) {a b : Int} (hab : a < b) :
    Calls Tryz.prog 63 #[.pointer (some ⟨p, 0, none⟩), .int .i64 1, .agg #[.int .i64 a, .int .i64 b], .func (.func 64) #[] #[.pointer (some ⟨B, 0, none⟩)]] w fun e w' => e = .returned (.tuple #[]) ∧ Turned w w' p sp v vm vl ⟨s.raw, s.mid.filterMap (purM s.raw a b), s.long, s.mm, s.ml⟩ := by
  refine tiren_mid (B := B) h a b (f := fun x => ofR x.at_ (getL s.raw x.at_ (x.at_ + 300))) (g := fun x => !(getL s.raw x.at_ (x.at_ + 300)).isEmpty) (P := purM s.raw a b) (fun x _ => ?_) (fun V hb x hx => ?_) (good_purM h.good h.good.pfits h.good.plen a b)
  · unfold purM
    rw [decide_eq_true hab, Bool.true_and]
    by_cases hm : metA 300 a b x.at_ = true
    · rw [if_pos hm, if_pos hm]
      by_cases h0 : getL s.raw x.at_ (x.at_ + 300) = []
      · rw [if_pos h0, if_neg (by rw [h0]; simp)]
      · rw [if_neg h0, if_pos (by simpa using h0)]
        unfold ofR
        rw [if_neg h0]
    · rw [if_neg hm, if_neg hm]
  · have hf := h.good.mid.fits x hx
    exact tipur1_any (h.keep hb) (hc.keep hb) hf.a0 hf.a1
theorem tirenL_any {w : World} {B p sp : Nat} {v vm vl : Value} {s : Stk} (h : TSit w p sp v vm vl s) (hc : CapAt w B p) {a b : Int} (hab : a < b) :
    Calls Tryz.prog 63 #[.pointer (some ⟨p, 0, none⟩), .int .i64 2, .agg #[.int .i64 a, .int .i64 b], .func (.func 66) #[] #[.pointer (some ⟨B, 0, none⟩)]] w fun e w' => e = .returned (.tuple #[]) ∧ Turned w w' p sp v vm vl ⟨s.raw, s.mid, s.long.filterMap (purL s.mid a b), s.mm, s.ml⟩ := by
  have hin : ∀ x : Ag, x ∈ s.long → (s.mid.filter fun t => decide (x.at_ < x.at_ + 3600) && metA 300 x.at_ (x.at_ + 3600) t.at_) = inW s.mid x.at_ := fun x hx => by
    unfold inW
    refine List.filter_congr fun t ht => ?_
    have h1 := h.good.mid.beg t ht
    have h2 := h.good.long.beg x hx
    unfold metA
    rw [Bool.eq_iff_iff]
    simp only [decide_eq_true_eq, Bool.and_eq_true]
    omega
  refine tiren_long (B := B) h a b (f := fun x => joinR x.at_ (inW s.mid x.at_)) (g := fun x => (joinA x.at_ (inW s.mid x.at_)).isSome) (P := purL s.mid a b) (fun x _ => ?_) (fun V hb x hx => ?_) (good_purL h.good (fun t ht => ⟨h.good.mid.right t ht, h.good.mid.fits t ht⟩) a b)
  · unfold purL
    rw [decide_eq_true hab, Bool.true_and]
    by_cases hm : metA 3600 a b x.at_ = true
    · rw [if_pos hm, if_pos hm]
      unfold joinR
      cases joinA x.at_ (inW s.mid x.at_) with
      | none => rfl
      | some c => rfl
    · rw [if_neg hm, if_neg hm]
  · have hf := h.good.long.fits x hx
    have := tipur2_any (h.keep hb) (hc.keep hb) (a := x.at_) (b := x.at_ + 3600) hf.a0 hf.a1
    rwa [hin x hx] at this
theorem ptr_range_new (w : World) (p : Nat) (a b : Int) {W : World} (hW : W = (w.alloc (.cells #[.pointer (some ⟨p, 0, none⟩)] 29)).alloc (.cells #[.int .i64 a, .int .i64 b] 41)) : CapAt W w.heap.size p ∧ RgAt W (w.heap.size + 1) a b ∧ Below w.heap.size w W := by
  subst hW
  have h1 := CapAt.new w p
  have h2 := RgAt.new (w.alloc (.cells #[.pointer (some ⟨p, 0, none⟩)] 29)) a b
  rw [show (w.alloc (.cells #[.pointer (some ⟨p, 0, none⟩)] 29)).heap.size = w.heap.size + 1 by simp] at h2
  exact ⟨h1.keep ((Below.refl _ _).alloc (Nat.le_refl _) _), h2, ((Below.refl _ w).alloc (Nat.le_refl _) _).alloc (by simp) _⟩
theorem CapAt.drew {w : World} {B p : Nat} (h : CapAt w B p) : CapAt w.drew B p := h
/-- a range beside a stock is none of its blocks -/
theorem TSit.nR {w : World} {R p sp : Nat} {v vm vl : Value} {s : Stk} {a b : Int} (h : TSit w p sp v vm vl s) (hc : RgAt w R a b) : ¬ TBlk p sp v vm vl R := by
  rintro (e | (e | e) | e | e)
  · subst e
    have h1 := h.at_
    unfold RgAt at hc
    rw [hc] at h1
    injection h1 with h1
    injection h1 with h1 h2
    revert h2; decide
  · subst e
    have h1 := h.ser.at_
    unfold RgAt at hc
    rw [hc] at h1
    injection h1 with h1
    injection h1 with h1 h2
    revert h2; decide
  · exact row_ne hc h.ser.row (by decide) e
  · exact row_ne hc h.mid (by decide) e
  · exact row_ne hc h.long (by decide) e
theorem TSit.nRs {w : World} {R p sp : Nat} {v vm vl : Value} {s : Stk} {a b : Int} (h : TSit w p sp v vm vl s) (hc : RgAt w R a b) : ¬ SBlk sp v R := fun e => h.nR hc (.inr (.inl e))
theorem TSit.nBs {w : World} {B p sp : Nat} {v vm vl : Value} {s : Stk} (h : TSit w p sp v vm vl s) (hc : CapAt w B p) : ¬ SBlk sp v B := fun e => h.nB hc (.inr (.inl e))
theorem purge_cut {w w' : World} {p sp : Nat} {v vm vl : Value} {s : Stk} {a b : Int} (h : TSit w p sp v vm vl s) (hs : ∃ v', SerV w' sp v' (cutL s.raw a b) ∧ v'.ownBlock = v.ownBlock) (ho : Only (SBlk sp v) w.drew w') : Turned w.drew w' p sp v vm vl ⟨cutL s.raw a b, s.mid, s.long, s.mm, s.ml⟩ := by
  obtain ⟨v', h1, h2⟩ := hs
  exact h.drew.series ho h1 (fun k hk => .inl (by rw [← h2]; exact hk)) (good_cut h.good a b)
theorem purge_held {w w' : World} {B p sp : Nat} {v vm vl : Value} {s : Stk} {a b : Int} (h : TSit w p sp v vm vl s) (hc : CapAt w B p) (hr : RgAt w (B + 1) a b) (ho : Only (SBlk sp v) w.drew w') : w'.cell? ⟨B, 0, none⟩ = some (.pointer (some ⟨p, 0, none⟩)) ∧ w'.cell? ⟨p, 0, none⟩ = some (.pointer (some ⟨sp, 0, none⟩)) ∧ w'.cell? ⟨B + 1, 0, none⟩ = some (.int .i64 a) ∧ w'.cell? ⟨B + 1, 1, none⟩ = some (.int .i64 b) := by
  have h1 := hc.drew.only ho (h.drew.nBs hc.drew)
  have h2 := hr.drew.only ho (h.drew.nRs hr.drew)
  exact ⟨h1.cell, (World.cell?_of_block (a := ⟨p, 0, none⟩) (ho.block p (lt_of_block h.drew.at_) h.np)).trans h.cells.c0, h2.cells.1, h2.cells.2.1⟩
set_option maxHeartbeats 8000000 in
set_option maxRecDepth 100000 in
theorem tipurge_any {w : World} {p sp : Nat} {v vm vl : Value} {s : Stk} (h : TSit w p sp v vm vl s) (a b : Int) :
    Calls Tryz.prog 28 #[.pointer (some ⟨p, 0, none⟩), .agg #[.int .i64 a, .int .i64 b]] w fun e w' => e = .returned (.int .i64 (goneR s a b)) ∧ Turned w w' p sp v vm vl (purgeT s a b) := by
  have HT := Lib.hid h
  have HRI : Hid (∀ W, Calls Tryz.prog 45 #[.agg #[.int .i64 a, .int .i64 b]] W fun e w' => e = .returned (.bool (rightT a b)) ∧ Below W.heap.size W w') := Lib.hid fun W => wiright_any W a b
  have HCU : Hid (∀ W, Below w.heap.size w W → Calls Tryz.prog 62 #[.pointer (some ⟨sp, 0, none⟩), .agg #[.int .i64 a, .int .i64 b]] W fun e w' => e = .returned (.int .i64 ((getL s.raw a b).length : Nat)) ∧ (∃ v', SerV w' sp v' (cutL s.raw a b) ∧ v'.ownBlock = v.ownBlock) ∧ Only (SBlk sp v) W w') := Lib.hid fun W hb => secut_any (h.ser.keep hb) a b
  obtain ⟨c0, -, -, -, -, -, -⟩ := h.cells
  have hplt : p < w.heap.size := cell_lt c0
  clear h
  cases hr : rightT a b with
  | false =>
    have HRE : Hid (goneR s a b = 0 ∧ purgeT s a b = s) := Lib.hid ⟨by unfold goneR; rw [if_neg (by rw [hr]; simp)], by unfold purgeT; rw [if_neg (by rw [hr]; simp)]⟩
    rw [hr] at HRI
    clear hr hplt c0
    go_enter Tryz.func28, Tryz.ntmps28
    go_upto_region 1 with fail
    refine wp_name fun W1 hW1 => ?_
    obtain ⟨B, hB⟩ : ∃ B, B = w.heap.size := ⟨_, rfl⟩
    obtain ⟨h1, h2, h3⟩ := ptr_range_new w p a b hW1.out
    rw [← hB] at h1 h2 ⊢
    have HB1 := Lib.hid h3
    have c1 := h1.cell
    obtain ⟨c2, c3, -, -⟩ := h2.cells
    clear hW1 hB h1 h2 h3
    go_wp2_with fail
    refine (HRI.out W1).mono ?_
    rintro e W2 ⟨rfl, hb⟩
    have HB2 := Lib.hid (HB1.out.trans (hb.mono HB1.out.size))
    clear hb c1 c2 c3
    dsimp only
    go_wp2_with fail
    go_ret
    exact ⟨by rw [HRE.out.1]; rfl, by rw [HRE.out.2]; exact Turned.same HT.out HB2.out⟩
  | true =>
    have HAB : Hid (a < b) := Lib.hid (tright_lt hr)
    have HRE : Hid (goneR s a b = ((getL s.raw a b).length : Nat) ∧ purgeT s a b = purgeS s a b) := Lib.hid ⟨by unfold goneR goneT; rw [if_pos hr], by unfold purgeT; rw [if_pos hr]⟩
    rw [hr] at HRI
    obtain ⟨n, hn⟩ : ∃ n, n = (getL s.raw a b).length := ⟨_, rfl⟩
    rw [← hn] at HCU HRE
    clear hr hn
    go_enter Tryz.func28, Tryz.ntmps28
    go_upto_region 1 with fail
    refine wp_name fun W1 hW1 => ?_
    obtain ⟨B, hB⟩ : ∃ B, B = w.heap.size := ⟨_, rfl⟩
    obtain ⟨h1, h2, h3⟩ := ptr_range_new w p a b hW1.out
    rw [← hB] at h1 h2 ⊢
    have HB1 := Lib.hid h3
    have HC1 := Lib.hid h1
    have HR1 := Lib.hid h2
    have c1 := h1.cell
    obtain ⟨c2, c3, -, -⟩ := h2.cells
    clear hW1 hB h1 h2 h3
    go_wp2_with fail
    refine (HRI.out W1).mono ?_
    rintro e W2 ⟨rfl, hb⟩
    have HB2 := Lib.hid (HB1.out.trans (hb.mono HB1.out.size))
    have HC2 := Lib.hid (HC1.out.keep hb)
    have HR2 := Lib.hid (HR1.out.keep hb)
    have HT2 := Lib.hid (HT.out.keep HB2.out)
    replace c0 := (HB2.out.cell (p := ⟨p, 0, none⟩) hplt).trans c0
    have HC : Hid (W2.cell? ⟨B, 0, none⟩ = some (.pointer (some ⟨p, 0, none⟩)) ∧ W2.cell? ⟨p, 0, none⟩ = some (.pointer (some ⟨sp, 0, none⟩)) ∧ W2.cell? ⟨B + 1, 0, none⟩ = some (.int .i64 a) ∧ W2.cell? ⟨B + 1, 1, none⟩ = some (.int .i64 b)) := Lib.hid ⟨HC2.out.cell, c0, HR2.out.cells.1, HR2.out.cells.2.1⟩
    have HCD : Hid (W2.drew.cell? ⟨B, 0, none⟩ = some (.pointer (some ⟨p, 0, none⟩)) ∧ W2.drew.cell? ⟨p, 0, none⟩ = some (.pointer (some ⟨sp, 0, none⟩)) ∧ W2.drew.cell? ⟨B + 1, 0, none⟩ = some (.int .i64 a) ∧ W2.drew.cell? ⟨B + 1, 1, none⟩ = some (.int .i64 b)) := Lib.hid HC.out
    have HCW := Lib.hid (HCU.out W2.drew (below_drew HB2.out))
    clear hb c1 c2 c3 c0 hplt HC1 HR1 HB1 HCU
    dsimp only
    go_upto_region 3 with fail
    go_region_held3 (fun w' => w'.cell? ⟨B, 0, none⟩ = some (.pointer (some ⟨p, 0, none⟩)) ∧ w'.cell? ⟨p, 0, none⟩ = some (.pointer (some ⟨sp, 0, none⟩)) ∧ w'.cell? ⟨B + 1, 0, none⟩ = some (.int .i64 a) ∧ w'.cell? ⟨B + 1, 1, none⟩ = some (.int .i64 b)) (first | with_reducible exact HC.out | with_reducible exact HCD.out | with_reducible exact HC3.out) ((go_at_call 62; refine (HCW.out).mono ?_; rintro e W3 ⟨rfl, hs3, ho3⟩; have HTU3 := Lib.hid (purge_cut HT2.out hs3 ho3); have HC3 := Lib.hid (purge_held HT2.out HC2.out HR2.out ho3); have HCA3 : Hid (CapAt W3 B p ∧ RgAt W3 (B + 1) a b) := Lib.hid ⟨HC2.out.drew.only ho3 (HT2.out.drew.nBs HC2.out.drew), HR2.out.drew.only ho3 (HT2.out.drew.nRs HR2.out.drew)⟩; clear hs3 ho3))
    obtain ⟨v3, vm3, vl3, x1, x2, x3⟩ := HTU3.out
    have HT3 := Lib.hid x1
    have HX2 := Lib.hid x2
    have HX3 := Lib.hid x3
    have HRM := Lib.hid (tirenM_any x1 HCA3.out.1 HAB.out)
    obtain ⟨b0, -, b1, b2⟩ := HC3.out
    clear x1 x2 x3 HC HCD HCW
    go_wp2_with fail
    refine HRM.out.mono ?_
    rintro e W4 ⟨rfl, ht4⟩
    obtain ⟨v4, vm4, vl4, x1, x2, x3⟩ := ht4
    have HCA4 : Hid (CapAt W4 B p ∧ RgAt W4 (B + 1) a b) := Lib.hid ⟨HCA3.out.1.only x3 (HT3.out.nB HCA3.out.1), HCA3.out.2.only x3 (HT3.out.nR HCA3.out.2)⟩
    have HT4 := Lib.hid x1
    have HY2 := Lib.hid x2
    have HY3 := Lib.hid x3
    have HRL := Lib.hid (tirenL_any x1 HCA4.out.1 HAB.out)
    clear x1 x2 x3 b0 b1 b2 HRM
    have b0 := HCA4.out.1.cell
    obtain ⟨b1, b2, -, -⟩ := HCA4.out.2.cells
    dsimp only
    go_wp2_with fail
    refine HRL.out.mono ?_
    rintro e W5 ⟨rfl, ht5⟩
    have HTU5 := Lib.hid ht5
    clear ht5 b0 b1 b2 HRL
    dsimp only
    go_wp2_with fail
    go_ret
    refine ⟨by rw [HRE.out.1]; rfl, ?_⟩
    rw [HRE.out.2]
    have t5 : Turned W3 W5 p sp v3 vm3 vl3 (purgeS s a b) := Turned.then HT4.out HY2.out HY3.out HTU5.out
    exact Turned.from (below_drew HB2.out) (Turned.then HT3.out HX2.out HX3.out t5)
end Go.Proofs.YthbdchleppbidaaGreat
/- What package tier does, proved: the structure that the laws are walked over. -/
namespace Go.Proofs.YthbdchleppbidaaGreat
open Go.RowKit

theorem tSit_good {w : World} {p : Nat} {s : Stk} (h : tSit w p s) : GoodT s := by
  obtain ⟨sp, v, vm, vl, h⟩ := h
  exact h.good
def tierDoes : TierD where
  sit := tSit
  own := tOwn
  good := tSit_good
  lt := tSit_lt
  keep := tSit_keep
  new_ := fun w => (tinew_any w).mono fun e w' hh => by
    obtain ⟨p, sp, rfl, h1, h2, h3, h4⟩ := hh
    refine ⟨p, rfl, ⟨sp, _, _, _, h1⟩, fun k hk => ?_, h4⟩
    rcases (h1.own k).1 hk with e | (e | e) | e | e
    · omega
    · omega
    · cases e
    · cases e
    · cases e
  put := fun h hx hf hn => by
    obtain ⟨sp, v, vm, vl, h⟩ := h
    exact (tiput_any h hx hf hn).mono fun e w' hh => ⟨hh.1, Turned.out h hh.2⟩
  roll := fun h h0 h1 => by
    obtain ⟨sp, v, vm, vl, h⟩ := h
    exact (tiroll_any h h0 h1).mono fun e w' hh => ⟨hh.1, Turned.out h hh.2⟩
  purge := fun {_ _ _ a b} h _ _ _ _ => by
    obtain ⟨sp, v, vm, vl, h⟩ := h
    exact (tipurge_any h a b).mono fun e w' hh => ⟨hh.1, Turned.out h hh.2⟩
  points := fun {_ _ _ a b} h _ _ _ _ => by
    obtain ⟨sp, v, vm, vl, h⟩ := h
    exact tipoints_any h a b
  aggs := fun h h0 h1 _ _ _ _ => tiaggs_any h h0 h1
  mark := fun h h0 h1 => by
    obtain ⟨sp, v, vm, vl, h⟩ := h
    exact (timark_any h h0 h1).mono fun e w' hh => ⟨hh.1, by rw [hh.2]; exact Below.refl _ _⟩
end Go.Proofs.YthbdchleppbidaaGreat
