/- Package tier: what is left of a window: Purge's two functions. Written by py/ti-pur.py. -/
import Derived.Test.YtmpphidiofhnlaaZTiAggs0
import Derived.Test.YtmpphidiofhnlaaZTiPut1
import Derived.Test.YtmpphidiofhnlaaMR
namespace Go.Proofs.Ytmpphidiofhnlaa
open Go.RowKit

theorem range_agg_new (w : World) (a b : Int) {W : World} (hW : W = (w.alloc (.cells #[.int .i64 a, .int .i64 b] 24)).alloc (.cells #[.int .i64 0, .int .i64 0, .int .i64 0, .int .i64 0, .int .i64 0] 53)) : RgAt W w.heap.size a b ∧ AgAt W (w.heap.size + 1) zeroAg ∧ Below w.heap.size w W := by
  subst hW
  have h1 := RgAt.new w a b
  have h2 := AgAt.new (w.alloc (.cells #[.int .i64 a, .int .i64 b] 24)) zeroAg
  rw [show (w.alloc (.cells #[.int .i64 a, .int .i64 b] 24)).heap.size = w.heap.size + 1 by simp] at h2
  exact ⟨h1.old _, h2, ((Below.refl _ w).alloc (Nat.le_refl _) _).alloc (by simp) _⟩
theorem pur_on {W W' : World} {P B p sp : Nat} {a b : Int} (h : W.cell? ⟨P, 0, none⟩ = some (.int .i64 a) ∧ W.cell? ⟨P, 1, none⟩ = some (.int .i64 b) ∧ W.cell? ⟨p, 0, none⟩ = some (.pointer (some ⟨sp, 0, none⟩)) ∧ W.cell? ⟨B, 0, none⟩ = some (.pointer (some ⟨p, 0, none⟩))) (hb : Below W.heap.size W W') : W'.cell? ⟨P, 0, none⟩ = some (.int .i64 a) ∧ W'.cell? ⟨P, 1, none⟩ = some (.int .i64 b) ∧ W'.cell? ⟨p, 0, none⟩ = some (.pointer (some ⟨sp, 0, none⟩)) ∧ W'.cell? ⟨B, 0, none⟩ = some (.pointer (some ⟨p, 0, none⟩)) :=
  ⟨(hb.cell (p := ⟨P, 0, none⟩) (cell_lt h.1)).trans h.1, (hb.cell (p := ⟨P, 1, none⟩) (cell_lt h.2.1)).trans h.2.1, (hb.cell (p := ⟨p, 0, none⟩) (cell_lt h.2.2.1)).trans h.2.2.1, (hb.cell (p := ⟨B, 0, none⟩) (cell_lt h.2.2.2)).trans h.2.2.2⟩
theorem pur_set {W : World} {P B p sp N : Nat} {a b : Int} {t : Ag} (h : W.cell? ⟨P, 0, none⟩ = some (.int .i64 a) ∧ W.cell? ⟨P, 1, none⟩ = some (.int .i64 b) ∧ W.cell? ⟨p, 0, none⟩ = some (.pointer (some ⟨sp, 0, none⟩)) ∧ W.cell? ⟨B, 0, none⟩ = some (.pointer (some ⟨p, 0, none⟩))) (hne : P ≠ N ∧ p ≠ N ∧ B ≠ N) : (setAg W N t).cell? ⟨P, 0, none⟩ = some (.int .i64 a) ∧ (setAg W N t).cell? ⟨P, 1, none⟩ = some (.int .i64 b) ∧ (setAg W N t).cell? ⟨p, 0, none⟩ = some (.pointer (some ⟨sp, 0, none⟩)) ∧ (setAg W N t).cell? ⟨B, 0, none⟩ = some (.pointer (some ⟨p, 0, none⟩)) := by
  have ho := setAg_only W N t
  exact ⟨(World.cell?_of_block (a := ⟨P, 0, none⟩) (ho.block P (cell_lt h.1) hne.1)).trans h.1, (World.cell?_of_block (a := ⟨P, 1, none⟩) (ho.block P (cell_lt h.1) hne.1)).trans h.2.1, (World.cell?_of_block (a := ⟨p, 0, none⟩) (ho.block p (cell_lt h.2.2.1) hne.2.1)).trans h.2.2.1, (World.cell?_of_block (a := ⟨B, 0, none⟩) (ho.block B (cell_lt h.2.2.2) hne.2.2)).trans h.2.2.2⟩
set_option maxHeartbeats 8000000 in
set_option maxRecDepth 100000 in
theorem tipur1_any {w : World} {B p sp : Nat} {v vm vl : Value} {s : Stk} (h : TSit w p sp v vm vl s) (hc : CapAt w B p) {a b : Int} (ha0 : -9223372036854775808 ≤ a) (ha1 : a ≤ 9223372036854775807) :
    Calls Try.prog 30 #[.agg #[.int .i64 a, .int .i64 b], .pointer (some ⟨B, 0, none⟩)] w fun e w' => e = .returned (.tuple #[agV (ofR a (getL s.raw a b)), .bool (!(getL s.raw a b).isEmpty)]) ∧ Below w.heap.size w w' := by
  have HG : Hid (∀ W, Below w.heap.size w W → Calls Try.prog 32 #[.pointer (some ⟨sp, 0, none⟩), .agg #[.int .i64 a, .int .i64 b]] W fun e w' => ∃ v', e = .returned v' ∧ PtRowB W.heap.size w' v' (getL s.raw a b) ∧ Below W.heap.size W w') := Lib.hid fun W hb => seget_any (h.ser.keep hb) a b
  have HRP : Hid (∀ W B' u, PtRowB B' W u (getL s.raw a b) → Calls Try.prog 31 #[.int .i64 a, u] W fun e w' => e = .returned (.tuple #[agV (ofR a (getL s.raw a b)), .bool (!(getL s.raw a b).isEmpty)]) ∧ Below W.heap.size W w') := Lib.hid fun W B' u hu => roof_any ha0 ha1 hu.plies (fun q hq => h.good.pfits q (List.mem_filter.1 hq).1) (by have h1 : (getL s.raw a b).length ≤ s.raw.length := List.length_filter_le _ _; have := h.good.plen; omega)
  obtain ⟨c0, -, -, -, -, -, -⟩ := h.cells
  have cb := hc.cell
  have hplt : p < w.heap.size := cell_lt c0
  have hBlt : B < w.heap.size := cell_lt cb
  obtain ⟨G, hG⟩ : ∃ G, G = getL s.raw a b := ⟨_, rfl⟩
  rw [← hG] at HG HRP ⊢
  obtain ⟨O, hO⟩ : ∃ O, O = ofR a G := ⟨_, rfl⟩
  obtain ⟨Q, hQ⟩ : ∃ Q, Q = (!G.isEmpty) := ⟨_, rfl⟩
  rw [← hO, ← hQ] at HRP ⊢
  clear hG hO hQ h hc ha0 ha1
  go_enter Try.func30, Try.ntmps30
  go_upto_region 1 with fail
  refine wp_name fun W1 hW1 => ?_
  obtain ⟨P, hP⟩ : ∃ P, P = w.heap.size := ⟨_, rfl⟩
  obtain ⟨hR1, hN1, hb1⟩ := range_agg_new w a b hW1.out
  have HG1 := Lib.hid (HG.out _ (below_drew hb1))
  rw [← hP] at hR1 hN1
  have HC : Hid (W1.cell? ⟨P, 0, none⟩ = some (.int .i64 a) ∧ W1.cell? ⟨P, 1, none⟩ = some (.int .i64 b) ∧ W1.cell? ⟨p, 0, none⟩ = some (.pointer (some ⟨sp, 0, none⟩)) ∧ W1.cell? ⟨B, 0, none⟩ = some (.pointer (some ⟨p, 0, none⟩))) := Lib.hid ⟨hR1.cells.1, hR1.cells.2.1, (hb1.cell (p := ⟨p, 0, none⟩) (cell_lt c0)).trans c0, (hb1.cell (p := ⟨B, 0, none⟩) (cell_lt cb)).trans cb⟩
  have HCD : Hid (W1.drew.cell? ⟨P, 0, none⟩ = some (.int .i64 a) ∧ W1.drew.cell? ⟨P, 1, none⟩ = some (.int .i64 b) ∧ W1.drew.cell? ⟨p, 0, none⟩ = some (.pointer (some ⟨sp, 0, none⟩)) ∧ W1.drew.cell? ⟨B, 0, none⟩ = some (.pointer (some ⟨p, 0, none⟩))) := Lib.hid HC.out
  have HB1 := Lib.hid hb1
  have HN1 := Lib.hid hN1
  have HNE : Hid (P ≠ P + 1 ∧ p ≠ P + 1 ∧ B ≠ P + 1) := Lib.hid (by omega)
  have HPW := Lib.hid hP
  rw [← hP]
  clear hW1 hb1 hP hR1 hN1 HG c0 cb hplt hBlt
  go_region_held3 (fun w' => w'.cell? ⟨P, 0, none⟩ = some (.int .i64 a) ∧ w'.cell? ⟨P, 1, none⟩ = some (.int .i64 b) ∧ w'.cell? ⟨p, 0, none⟩ = some (.pointer (some ⟨sp, 0, none⟩)) ∧ w'.cell? ⟨B, 0, none⟩ = some (.pointer (some ⟨p, 0, none⟩))) (first | with_reducible exact HC.out | with_reducible exact HCD.out | with_reducible exact HC2.out | with_reducible exact HC3.out | exact pur_set (W := W3) (N := P + 1) (t := O) HC3.out HNE.out) ((first | (go_at_call 32; refine (HG1.out).mono ?_; rintro e W2 ⟨v2, rfl, hr2, hb2⟩; have HC2 : Hid (W2.cell? ⟨P, 0, none⟩ = some (.int .i64 a) ∧ W2.cell? ⟨P, 1, none⟩ = some (.int .i64 b) ∧ W2.cell? ⟨p, 0, none⟩ = some (.pointer (some ⟨sp, 0, none⟩)) ∧ W2.cell? ⟨B, 0, none⟩ = some (.pointer (some ⟨p, 0, none⟩))) := Lib.hid (pur_on (W := W1.drew) HC.out hb2); have HB2 : Hid (Below w.heap.size w W2) := Lib.hid (HB1.out.trans ((below_drew (Below.refl w.heap.size W1)).trans (hb2.mono HB1.out.size))); have HN2 := Lib.hid (HN1.out.drew.keep hb2); have HP2 := Lib.hid (HRP.out W2 _ v2 hr2); clear hb2 hr2) | (go_at_call 31; refine (HP2.out).mono ?_; rintro e W3 ⟨rfl, hb3⟩; have HC3 : Hid (W3.cell? ⟨P, 0, none⟩ = some (.int .i64 a) ∧ W3.cell? ⟨P, 1, none⟩ = some (.int .i64 b) ∧ W3.cell? ⟨p, 0, none⟩ = some (.pointer (some ⟨sp, 0, none⟩)) ∧ W3.cell? ⟨B, 0, none⟩ = some (.pointer (some ⟨p, 0, none⟩))) := Lib.hid (pur_on HC2.out hb3); have HB3 : Hid (Below w.heap.size w W3) := Lib.hid (HB2.out.trans (hb3.mono HB2.out.size)); have HN3 := Lib.hid (HN2.out.keep hb3); obtain ⟨z0, z1, z2, z3, z4, g0, g1, g2, g3, g4⟩ := HN3.out.cells; unfold agV; clear hb3)))
  all_goals
    go_wp2_with fail
    refine bodyPost_ret (ret_ag2 (Q := P + 1) (t := O) rfl rfl (setAg_at HN3.out O)) rfl ?_
    exact ⟨rfl, HB3.out.trans ((setAg_only W3 (P + 1) O).below HB3.out.size (fun k hk => by rw [hk, HPW.out]; omega))⟩
set_option maxHeartbeats 8000000 in
set_option maxRecDepth 100000 in
theorem tipur2_any {w : World} {B p sp : Nat} {v vm vl : Value} {s : Stk} (h : TSit w p sp v vm vl s) (hc : CapAt w B p) {a b : Int} (ha0 : -9223372036854775808 ≤ a) (ha1 : a ≤ 9223372036854775807) :
    Calls Try.prog 33 #[.agg #[.int .i64 a, .int .i64 b], .pointer (some ⟨B, 0, none⟩)] w fun e w' => e = .returned (.tuple #[agV (joinR a (s.mid.filter fun x => decide (a < b) && metA 300 a b x.at_)), .bool ((joinA a (s.mid.filter fun x => decide (a < b) && metA 300 a b x.at_)).isSome)]) ∧ Below w.heap.size w w' := by
  have HG : Hid (∀ W, Below w.heap.size w W → Calls Try.prog 19 #[.pointer (some ⟨p, 0, none⟩), .int .i64 1, .agg #[.int .i64 a, .int .i64 b]] W fun e w' => ∃ v', e = .returned v' ∧ AgRow W.heap.size w' v' (s.mid.filter fun x => decide (a < b) && metA 300 a b x.at_) ∧ Below W.heap.size W w') := Lib.hid fun W hb => tiaggs_mid (h.keep hb) a b
  have HRP : Hid (∀ W B' u, AgRow B' W u (s.mid.filter fun x => decide (a < b) && metA 300 a b x.at_) → Calls Try.prog 34 #[.int .i64 a, u] W fun e w' => e = .returned (.tuple #[agV (joinR a (s.mid.filter fun x => decide (a < b) && metA 300 a b x.at_)), .bool ((joinA a (s.mid.filter fun x => decide (a < b) && metA 300 a b x.at_)).isSome)]) ∧ Below W.heap.size W w') := Lib.hid fun W B' u hu => rojoin_any ha0 ha1 hu.lies (fun q hq => h.good.mid.fits q (List.mem_filter.1 hq).1) (by have h1 : (s.mid.filter fun x => decide (a < b) && metA 300 a b x.at_).length ≤ s.mid.length := List.length_filter_le _ _; have := h.good.mid.len; omega)
  obtain ⟨c0, -, -, -, -, -, -⟩ := h.cells
  have cb := hc.cell
  have hplt : p < w.heap.size := cell_lt c0
  have hBlt : B < w.heap.size := cell_lt cb
  obtain ⟨G, hG⟩ : ∃ G, G = s.mid.filter fun x => decide (a < b) && metA 300 a b x.at_ := ⟨_, rfl⟩
  rw [← hG] at HG HRP ⊢
  obtain ⟨O, hO⟩ : ∃ O, O = joinR a G := ⟨_, rfl⟩
  obtain ⟨Q, hQ⟩ : ∃ Q, Q = ((joinA a G).isSome) := ⟨_, rfl⟩
  rw [← hO, ← hQ] at HRP ⊢
  clear hG hO hQ h hc ha0 ha1
  go_enter Try.func33, Try.ntmps33
  go_upto_region 1 with fail
  refine wp_name fun W1 hW1 => ?_
  obtain ⟨P, hP⟩ : ∃ P, P = w.heap.size := ⟨_, rfl⟩
  obtain ⟨hR1, hN1, hb1⟩ := range_agg_new w a b hW1.out
  have HG1 := Lib.hid (HG.out _ (below_drew hb1))
  rw [← hP] at hR1 hN1
  have HC : Hid (W1.cell? ⟨P, 0, none⟩ = some (.int .i64 a) ∧ W1.cell? ⟨P, 1, none⟩ = some (.int .i64 b) ∧ W1.cell? ⟨p, 0, none⟩ = some (.pointer (some ⟨sp, 0, none⟩)) ∧ W1.cell? ⟨B, 0, none⟩ = some (.pointer (some ⟨p, 0, none⟩))) := Lib.hid ⟨hR1.cells.1, hR1.cells.2.1, (hb1.cell (p := ⟨p, 0, none⟩) (cell_lt c0)).trans c0, (hb1.cell (p := ⟨B, 0, none⟩) (cell_lt cb)).trans cb⟩
  have HCD : Hid (W1.drew.cell? ⟨P, 0, none⟩ = some (.int .i64 a) ∧ W1.drew.cell? ⟨P, 1, none⟩ = some (.int .i64 b) ∧ W1.drew.cell? ⟨p, 0, none⟩ = some (.pointer (some ⟨sp, 0, none⟩)) ∧ W1.drew.cell? ⟨B, 0, none⟩ = some (.pointer (some ⟨p, 0, none⟩))) := Lib.hid HC.out
  have HB1 := Lib.hid hb1
  have HN1 := Lib.hid hN1
  have HNE : Hid (P ≠ P + 1 ∧ p ≠ P + 1 ∧ B ≠ P + 1) := Lib.hid (by omega)
  have HPW := Lib.hid hP
  rw [← hP]
  clear hW1 hb1 hP hR1 hN1 HG c0 cb hplt hBlt
  go_region_held3 (fun w' => w'.cell? ⟨P, 0, none⟩ = some (.int .i64 a) ∧ w'.cell? ⟨P, 1, none⟩ = some (.int .i64 b) ∧ w'.cell? ⟨p, 0, none⟩ = some (.pointer (some ⟨sp, 0, none⟩)) ∧ w'.cell? ⟨B, 0, none⟩ = some (.pointer (some ⟨p, 0, none⟩))) (first | with_reducible exact HC.out | with_reducible exact HCD.out | with_reducible exact HC2.out | with_reducible exact HC3.out | exact pur_set (W := W3) (N := P + 1) (t := O) HC3.out HNE.out) ((first | (go_at_call 19; refine (HG1.out).mono ?_; rintro e W2 ⟨v2, rfl, hr2, hb2⟩; have HC2 : Hid (W2.cell? ⟨P, 0, none⟩ = some (.int .i64 a) ∧ W2.cell? ⟨P, 1, none⟩ = some (.int .i64 b) ∧ W2.cell? ⟨p, 0, none⟩ = some (.pointer (some ⟨sp, 0, none⟩)) ∧ W2.cell? ⟨B, 0, none⟩ = some (.pointer (some ⟨p, 0, none⟩))) := Lib.hid (pur_on (W := W1.drew) HC.out hb2); have HB2 : Hid (Below w.heap.size w W2) := Lib.hid (HB1.out.trans ((below_drew (Below.refl w.heap.size W1)).trans (hb2.mono HB1.out.size))); have HN2 := Lib.hid (HN1.out.drew.keep hb2); have HP2 := Lib.hid (HRP.out W2 _ v2 hr2); clear hb2 hr2) | (go_at_call 34; refine (HP2.out).mono ?_; rintro e W3 ⟨rfl, hb3⟩; have HC3 : Hid (W3.cell? ⟨P, 0, none⟩ = some (.int .i64 a) ∧ W3.cell? ⟨P, 1, none⟩ = some (.int .i64 b) ∧ W3.cell? ⟨p, 0, none⟩ = some (.pointer (some ⟨sp, 0, none⟩)) ∧ W3.cell? ⟨B, 0, none⟩ = some (.pointer (some ⟨p, 0, none⟩))) := Lib.hid (pur_on HC2.out hb3); have HB3 : Hid (Below w.heap.size w W3) := Lib.hid (HB2.out.trans (hb3.mono HB2.out.size)); have HN3 := Lib.hid (HN2.out.keep hb3); obtain ⟨z0, z1, z2, z3, z4, g0, g1, g2, g3, g4⟩ := HN3.out.cells; unfold agV; clear hb3)))
  all_goals
    go_wp2_with fail
    refine bodyPost_ret (ret_ag2 (Q := P + 1) (t := O) rfl rfl (setAg_at HN3.out O)) rfl ?_
    exact ⟨rfl, HB3.out.trans ((setAg_only W3 (P + 1) O).below HB3.out.size (fun k hk => by rw [hk, HPW.out]; omega))⟩
end Go.Proofs.Ytmpphidiofhnlaa
