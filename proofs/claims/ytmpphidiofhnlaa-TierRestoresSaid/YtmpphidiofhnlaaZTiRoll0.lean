/- Package tier: what the windows of a range come to: Roll's two functions. -/
import Derived.Test.YtmpphidiofhnlaaZTiAdv0
namespace Go.Proofs.Ytmpphidiofhnlaa
open Go.RowKit

theorem points_runs {s : Stk} (h : GoodT s) (a b : Int) : pointsR 1 (getL s.raw a b) = (runs (fun p => startW 1 p.a) (getL s.raw a b)).map fun e => ofA e.1 e.2 := by
  unfold pointsR
  have hu : upFrom (-1) ((getL s.raw a b).map Pt.a) = true := upFrom_of (List.pairwise_map.2 (getL_srt h.srt a b)) (fun x hx => by
    obtain ⟨t, ht, rfl⟩ := List.mem_map.1 hx
    have := (h.tick t (List.mem_filter.1 ht).1).1
    omega)
  rw [if_neg (by rw [hu]; rintro (h | h); exact absurd h (by decide); cases h)]
/-- Mid's groups, as Roll asks for them -/
theorem mid_groups {s : Stk} (h : GoodT s) (now : Int) : pointsR 1 (getL s.raw s.mm (max s.mm (now - now % 300))) = (midG s now).map fun e => ofA e.1 e.2 := points_runs h _ _
/-- Long's groups, as Roll asks for them -/
theorem long_groups {s : Stk} (h : GoodT s) (c : Int) : aggsR 2 (s.mid.filter fun x => decide (s.ml < max s.ml (c - c % 3600)) && metA 300 s.ml (max s.ml (c - c % 3600)) x.at_) = (longC s c).filterMap fun e => joinA e.1 e.2 := by
  have hE : upTo 3600 s.ml c % 3600 = 0 := upTo_mul h.ml.2.2
  have hf : (s.mid.filter fun x => decide (s.ml < max s.ml (c - c % 3600)) && metA 300 s.ml (max s.ml (c - c % 3600)) x.at_) = s.mid.filter fun t => decide (s.ml ≤ t.at_) && decide (t.at_ < upTo 3600 s.ml c) := by
    refine List.filter_congr fun t ht => ?_
    have hb := h.mid.beg t ht
    have hl := h.ml
    unfold upTo at hE ⊢
    unfold metA
    generalize max s.ml (c - c % 3600) = Z at hE ⊢
    rw [Bool.eq_iff_iff]
    simp only [decide_eq_true_eq, Bool.and_eq_true]
    omega
  rw [hf]
  unfold aggsR longC
  have hu : upFrom (-1) ((s.mid.filter fun t => decide (s.ml ≤ t.at_) && decide (t.at_ < upTo 3600 s.ml c)).map Ag.at_) = true := upFrom_of (List.pairwise_map.2 (h.mid.up.filter _)) (fun x hx => by
    obtain ⟨t, ht, rfl⟩ := List.mem_map.1 hx
    have := (h.mid.beg t (List.mem_filter.1 ht).1).1
    omega)
  rw [if_neg (by rw [hu]; rintro (h | h); exact absurd h (by decide); cases h)]
set_option maxHeartbeats 8000000 in
set_option maxRecDepth 100000 in
theorem tiroll1_any {w : World} {B p sp : Nat} {v vm vl : Value} {s : Stk} (h : TSit w p sp v vm vl s) (hc : CapAt w B p) (a b : Int) :
    Calls Try.prog 39 #[.agg #[.int .i64 a, .int .i64 b], .pointer (some ⟨B, 0, none⟩)] w fun e w' => ∃ v', e = .returned v' ∧ AgRow w.heap.size w' v' (pointsR 1 (getL s.raw a b)) ∧ Below w.heap.size w w' := by
  have HG : Hid (∀ W, Below w.heap.size w W → Calls Try.prog 32 #[.pointer (some ⟨sp, 0, none⟩), .agg #[.int .i64 a, .int .i64 b]] W fun e w' => ∃ v', e = .returned v' ∧ PtRowB W.heap.size w' v' (getL s.raw a b) ∧ Below W.heap.size W w') := Lib.hid fun W hb => seget_any (h.ser.keep hb) a b
  have HRP : Hid (∀ W B' u, PtRowB B' W u (getL s.raw a b) → Calls Try.prog 40 #[.int .i64 1, u] W fun e w' => ∃ v', e = .returned v' ∧ AgRow W.heap.size w' v' (pointsR 1 (getL s.raw a b)) ∧ Below W.heap.size W w') := Lib.hid fun W B' u hu => ropoints_any (by omega) (by omega) hu.plies (row_fits hu) (fun q hq => h.good.pfits q (List.mem_filter.1 hq).1) (by have h1 : (getL s.raw a b).length ≤ s.raw.length := List.length_filter_le _ _; have := h.good.plen; omega)
  obtain ⟨c0, -, -, -, -, -, -⟩ := h.cells
  have cb := hc.cell
  obtain ⟨G, hG⟩ : ∃ G, G = getL s.raw a b := ⟨_, rfl⟩
  rw [← hG] at HG HRP ⊢
  obtain ⟨O, hO⟩ : ∃ O, O = pointsR 1 G := ⟨_, rfl⟩
  rw [← hO] at HRP ⊢
  clear hG hO h hc
  go_enter Try.func39, Try.ntmps39
  go_upto_region 1 with fail
  refine wp_name fun W1 hW1 => ?_
  obtain ⟨P, hP⟩ : ∃ P, P = w.heap.size := ⟨_, rfl⟩
  have hb1 : Below w.heap.size w W1 := by rw [hW1.out]; exact (Below.refl _ _).alloc (Nat.le_refl _) _
  have hR1 : RgAt W1 P a b := by rw [hW1.out, hP]; exact RgAt.new w a b
  have HG1 := Lib.hid (HG.out _ (below_drew hb1))
  have HC : Hid (W1.cell? ⟨P, 0, none⟩ = some (.int .i64 a) ∧ W1.cell? ⟨P, 1, none⟩ = some (.int .i64 b) ∧ W1.cell? ⟨p, 0, none⟩ = some (.pointer (some ⟨sp, 0, none⟩)) ∧ W1.cell? ⟨B, 0, none⟩ = some (.pointer (some ⟨p, 0, none⟩))) := Lib.hid ⟨hR1.cells.1, hR1.cells.2.1, (hb1.cell (p := ⟨p, 0, none⟩) (cell_lt c0)).trans c0, (hb1.cell (p := ⟨B, 0, none⟩) (cell_lt cb)).trans cb⟩
  have HB1 := Lib.hid hb1
  rw [← hP]
  clear hW1 hb1 hP hR1 HG c0 cb
  go_region_held3 (fun w' => w'.cell? ⟨P, 0, none⟩ = some (.int .i64 a) ∧ w'.cell? ⟨P, 1, none⟩ = some (.int .i64 b) ∧ w'.cell? ⟨p, 0, none⟩ = some (.pointer (some ⟨sp, 0, none⟩)) ∧ w'.cell? ⟨B, 0, none⟩ = some (.pointer (some ⟨p, 0, none⟩))) (first | exact HC.out | exact HC2.out | exact HC3.out) ((first | (go_at_call 32; refine (HG1.out).mono ?_; rintro e W2 ⟨v2, rfl, hr2, hb2⟩; have HC2 : Hid (W2.cell? ⟨P, 0, none⟩ = some (.int .i64 a) ∧ W2.cell? ⟨P, 1, none⟩ = some (.int .i64 b) ∧ W2.cell? ⟨p, 0, none⟩ = some (.pointer (some ⟨sp, 0, none⟩)) ∧ W2.cell? ⟨B, 0, none⟩ = some (.pointer (some ⟨p, 0, none⟩))) := Lib.hid ⟨(hb2.cell (p := ⟨P, 0, none⟩) (cell_lt HC.out.1)).trans HC.out.1, (hb2.cell (p := ⟨P, 1, none⟩) (cell_lt HC.out.2.1)).trans HC.out.2.1, (hb2.cell (p := ⟨p, 0, none⟩) (cell_lt HC.out.2.2.1)).trans HC.out.2.2.1, (hb2.cell (p := ⟨B, 0, none⟩) (cell_lt HC.out.2.2.2)).trans HC.out.2.2.2⟩; have HB2 : Hid (Below w.heap.size w W2) := Lib.hid (HB1.out.trans ((below_drew (Below.refl w.heap.size W1)).trans (hb2.mono HB1.out.size))); have HP2 := Lib.hid (HRP.out W2 _ v2 hr2); clear hb2 hr2) | (go_at_call 40; refine (HP2.out).mono ?_; rintro e W3 ⟨v3, rfl, hr3, hb3⟩; have HC3 : Hid (W3.cell? ⟨P, 0, none⟩ = some (.int .i64 a) ∧ W3.cell? ⟨P, 1, none⟩ = some (.int .i64 b) ∧ W3.cell? ⟨p, 0, none⟩ = some (.pointer (some ⟨sp, 0, none⟩)) ∧ W3.cell? ⟨B, 0, none⟩ = some (.pointer (some ⟨p, 0, none⟩))) := Lib.hid ⟨(hb3.cell (p := ⟨P, 0, none⟩) (cell_lt HC2.out.1)).trans HC2.out.1, (hb3.cell (p := ⟨P, 1, none⟩) (cell_lt HC2.out.2.1)).trans HC2.out.2.1, (hb3.cell (p := ⟨p, 0, none⟩) (cell_lt HC2.out.2.2.1)).trans HC2.out.2.2.1, (hb3.cell (p := ⟨B, 0, none⟩) (cell_lt HC2.out.2.2.2)).trans HC2.out.2.2.2⟩; have HB3 : Hid (Below w.heap.size w W3) := Lib.hid (HB2.out.trans (hb3.mono HB2.out.size)); have HR3 : Hid (AgRow w.heap.size W3 v3 O) := Lib.hid (hr3.base HB2.out.size); clear hb3 hr3)))
  go_wp2_with fail
  go_ret
  exact ⟨_, rfl, HR3.out, HB3.out⟩
set_option maxHeartbeats 8000000 in
set_option maxRecDepth 100000 in
theorem tiroll2_any {w : World} {B p sp : Nat} {v vm vl : Value} {s : Stk} (h : TSit w p sp v vm vl s) (hc : CapAt w B p) (a b : Int) :
    Calls Try.prog 41 #[.agg #[.int .i64 a, .int .i64 b], .pointer (some ⟨B, 0, none⟩)] w fun e w' => ∃ v', e = .returned v' ∧ AgRow w.heap.size w' v' (aggsR 2 (s.mid.filter fun x => decide (a < b) && metA 300 a b x.at_)) ∧ Below w.heap.size w w' := by
  have HG : Hid (∀ W, Below w.heap.size w W → Calls Try.prog 19 #[.pointer (some ⟨p, 0, none⟩), .int .i64 1, .agg #[.int .i64 a, .int .i64 b]] W fun e w' => ∃ v', e = .returned v' ∧ AgRow W.heap.size w' v' (s.mid.filter fun x => decide (a < b) && metA 300 a b x.at_) ∧ Below W.heap.size W w') := Lib.hid fun W hb => tiaggs_mid (h.keep hb) a b
  have HRP : Hid (∀ W B' u, AgRow B' W u (s.mid.filter fun x => decide (a < b) && metA 300 a b x.at_) → Calls Try.prog 42 #[.int .i64 2, u] W fun e w' => ∃ v', e = .returned v' ∧ AgRow W.heap.size w' v' (aggsR 2 (s.mid.filter fun x => decide (a < b) && metA 300 a b x.at_)) ∧ Below W.heap.size W w') := Lib.hid fun W B' u hu => roaggs_any (by omega) (by omega) hu.lies (row_fits hu) (fun q hq => h.good.mid.fits q (List.mem_filter.1 hq).1) (by have h1 : (s.mid.filter fun x => decide (a < b) && metA 300 a b x.at_).length ≤ s.mid.length := List.length_filter_le _ _; have := h.good.mid.len; omega)
  have cb := hc.cell
  obtain ⟨G, hG⟩ : ∃ G, G = s.mid.filter fun x => decide (a < b) && metA 300 a b x.at_ := ⟨_, rfl⟩
  rw [← hG] at HG HRP ⊢
  obtain ⟨O, hO⟩ : ∃ O, O = aggsR 2 G := ⟨_, rfl⟩
  rw [← hO] at HRP ⊢
  clear hG hO h hc
  go_enter Try.func41, Try.ntmps41
  go_upto_region 1 with fail
  refine wp_name fun W1 hW1 => ?_
  obtain ⟨P, hP⟩ : ∃ P, P = w.heap.size := ⟨_, rfl⟩
  have hb1 : Below w.heap.size w W1 := by rw [hW1.out]; exact (Below.refl _ _).alloc (Nat.le_refl _) _
  have hR1 : RgAt W1 P a b := by rw [hW1.out, hP]; exact RgAt.new w a b
  have HG1 := Lib.hid (HG.out _ hb1)
  have c1 : W1.cell? ⟨B, 0, none⟩ = some (.pointer (some ⟨p, 0, none⟩)) := (hb1.cell (p := ⟨B, 0, none⟩) (cell_lt cb)).trans cb
  obtain ⟨c2, c3, -, -⟩ := hR1.cells
  have HB1 := Lib.hid hb1
  rw [← hP]
  clear hW1 hb1 hP hR1 HG cb
  go_wp2_with fail
  refine HG1.out.mono ?_
  rintro e W2 ⟨v2, rfl, hr2, hb2⟩
  have HP2 := Lib.hid (HRP.out W2 _ v2 hr2)
  have HB2 : Hid (Below w.heap.size w W2) := Lib.hid (HB1.out.trans (hb2.mono HB1.out.size))
  clear hb2 hr2 c1 c2 c3
  dsimp only
  go_wp2_with fail
  refine HP2.out.mono ?_
  rintro e W3 ⟨v3, rfl, hr3, hb3⟩
  have HB3 : Hid (Below w.heap.size w W3) := Lib.hid (HB2.out.trans (hb3.mono HB2.out.size))
  have HR3 : Hid (AgRow w.heap.size W3 v3 O) := Lib.hid (hr3.base HB2.out.size)
  clear hr3 hb3
  dsimp only
  go_wp2_with fail
  go_ret
  exact ⟨_, rfl, HR3.out, HB3.out⟩
end Go.Proofs.Ytmpphidiofhnlaa
