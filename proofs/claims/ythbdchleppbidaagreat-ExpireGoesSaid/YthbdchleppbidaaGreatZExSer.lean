/- Package expire: Series. Written by py/ex-series.py. -/
import Derived.Test.YthbdchleppbidaaGreatMK
import Derived.Test.YthbdchleppbidaaGreatZTiDrop
import Derived.Test.YthbdchleppbidaaGreatMP
import Derived.Deep.RegionHeld3
import Derived.Deep.CutBlock
import Derived.Handy
namespace Go.Proofs.YthbdchleppbidaaGreat
open Go.RowKit

theorem held_box {W : World} {Q C i : Nat} {u z : Value} (h : W.cell? ⟨Q, 0, none⟩ = some u) (hne : C ≠ Q) : (W.setCell ⟨C, i, none⟩ z).cell? ⟨Q, 0, none⟩ = some u := by
  rw [World.cell?_of_block (a := ⟨Q, 0, none⟩) ((Only.setCell (S := fun k => k = C) W (p := ⟨C, i, none⟩) rfl z).block Q (cell_lt h) (fun e => hne e.symm))]; exact h
theorem offQ {w W : World} {B C Q p sp : Nat} {v vm vl : Value} {a b c now : Int} {h : Value} {sr : ByteArray} {n0 n1 n2 : Int} {v' vm' vl' : Value} {s : Stk} {t : Int} (x : SerSt w W B C p sp v vm vl a b c now h sr n0 n1 n2 v' vm' vl' s) (_hq : C < Q) (hq : W.heap[Q]? = some (.cells #[.int .i64 t] 3 (0, 0))) : ¬ TBlk p sp v' vm' vl' Q := by
  rintro (rfl | (rfl | h) | h | h)
  · have h1 := x.sit.at_; rw [hq] at h1; injection h1 with h1; injection h1 with _ h1; revert h1; decide
  · have h1 := x.sit.ser.at_; rw [hq] at h1; injection h1 with h1; injection h1 with _ h1; revert h1; decide
  · exact row_ne hq x.sit.ser.row (by decide) h
  · exact row_ne hq x.sit.mid (by decide) h
  · exact row_ne hq x.sit.long (by decide) h
theorem five_boxes (w : World) (o0 o1 o2 o3 o4 : Array Value) (t0 t1 t2 t3 t4 : TypeId) :
    Below w.heap.size w (((((w.alloc (.cells o0 t0)).alloc (.cells o1 t1)).alloc (.cells o2 t2)).alloc (.cells o3 t3)).alloc (.cells o4 t4)) ∧ (((((w.alloc (.cells o0 t0)).alloc (.cells o1 t1)).alloc (.cells o2 t2)).alloc (.cells o3 t3)).alloc (.cells o4 t4)).heap.size = w.heap.size + 5 ∧
    (((((w.alloc (.cells o0 t0)).alloc (.cells o1 t1)).alloc (.cells o2 t2)).alloc (.cells o3 t3)).alloc (.cells o4 t4)).heap[w.heap.size]? = some (.cells o0 t0 (0, 0)) ∧
    (((((w.alloc (.cells o0 t0)).alloc (.cells o1 t1)).alloc (.cells o2 t2)).alloc (.cells o3 t3)).alloc (.cells o4 t4)).heap[w.heap.size + 1]? = some (.cells o1 t1 (0, 0)) ∧
    (((((w.alloc (.cells o0 t0)).alloc (.cells o1 t1)).alloc (.cells o2 t2)).alloc (.cells o3 t3)).alloc (.cells o4 t4)).heap[w.heap.size + 2]? = some (.cells o2 t2 (0, 0)) ∧
    (((((w.alloc (.cells o0 t0)).alloc (.cells o1 t1)).alloc (.cells o2 t2)).alloc (.cells o3 t3)).alloc (.cells o4 t4)).heap[w.heap.size + 3]? = some (.cells o3 t3 (0, 0)) ∧
    (((((w.alloc (.cells o0 t0)).alloc (.cells o1 t1)).alloc (.cells o2 t2)).alloc (.cells o3 t3)).alloc (.cells o4 t4)).heap[w.heap.size + 4]? = some (.cells o4 t4 (0, 0)) := by
  obtain ⟨w1, h1⟩ : ∃ x, x = w.alloc (.cells o0 t0) := ⟨_, rfl⟩
  obtain ⟨w2, h2⟩ : ∃ x, x = w1.alloc (.cells o1 t1) := ⟨_, rfl⟩
  obtain ⟨w3, h3⟩ : ∃ x, x = w2.alloc (.cells o2 t2) := ⟨_, rfl⟩
  obtain ⟨w4, h4⟩ : ∃ x, x = w3.alloc (.cells o3 t3) := ⟨_, rfl⟩
  obtain ⟨w5, h5⟩ : ∃ x, x = w4.alloc (.cells o4 t4) := ⟨_, rfl⟩
  rw [← h1, ← h2, ← h3, ← h4, ← h5]
  have s1 : w1.heap.size = w.heap.size + 1 := by rw [h1]; simp
  have s2 : w2.heap.size = w.heap.size + 2 := by rw [h2]; simp [s1]
  have s3 : w3.heap.size = w.heap.size + 3 := by rw [h3]; simp [s2]
  have s4 : w4.heap.size = w.heap.size + 4 := by rw [h4]; simp [s3]
  have s5 : w5.heap.size = w.heap.size + 5 := by rw [h5]; simp [s4]
  have b1 : Below w.heap.size w w1 := by rw [h1]; exact (Below.refl _ _).alloc (Nat.le_refl _) _
  have b2 : Below w1.heap.size w1 w2 := by rw [h2]; exact (Below.refl _ _).alloc (Nat.le_refl _) _
  have b3 : Below w2.heap.size w2 w3 := by rw [h3]; exact (Below.refl _ _).alloc (Nat.le_refl _) _
  have b4 : Below w3.heap.size w3 w4 := by rw [h4]; exact (Below.refl _ _).alloc (Nat.le_refl _) _
  have b5 : Below w4.heap.size w4 w5 := by rw [h5]; exact (Below.refl _ _).alloc (Nat.le_refl _) _
  refine ⟨b1.trans ((b2.mono (by omega)).trans ((b3.mono (by omega)).trans ((b4.mono (by omega)).trans (b5.mono (by omega))))), s5, ?_, ?_, ?_, ?_, ?_⟩
  · rw [b5.block _ (by omega), b4.block _ (by omega), b3.block _ (by omega), b2.block _ (by omega), h1]; exact heap_alloc_new w _
  · rw [b5.block _ (by omega), b4.block _ (by omega), b3.block _ (by omega), h2, ← s1]; exact heap_alloc_new w1 _
  · rw [b5.block _ (by omega), b4.block _ (by omega), h3, ← s2]; exact heap_alloc_new w2 _
  · rw [b5.block _ (by omega), h4, ← s3]; exact heap_alloc_new w3 _
  · rw [h5, ← s4]; exact heap_alloc_new w4 _
theorem ser_bad {s : Stk} {m : List Hld} {sr : ByteArray} {a b c now : Int} (h : badX a b c now = true) : wentX s (serX s m sr a b c now) = .agg #[.int .i64 0, .int .i64 0, .int .i64 0] ∧ serX s m sr a b c now = s ∧ errX a b c now = 1 := by
  have e : serX s m sr a b c now = s := by unfold serX; rw [if_pos h]
  refine ⟨?_, e, by unfold errX; rw [if_pos h]⟩
  rw [e]; unfold wentX
  rw [Nat.sub_self, Nat.sub_self, Nat.sub_self]; rfl
set_option maxHeartbeats 16000000 in
set_option maxRecDepth 1000000 in
theorem exseries_any {w : World} {p sp : Nat} {v vm vl : Value} {hp : Option Addr} {s : Stk} {m : List Hld} {sr : ByteArray} {a b c now : Int} (hs : TSit w p sp v vm vl s) (hm : MeetX w p sp v vm vl (.pointer hp) m sr) (hn : -9223372036854775808 ≤ now ∧ now ≤ 9223372036854775807) :
    Calls Tryz.prog 13 #[.pointer (some ⟨p, 0, none⟩), .string sr, .pointer hp, .agg #[.int .i64 a, .int .i64 b, .int .i64 c], .int .i64 now] w fun e w' => e = .returned (.tuple #[wentX s (serX s m sr a b c now), .int .i64 (errX a b c now)]) ∧ Turned w w' p sp v vm vl (serX s m sr a b c now) := by
  have HT := Lib.hid hs
  have HM := Lib.hid hm
  have HN := Lib.hid hn
  have HPR : Hid (∀ V, Calls Tryz.prog 31 #[.agg #[.int .i64 a, .int .i64 b, .int .i64 c]] V fun e w' => e = .returned (.bool (rightP a b c)) ∧ Below V.heap.size V w') := Lib.hid fun V => poright_any V a b c
  have HBE : Hid (badX a b c now = (!rightP a b c || !(decide (0 ≤ now) && decide (now ≤ 1099511627776)))) := Lib.hid rfl
  obtain ⟨RP, hRP⟩ : ∃ x, x = rightP a b c := ⟨_, rfl⟩
  rw [← hRP] at HPR HBE
  clear hRP hs hm hn
  go_enter Tryz.func13, Tryz.ntmps13
  go_upto_region 1 with fail
  refine wp_name fun W1 hW1 => ?_
  obtain ⟨B, hB⟩ : ∃ B, B = w.heap.size := ⟨_, rfl⟩
  have HBB := Lib.hid hB
  have HW1 : Hid (Below w.heap.size w W1 ∧ W1.heap.size = B + 5 ∧ W1.heap[B]? = some (.cells #[.string sr] 9 (0, 0)) ∧ W1.heap[B + 1]? = some (.cells #[.pointer hp] 31 (0, 0)) ∧ PolAt W1 (B + 2) a b c ∧ W1.heap[B + 3]? = some (.cells #[.int .i64 now] 2 (0, 0)) ∧ W1.heap[B + 4]? = some (.cells #[.int .i64 0, .int .i64 0, .int .i64 0] 35 (0, 0))) := Lib.hid (by
    rw [hW1.out, hB]; exact five_boxes w _ _ _ _ _ _ _ _ _ _)
  rw [← hB, show B + 1 + 1 + 1 + 1 = B + 4 from rfl, show B + 1 + 1 + 1 = B + 3 from rfl, show B + 1 + 1 = B + 2 from rfl]
  clear hW1 hB
  have HRB : Hid (∀ W2 : World, Below W1.heap.size W1 W2 → W2.heap[B + 4]? = some (.cells #[.int .i64 0, .int .i64 0, .int .i64 0] 35 (0, 0))) := Lib.hid fun W2 hb2 => (hb2.block _ (lt_of_block HW1.out.2.2.2.2.2.2)).trans HW1.out.2.2.2.2.2.2
  have HEND : Hid (∀ W2 : World, badX a b c now = true → Below W1.heap.size W1 W2 → (Ending.returned (.tuple #[.agg #[.int .i64 0, .int .i64 0, .int .i64 0], .int .i64 1]) = Ending.returned (.tuple #[wentX s (serX s m sr a b c now), .int .i64 (errX a b c now)]) ∧ Turned w (setPol W2 (B + 4) (.int .i64 0) (.int .i64 0) (.int .i64 0)) p sp v vm vl (serX s m sr a b c now))) := Lib.hid (by
    intro W2 hbd hb2
    obtain ⟨e1, e2, e3⟩ := ser_bad (s := s) (m := m) (sr := sr) hbd
    refine ⟨by rw [e1, e3], ?_⟩
    rw [e2]
    refine Turned.same HT.out ((HW1.out.1.trans (hb2.mono HW1.out.1.size)).trans ((setPol_only W2 (B + 4) _ _ _).below (Nat.le_trans HW1.out.1.size hb2.size) (fun k hk => ?_)))
    rw [hk, HBB.out]; omega)
  obtain ⟨p0, p1, p2, -, -, -⟩ := HW1.out.2.2.2.2.1.cells
  cases RP with
  | false =>
    have HBD : Hid (badX a b c now = true) := Lib.hid (by rw [HBE.out]; rfl)
    go_wp2_with fail
    refine (HPR.out W1).mono ?_
    rintro e W2 ⟨rfl, hb2⟩
    have HR2 := Lib.hid (HRB.out W2 hb2)
    have HE2 := Lib.hid (HEND.out W2 HBD.out hb2)
    clear hb2 p0 p1 p2
    obtain ⟨z0, z1, z2, f0, f1, f2⟩ := cells3 HR2.out
    dsimp only
    go_wp2_with fail
    refine bodyPost_ret (ret_cnt2 rfl rfl (setPol_at HR2.out _ _ _)) rfl ?_
    exact HE2.out
  | true =>
    go_wp2_with fail
    refine (HPR.out W1).mono ?_
    rintro e W2 ⟨rfl, hb2⟩
    have HN2 : Hid (W2.heap[B + 3]? = some (.cells #[.int .i64 now] 2 (0, 0))) := Lib.hid ((hb2.block _ (lt_of_block HW1.out.2.2.2.2.2.1)).trans HW1.out.2.2.2.2.2.1)
    have HR2 := Lib.hid (HRB.out W2 hb2)
    have HB2 := Lib.hid hb2
    clear hb2 p0 p1 p2
    have n0 := (cells1 HN2.out).1
    dsimp only
    by_cases h1 : now < 0
    · have d1 : decide (now < 0) = true := decide_eq_true h1
      have HE2 := Lib.hid (HEND.out W2 (by rw [HBE.out, decide_eq_false (show ¬ 0 ≤ now by omega)]; rfl) HB2.out)
      obtain ⟨z0, z1, z2, f0, f1, f2⟩ := cells3 HR2.out
      clear h1
      go_wp2_with fail
      refine bodyPost_ret (ret_cnt2 rfl rfl (setPol_at HR2.out _ _ _)) rfl ?_
      exact HE2.out
    have d1 : decide (now < 0) = false := decide_eq_false h1
    by_cases h2 : 1099511627776 < now
    · have d2 : decide (1099511627776 < now) = true := decide_eq_true h2
      have HE2 := Lib.hid (HEND.out W2 (by rw [HBE.out, decide_eq_false (show ¬ now ≤ 1099511627776 by omega), Bool.and_false]; rfl) HB2.out)
      obtain ⟨z0, z1, z2, f0, f1, f2⟩ := cells3 HR2.out
      clear h1 h2
      go_wp2_with fail
      refine bodyPost_ret (ret_cnt2 rfl rfl (setPol_at HR2.out _ _ _)) rfl ?_
      exact HE2.out
    have d2 : decide (1099511627776 < now) = false := decide_eq_false h2
    have HBF : Hid (badX a b c now = false) := Lib.hid (by rw [HBE.out, decide_eq_true (show 0 ≤ now by omega), decide_eq_true (show now ≤ 1099511627776 by omega)]; rfl)
    clear h1 h2 HEND HRB HBE HPR
    go_upto_region 4 with fail
    refine wp_name fun W3 hW3 => ?_
    obtain ⟨C, hC⟩ : ∃ C, C = W2.heap.size := ⟨_, rfl⟩
    have hb3 : Below W2.heap.size W2 W3 := by rw [hW3.out]; exact (Below.refl _ _).alloc (Nat.le_refl _) _
    have hb13 : Below W1.heap.size W1 W3 := HB2.out.trans (hb3.mono HB2.out.size)
    have hbw : Below w.heap.size w W3 := HW1.out.1.trans (hb13.mono HW1.out.1.size)
    have H3 : Hid (SerSt w W3 B C p sp v vm vl a b c now (.pointer hp) sr 0 0 0 v vm vl s) := Lib.hid (by
      obtain ⟨-, e5, x0, x1, x2, x3, x4⟩ := HW1.out
      exact ⟨box_keep x0 hb13, box_keep x1 hb13, x2.keep hb13, box_keep x3 hb13, (hb13.block _ (lt_of_block x4)).trans x4, by rw [hW3.out, hC]; exact heap_alloc_new W2 _, HT.out.keep hbw, fun k hk => .inl hk, fun k hk => by rw [HBB.out]; exact HT.out.lt hk, HBB.out, by have := HB2.out.size; omega, only_beyond hbw⟩)
    rw [← hC]
    clear hW3 hC hb3 hb13 hbw n0 d1 d2 HN2 HR2 HB2 HW1
    go_wp2_with fail
    have HFN : Hid (∃ r0 m0 l0, r0 = s.raw.filter (fun q => !goX s m sr a b c now 0 q.a) ∧ m0 = s.mid.filter (fun x => !goX s m sr a b c now 1 x.at_) ∧ l0 = s.long.filter (fun x => !goX s m sr a b c now 2 x.at_)) := Lib.hid ⟨_, _, _, rfl, rfl, rfl⟩
    obtain ⟨r0, m0, l0, hr0, hm0, hl0⟩ := HFN.out
    clear HFN
    have HR0 := Lib.hid hr0
    have HM0 := Lib.hid hm0
    have HL0 := Lib.hid hl0
    clear hr0 hm0 hl0
    refine wp_loop_rounds 4 ?_
    -- tier 0
    rw [rounds_succ]
    go_upto_region 7 with fail
    refine wp_name fun X hX => ?_
    obtain ⟨Q, hQ⟩ : ∃ Q, Q = W3.heap.size := ⟨_, rfl⟩
    have hb : Below W3.heap.size W3 X := by rw [hX.out]; exact (Below.refl _ _).alloc (Nat.le_refl _) _
    have HQ0 : Hid (X.heap[Q]? = some (.cells #[.int .i64 0] 3 (0, 0))) := Lib.hid (by rw [hX.out, hQ]; exact heap_alloc_new W3 _)
    have HSZ : Hid (X.heap.size = Q + 1 ∧ C < Q) := Lib.hid ⟨by rw [hX.out, hQ]; simp, by rw [hQ]; exact lt_of_block H3.out.b5⟩
    have HX := Lib.hid (H3.out.keep hb)
    have HRO := Lib.hid (exrolled_any (t := 0) HX.out.sit (by omega))
    rw [← hQ]
    clear hX hQ hb H3
    have q0 := (cells1 HQ0.out).1
    go_wp2_with fail
    refine HRO.out.mono ?_
    rintro e Wx ⟨rfl, hw⟩; replace hw := hw.symm; subst hw
    dsimp only
    go_upto_region 8 with fail
    refine wp_name fun Y hY => ?_
    have hb : Below X.heap.size X Y := by rw [hY.out]; exact (Below.refl _ _).alloc (Nat.le_refl _) _
    have hq1 : Y.heap[Q + 1]? = some (.cells #[.int .i64 (uptoX s 0)] 2 (0, 0)) := by rw [hY.out, ← HSZ.out.1]; exact heap_alloc_new X _
    have hq0 : Y.heap[Q]? = some (.cells #[.int .i64 0] 3 (0, 0)) := box_keep HQ0.out hb
    have HY0 : Hid (SerSt w Y.drew B C p sp v vm vl a b c now (.pointer hp) sr 0 0 0 v vm vl s) := Lib.hid (HX.out.keep hb).drew
    have HC0 : Hid (Y.drew.cell? ⟨Q, 0, none⟩ = some (.int .i64 0)) := Lib.hid (cells1 hq0).1
    have hdr := tidrop_raw HY0.out.sit (exaskD (Q := Q) (t := 0) HY0.out HM.out HN.out (by omega) hq0 hq1 _)
    rw [show goX s m sr a b c now 0 = goX s m sr a b c now 0 from rfl] at hdr
    obtain ⟨N0, hN⟩ : ∃ N, N = ((s.raw.length - r0.length : Nat) : Int) := ⟨_, rfl⟩
    have HN0 := Lib.hid hN
    have hdr2 : Calls Tryz.prog 33 #[.pointer (some ⟨p, 0, none⟩), .int .i64 0, .func (.func 34) #[] #[.pointer (some ⟨Q + 1, 0, none⟩), .pointer (some ⟨B + 2, 0, none⟩), .pointer (some ⟨Q, 0, none⟩), .pointer (some ⟨B + 3, 0, none⟩), .pointer (some ⟨B + 1, 0, none⟩), .pointer (some ⟨B, 0, none⟩)]] Y.drew fun e w' => e = .returned (.int .i64 N0) ∧ Turned Y.drew w' p sp v vm vl ⟨r0, s.mid, s.long, s.mm, s.ml⟩ := by
      rw [hN, HR0.out]; exact hdr
    have HDR := Lib.hid hdr2
    have HQ2 : Hid (Y.drew.heap[Q]? = some (.cells #[.int .i64 0] 3 (0, 0))) := Lib.hid hq0
    rw [HSZ.out.1]
    clear hY hb hq0 hq1 hdr hdr2 hN q0 HRO HX HQ0
    go_region_held3 (fun w' => w'.cell? ⟨Q, 0, none⟩ = some (.int .i64 0)) (first | with_reducible exact HC0.out | with_reducible exact HC1.out | exact held_box HC1.out (Nat.ne_of_lt HSZ.out.2)) ((go_at_call 33; refine (HDR.out).mono ?_; clear HDR; rintro e Z ⟨rfl, ht⟩; obtain ⟨v1, vm1, vl1, hs⟩ := HY0.out.turn ht; have HZ := Lib.hid hs; have HC1 : Hid (Z.cell? ⟨Q, 0, none⟩ = some (.int .i64 0)) := Lib.hid (by obtain ⟨_, _, _, _, _, h3⟩ := ht; exact (World.cell?_of_block (a := ⟨Q, 0, none⟩) (h3.block Q (cell_lt HC0.out) (offQ HY0.out HSZ.out.2 HQ2.out))).trans HC0.out); obtain ⟨z0, z1, z2, f0, f1, f2⟩ := hs.cells; clear ht hs))
    generalize hW : World.setCell _ _ _ = W4
    have H4 : Hid (SerSt w W4 B C p sp v vm vl a b c now (.pointer hp) sr N0 0 0 v1 vm1 vl1 ⟨r0, s.mid, s.long, s.mm, s.ml⟩) := Lib.hid (HZ.out.set (i := 0) hW.symm rfl)
    clear HZ z0 z1 z2 f0 f1 f2 hW HC0 HC1 HY0 HSZ
    go_wp2_with fail
    -- tier 1
    rw [rounds_succ]
    go_upto_region 7 with fail
    refine wp_name fun X hX => ?_
    obtain ⟨Q, hQ⟩ : ∃ Q, Q = W4.heap.size := ⟨_, rfl⟩
    have hb : Below W4.heap.size W4 X := by rw [hX.out]; exact (Below.refl _ _).alloc (Nat.le_refl _) _
    have HQ0 : Hid (X.heap[Q]? = some (.cells #[.int .i64 1] 3 (0, 0))) := Lib.hid (by rw [hX.out, hQ]; exact heap_alloc_new W4 _)
    have HSZ : Hid (X.heap.size = Q + 1 ∧ C < Q) := Lib.hid ⟨by rw [hX.out, hQ]; simp, by rw [hQ]; exact lt_of_block H4.out.b5⟩
    have HX := Lib.hid (H4.out.keep hb)
    have HRO := Lib.hid (exrolled_any (t := 1) HX.out.sit (by omega))
    rw [← hQ]
    clear hX hQ hb H4
    have q0 := (cells1 HQ0.out).1
    go_wp2_with fail
    refine HRO.out.mono ?_
    rintro e Wx ⟨rfl, hw⟩; replace hw := hw.symm; subst hw
    dsimp only
    go_upto_region 8 with fail
    refine wp_name fun Y hY => ?_
    have hb : Below X.heap.size X Y := by rw [hY.out]; exact (Below.refl _ _).alloc (Nat.le_refl _) _
    have hq1 : Y.heap[Q + 1]? = some (.cells #[.int .i64 (uptoX ⟨r0, s.mid, s.long, s.mm, s.ml⟩ 1)] 2 (0, 0)) := by rw [hY.out, ← HSZ.out.1]; exact heap_alloc_new X _
    have hq0 : Y.heap[Q]? = some (.cells #[.int .i64 1] 3 (0, 0)) := box_keep HQ0.out hb
    have HY0 : Hid (SerSt w Y.drew B C p sp v vm vl a b c now (.pointer hp) sr N0 0 0 v1 vm1 vl1 ⟨r0, s.mid, s.long, s.mm, s.ml⟩) := Lib.hid (HX.out.keep hb).drew
    have HC0 : Hid (Y.drew.cell? ⟨Q, 0, none⟩ = some (.int .i64 1)) := Lib.hid (cells1 hq0).1
    have hdr := tidrop_mid HY0.out.sit (exaskD (Q := Q) (t := 1) HY0.out HM.out HN.out (by omega) hq0 hq1 _)
    rw [show goX ⟨r0, s.mid, s.long, s.mm, s.ml⟩ m sr a b c now 1 = goX s m sr a b c now 1 from rfl] at hdr
    obtain ⟨N1, hN⟩ : ∃ N, N = ((s.mid.length - m0.length : Nat) : Int) := ⟨_, rfl⟩
    have HN1 := Lib.hid hN
    have hdr2 : Calls Tryz.prog 33 #[.pointer (some ⟨p, 0, none⟩), .int .i64 1, .func (.func 34) #[] #[.pointer (some ⟨Q + 1, 0, none⟩), .pointer (some ⟨B + 2, 0, none⟩), .pointer (some ⟨Q, 0, none⟩), .pointer (some ⟨B + 3, 0, none⟩), .pointer (some ⟨B + 1, 0, none⟩), .pointer (some ⟨B, 0, none⟩)]] Y.drew fun e w' => e = .returned (.int .i64 N1) ∧ Turned Y.drew w' p sp v1 vm1 vl1 ⟨r0, m0, s.long, s.mm, s.ml⟩ := by
      rw [hN, HM0.out]; exact hdr
    have HDR := Lib.hid hdr2
    have HQ2 : Hid (Y.drew.heap[Q]? = some (.cells #[.int .i64 1] 3 (0, 0))) := Lib.hid hq0
    rw [HSZ.out.1]
    clear hY hb hq0 hq1 hdr hdr2 hN q0 HRO HX HQ0
    go_region_held3 (fun w' => w'.cell? ⟨Q, 0, none⟩ = some (.int .i64 1)) (first | with_reducible exact HC0.out | with_reducible exact HC1.out | exact held_box HC1.out (Nat.ne_of_lt HSZ.out.2)) ((go_at_call 33; refine (HDR.out).mono ?_; clear HDR; rintro e Z ⟨rfl, ht⟩; obtain ⟨v2, vm2, vl2, hs⟩ := HY0.out.turn ht; have HZ := Lib.hid hs; have HC1 : Hid (Z.cell? ⟨Q, 0, none⟩ = some (.int .i64 1)) := Lib.hid (by obtain ⟨_, _, _, _, _, h3⟩ := ht; exact (World.cell?_of_block (a := ⟨Q, 0, none⟩) (h3.block Q (cell_lt HC0.out) (offQ HY0.out HSZ.out.2 HQ2.out))).trans HC0.out); obtain ⟨z0, z1, z2, f0, f1, f2⟩ := hs.cells; clear ht hs))
    generalize hW : World.setCell _ _ _ = W5
    have H5 : Hid (SerSt w W5 B C p sp v vm vl a b c now (.pointer hp) sr N0 N1 0 v2 vm2 vl2 ⟨r0, m0, s.long, s.mm, s.ml⟩) := Lib.hid (HZ.out.set (i := 1) hW.symm rfl)
    clear HZ z0 z1 z2 f0 f1 f2 hW HC0 HC1 HY0 HSZ
    go_wp2_with fail
    -- tier 2
    rw [rounds_succ]
    go_upto_region 7 with fail
    refine wp_name fun X hX => ?_
    obtain ⟨Q, hQ⟩ : ∃ Q, Q = W5.heap.size := ⟨_, rfl⟩
    have hb : Below W5.heap.size W5 X := by rw [hX.out]; exact (Below.refl _ _).alloc (Nat.le_refl _) _
    have HQ0 : Hid (X.heap[Q]? = some (.cells #[.int .i64 2] 3 (0, 0))) := Lib.hid (by rw [hX.out, hQ]; exact heap_alloc_new W5 _)
    have HSZ : Hid (X.heap.size = Q + 1 ∧ C < Q) := Lib.hid ⟨by rw [hX.out, hQ]; simp, by rw [hQ]; exact lt_of_block H5.out.b5⟩
    have HX := Lib.hid (H5.out.keep hb)
    have HRO := Lib.hid (exrolled_any (t := 2) HX.out.sit (by omega))
    rw [← hQ]
    clear hX hQ hb H5
    have q0 := (cells1 HQ0.out).1
    go_wp2_with fail
    refine HRO.out.mono ?_
    rintro e Wx ⟨rfl, hw⟩; replace hw := hw.symm; subst hw
    dsimp only
    go_upto_region 8 with fail
    refine wp_name fun Y hY => ?_
    have hb : Below X.heap.size X Y := by rw [hY.out]; exact (Below.refl _ _).alloc (Nat.le_refl _) _
    have hq1 : Y.heap[Q + 1]? = some (.cells #[.int .i64 (uptoX ⟨r0, m0, s.long, s.mm, s.ml⟩ 2)] 2 (0, 0)) := by rw [hY.out, ← HSZ.out.1]; exact heap_alloc_new X _
    have hq0 : Y.heap[Q]? = some (.cells #[.int .i64 2] 3 (0, 0)) := box_keep HQ0.out hb
    have HY0 : Hid (SerSt w Y.drew B C p sp v vm vl a b c now (.pointer hp) sr N0 N1 0 v2 vm2 vl2 ⟨r0, m0, s.long, s.mm, s.ml⟩) := Lib.hid (HX.out.keep hb).drew
    have HC0 : Hid (Y.drew.cell? ⟨Q, 0, none⟩ = some (.int .i64 2)) := Lib.hid (cells1 hq0).1
    have hdr := tidrop_long HY0.out.sit (exaskD (Q := Q) (t := 2) HY0.out HM.out HN.out (by omega) hq0 hq1 _)
    rw [show goX ⟨r0, m0, s.long, s.mm, s.ml⟩ m sr a b c now 2 = goX s m sr a b c now 2 from rfl] at hdr
    obtain ⟨N2, hN⟩ : ∃ N, N = ((s.long.length - l0.length : Nat) : Int) := ⟨_, rfl⟩
    have HN2 := Lib.hid hN
    have hdr2 : Calls Tryz.prog 33 #[.pointer (some ⟨p, 0, none⟩), .int .i64 2, .func (.func 34) #[] #[.pointer (some ⟨Q + 1, 0, none⟩), .pointer (some ⟨B + 2, 0, none⟩), .pointer (some ⟨Q, 0, none⟩), .pointer (some ⟨B + 3, 0, none⟩), .pointer (some ⟨B + 1, 0, none⟩), .pointer (some ⟨B, 0, none⟩)]] Y.drew fun e w' => e = .returned (.int .i64 N2) ∧ Turned Y.drew w' p sp v2 vm2 vl2 ⟨r0, m0, l0, s.mm, s.ml⟩ := by
      rw [hN, HL0.out]; exact hdr
    have HDR := Lib.hid hdr2
    have HQ2 : Hid (Y.drew.heap[Q]? = some (.cells #[.int .i64 2] 3 (0, 0))) := Lib.hid hq0
    rw [HSZ.out.1]
    clear hY hb hq0 hq1 hdr hdr2 hN q0 HRO HX HQ0
    go_region_held3 (fun w' => w'.cell? ⟨Q, 0, none⟩ = some (.int .i64 2)) (first | with_reducible exact HC0.out | with_reducible exact HC1.out | exact held_box HC1.out (Nat.ne_of_lt HSZ.out.2)) ((go_at_call 33; refine (HDR.out).mono ?_; clear HDR; rintro e Z ⟨rfl, ht⟩; obtain ⟨v3, vm3, vl3, hs⟩ := HY0.out.turn ht; have HZ := Lib.hid hs; have HC1 : Hid (Z.cell? ⟨Q, 0, none⟩ = some (.int .i64 2)) := Lib.hid (by obtain ⟨_, _, _, _, _, h3⟩ := ht; exact (World.cell?_of_block (a := ⟨Q, 0, none⟩) (h3.block Q (cell_lt HC0.out) (offQ HY0.out HSZ.out.2 HQ2.out))).trans HC0.out); obtain ⟨z0, z1, z2, f0, f1, f2⟩ := hs.cells; clear ht hs))
    generalize hW : World.setCell _ _ _ = W6
    have H6 : Hid (SerSt w W6 B C p sp v vm vl a b c now (.pointer hp) sr N0 N1 N2 v3 vm3 vl3 ⟨r0, m0, l0, s.mm, s.ml⟩) := Lib.hid (HZ.out.set (i := 2) hW.symm rfl)
    clear HZ z0 z1 z2 f0 f1 f2 hW HC0 HC1 HY0 HSZ
    go_wp2_with fail
    rw [rounds_succ]
    obtain ⟨z0, z1, z2, f0, f1, f2⟩ := H6.out.cells
    obtain ⟨y0, y1, y2, g0, g1, g2⟩ := cells3 H6.out.b4
    have HSE : Hid (serX s m sr a b c now = ⟨r0, m0, l0, s.mm, s.ml⟩) := Lib.hid (by unfold serX; rw [HBF.out, if_neg (by simp), HR0.out, HM0.out, HL0.out]; rfl)
    have HWE : Hid (wentX s ⟨r0, m0, l0, s.mm, s.ml⟩ = .agg #[.int .i64 N0, .int .i64 N1, .int .i64 N2] ∧ errX a b c now = 0) := Lib.hid ⟨by unfold wentX; rw [HN0.out, HN1.out, HN2.out], by unfold errX; rw [HBF.out]; rfl⟩
    go_wp2_with fail
    refine bodyPost_ret (ret_cnt2 rfl rfl (setPol_at H6.out.b4 _ _ _)) rfl ?_
    refine ⟨by rw [HSE.out, HWE.out.1, HWE.out.2]; rfl, ?_⟩
    rw [HSE.out]
    have ho := setPol_only W6 (B + 4) (.int .i64 N0) (.int .i64 N1) (.int .i64 N2)
    have hlt := H6.out.lt
    refine ⟨v3, vm3, vl3, H6.out.sit.only ho (fun k hk e => H6.out.off (by omega) (by omega) hk), fun k hk => ?_, H6.out.only.trans ho fun i hi e => ?_⟩
    · rcases H6.out.blk k hk with h4 | h4
      · exact .inl h4
      · have := H6.out.at_; exact .inr (by omega)
    · have := H6.out.at_; omega
