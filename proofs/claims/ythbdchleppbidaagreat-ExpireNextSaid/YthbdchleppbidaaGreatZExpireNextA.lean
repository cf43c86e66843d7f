/- ExpireNext, over what packages tier and expire do. Written by py/ex-next.py. -/
import Derived.Test.YthbdchleppbidaaGreatMX
import Derived.Test.YthbdchleppbidaaGreatML
import Derived.Test.YthbdchleppbidaaGreatZPoRight
import Derived.Deep.RegionHeld3
import Derived.Deep.DeepCutAuto
namespace Go.Proofs.YthbdchleppbidaaGreat
open Go.RowKit

/-- a stock, a policy and a count of noughts -/
structure NxS (D : TierD) (w W : World) (p : Nat) (s : Stk) (P : Nat) (a b c : Int) (C : Nat) : Prop where
  one : OneS D w.heap.size W p s
  pol : PolAt W P a b c
  non : W.heap[C]? = some (.cells #[.int .i64 0, .int .i64 0, .int .i64 0] 35 (0, 0))
  bel : Below w.heap.size w W
theorem NxS.keep {D : TierD} {w W W' : World} {p : Nat} {s : Stk} {P : Nat} {a b c : Int} {C : Nat} (x : NxS D w W p s P a b c C) (hb : Below W.heap.size W W') : NxS D w W' p s P a b c C :=
  ⟨x.one.keep hb, x.pol.keep hb, (hb.block _ (lt_of_block x.non)).trans x.non, x.bel.trans (hb.mono x.bel.size)⟩
theorem NxS.drew {D : TierD} {w W : World} {p : Nat} {s : Stk} {P : Nat} {a b c : Int} {C : Nat} (x : NxS D w W p s P a b c C) : NxS D w W.drew p s P a b c C := x.keep ((Below.refl _ W).drew)
/-- few -/
structure LenX (m n : Nat) : Prop where
  l1 : m ≤ 256
  l2 : n ≤ 256
/-- its cells, as they are read -/
structure NxC (W : World) (P : Nat) (a b c : Int) (C : Nat) : Prop where
  p0 : W.cell? ⟨P, 0, none⟩ = some (.int .i64 a)
  p1 : W.cell? ⟨P, 1, none⟩ = some (.int .i64 b)
  p2 : W.cell? ⟨P, 2, none⟩ = some (.int .i64 c)
  n0 : W.cell? ⟨C, 0, none⟩ = some (.int .i64 0)
  n1 : W.cell? ⟨C, 1, none⟩ = some (.int .i64 0)
  n2 : W.cell? ⟨C, 2, none⟩ = some (.int .i64 0)
theorem NxS.cells {D : TierD} {w W : World} {p : Nat} {s : Stk} {P : Nat} {a b c : Int} {C : Nat} (x : NxS D w W p s P a b c C) :
    W.cell? ⟨P, 0, none⟩ = some (.int .i64 a) ∧ W.cell? ⟨P, 1, none⟩ = some (.int .i64 b) ∧ W.cell? ⟨P, 2, none⟩ = some (.int .i64 c) ∧ W.cell? ⟨C, 0, none⟩ = some (.int .i64 0) ∧ W.cell? ⟨C, 1, none⟩ = some (.int .i64 0) ∧ W.cell? ⟨C, 2, none⟩ = some (.int .i64 0) :=
  ⟨x.pol.cells.1, x.pol.cells.2.1, x.pol.cells.2.2.1, (cells3 x.non).1, (cells3 x.non).2.1, (cells3 x.non).2.2.1⟩
set_option maxHeartbeats 32000000 in
set_option maxRecDepth 1000000 in
theorem expireNext_over {D : TierD} (M : TierM D) (X : ExD D) (NX : ∀ {w : World} {p : Nat} {s : Stk} {a b c : Int}, D.sit w p s → I64 a → I64 b → I64 c → Calls Tryz.prog 23 #[.pointer (some ⟨p, 0, none⟩), .agg #[.int .i64 a, .int .i64 b, .int .i64 c]] w fun e w' => e = .returned (.tuple #[.int .i64 (minL (nextL s a b c)), .bool (!(nextL s a b c).isEmpty)]) ∧ Below w.heap.size w w')
    {w : World} {v0 : Value} {L : List TActL} {a b c : Int} (hv : TActsAt w v0 L) (hin : ∀ x ∈ L, x.In) (hm : L.length ≤ maxLen)
    (pa : -9223372036854775808 ≤ a ∧ a ≤ 9223372036854775807) (pb : -9223372036854775808 ≤ b ∧ b ≤ 9223372036854775807) (pc : -9223372036854775808 ≤ c ∧ c ≤ 9223372036854775807) :
    Calls Tryz.prog 5 #[v0, .agg #[.int .i64 a, .int .i64 b, .int .i64 c]] w fun e w' => e = .returned (.bool true) ∧ Below w.heap.size w w' := by
  have HV0 := Lib.hid hv
  have HIN := Lib.hid hin
  have HPB : Hid (I64 a ∧ I64 b ∧ I64 c) := Lib.hid ⟨pa, pb, pc⟩
  have HLN : Hid (L.length ≤ 9223372036854775807) := Lib.hid (by unfold maxLen at hm; omega)
  clear hv hin hm pa pb pc
  have HLI : Hid (∀ W, Calls Tryz.prog 6 #[] W fun e w' => e = .returned (.bool true) ∧ Below W.heap.size W w') := Lib.hid fun W => exlives_any M X W
  have HF0 : Hid (∀ W, Below w.heap.size w W → Calls Tryz.prog 7 #[v0, .int .i64 30] W fun e w' => e = .returned (.bool (fewT L 30)) ∧ Below W.heap.size W w') := Lib.hid fun W hb => few_any (HV0.out.keep hb) HLN.out 30
  have HRT : Hid (∀ W, Calls Tryz.prog 14 #[.agg #[.int .i64 a, .int .i64 b, .int .i64 c]] W fun e w' => e = .returned (.bool (rightP a b c)) ∧ Below W.heap.size W w') := Lib.hid fun W => lpright_any W a b c
  obtain ⟨f0, hf0⟩ : ∃ f0, f0 = fewT L 30 := ⟨_, rfl⟩
  obtain ⟨RT, hRT⟩ : ∃ x, x = rightP a b c := ⟨_, rfl⟩
  rw [← hf0] at HF0
  rw [← hRT] at HRT
  have HFE := Lib.hid hf0
  have HRE := Lib.hid hRT
  clear hf0 hRT
  go_enter Tryz.func5, Tryz.ntmps5
  go_upto_region 1 with fail
  refine wp_name fun W1 hW1 => ?_
  obtain ⟨P, hP⟩ : ∃ P, P = w.heap.size := ⟨_, rfl⟩
  have HP1 : Hid (PolAt W1 P a b c) := Lib.hid (by rw [hW1.out, hP]; exact PolAt.new w a b c)
  have HB1 : Hid (Below w.heap.size w W1) := Lib.hid (by rw [hW1.out]; exact (Below.refl _ _).alloc (Nat.le_refl _) _)
  rw [← hP]
  clear hW1 hP
  go_wp2_with fail
  refine (HLI.out W1).mono ?_
  rintro e W2 ⟨rfl, hb⟩
  have HP2 := Lib.hid (HP1.out.keep hb)
  have HB2 := Lib.hid (HB1.out.trans (hb.mono HB1.out.size))
  clear hb HP1 HB1
  dsimp only
  go_wp2_with fail
  refine (HF0.out W2 HB2.out).mono ?_
  rintro e W3 ⟨rfl, hb⟩
  have HP3 := Lib.hid (HP2.out.keep hb)
  have HB3 := Lib.hid (HB2.out.trans (hb.mono HB2.out.size))
  clear hb HP2 HB2 HF0
  dsimp only
  cases f0 with
  | false =>
    go_wp2_with fail
    refine (HLI.out W3).mono ?_
    rintro e W4 ⟨rfl, hb⟩
    have HB4 := Lib.hid (HB3.out.trans (hb.mono HB3.out.size))
    clear hb
    dsimp only
    go_wp2
    go_ret
    exact ⟨rfl, HB4.out⟩
  | true =>
  obtain ⟨c0, c1, c2, -, -, -⟩ := HP3.out.cells
  go_wp2_with fail
  refine (HRT.out W3).mono ?_
  rintro e W4 ⟨rfl, hb⟩
  have HP4 := Lib.hid (HP3.out.keep hb)
  have HB4 := Lib.hid (HB3.out.trans (hb.mono HB3.out.size))
  clear hb HP3 HB3 HRT c0 c1 c2
  dsimp only
  cases RT with
  | false =>
    go_wp2_with fail
    refine (HLI.out W4).mono ?_
    rintro e W5 ⟨rfl, hb⟩
    have HB5 := Lib.hid (HB4.out.trans (hb.mono HB4.out.size))
    clear hb
    dsimp only
    go_wp2
    go_ret
    exact ⟨rfl, HB5.out⟩
  | true =>
  have HPL : Hid (∀ W, Below w.heap.size w W → Calls Tryz.prog 9 #[v0] W fun e w' => ∃ p, e = .returned (.pointer (some ⟨p, 0, none⟩)) ∧ OneS D W.heap.size w' p (playT L) ∧ Below W.heap.size W w') := Lib.hid fun W hb => explay_any D (HV0.out.keep hb) HIN.out (fewT_of HFE.out).1 (by have := (fewT_of HFE.out).2; omega)
  go_wp2_with fail
  refine (HPL.out W4 HB4.out).mono ?_
  rintro e W5 ⟨p, rfl, h1, hb⟩
  obtain ⟨s, hs⟩ : ∃ s, s = playT L := ⟨_, rfl⟩
  rw [← hs] at h1
  have HS5 : Hid (OneS D w.heap.size W5 p s) := Lib.hid ⟨h1.sit, fun k hk => Nat.le_trans HB4.out.size (h1.base k hk)⟩
  have HP5 := Lib.hid (HP4.out.keep hb)
  have HB5 := Lib.hid (HB4.out.trans (hb.mono HB4.out.size))
  have HGD := Lib.hid (D.good h1.sit)
  clear h1 hb hs HPL HP4 HB4
  dsimp only
  have HNX := Lib.hid (NX HS5.out.sit HPB.out.1 HPB.out.2.1 HPB.out.2.2)
  obtain ⟨NL, hNL⟩ : ∃ l, l = nextL s a b c := ⟨_, rfl⟩
  rw [← hNL] at HNX
  have HNL := Lib.hid hNL
  clear hNL
  obtain ⟨AT, hAT⟩ : ∃ x, x = minL NL := ⟨_, rfl⟩
  obtain ⟨SOME, hSOME⟩ : ∃ x, x = !NL.isEmpty := ⟨_, rfl⟩
  rw [← hAT, ← hSOME] at HNX
  have HAT := Lib.hid hAT
  have HSOME := Lib.hid hSOME
  clear hAT hSOME
  obtain ⟨c0, c1, c2, -, -, -⟩ := HP5.out.cells
  go_wp2_with fail
  refine HNX.out.mono ?_
  rintro e W6 ⟨rfl, hb⟩
  have HS6 := Lib.hid (HS5.out.keep hb)
  have HP6 := Lib.hid (HP5.out.keep hb)
  have HB6 := Lib.hid (HB5.out.trans (hb.mono HB5.out.size))
  clear hb HS5 HP5 HB5 HNX c0 c1 c2
  dsimp only
  go_upto_region 6 with fail
  refine wp_name fun W7 hW7 => ?_
  obtain ⟨C, hC⟩ : ∃ C, C = W6.heap.size := ⟨_, rfl⟩
  have hb7 : Below W6.heap.size W6 W7 := by rw [hW7.out]; exact (Below.refl _ _).alloc (Nat.le_refl _) _
  have H7 : Hid (NxS D w W7 p s P a b c C) := Lib.hid ⟨HS6.out.keep hb7, HP6.out.keep hb7, by rw [hW7.out, hC]; exact heap_alloc_new W6 _, HB6.out.trans (hb7.mono HB6.out.size)⟩
  rw [← hC]
  clear hW7 hC hb7 HS6 HP6 HB6
  obtain ⟨c0, c1, c2, -, -, -⟩ := H7.out.cells
  have HNO := Lib.hid (X.series_none W7 ⟨#[97]⟩ a b c 5 (by decide))
  go_wp2_with fail
  refine HNO.out.mono ?_
  rintro e W8 ⟨rfl, hb⟩
  have H8 := Lib.hid (H7.out.keep hb)
  clear hb H7 HNO c0 c1 c2
  dsimp only
  have HDU : Hid (∀ V now, NxS D w V p s P a b c C → I64 now → Calls Tryz.prog 12 #[.pointer (some ⟨p, 0, none⟩), .string ⟨#[97]⟩, .pointer none, .agg #[.int .i64 a, .int .i64 b, .int .i64 c], .int .i64 now] V fun e w' => e = .returned (wentX s (serX s [] ⟨#[97]⟩ a b c now)) ∧ Below V.heap.size V w') := Lib.hid fun V now hV hn => X.due hV.one.sit (.inl ⟨rfl, rfl⟩) ⟨HPB.out.1, HPB.out.2.1, HPB.out.2.2, hn⟩ (by decide)
  have HST : Hid (∀ V now, NxS D w V p s P a b c C → I64 now → now ≤ 1099511627776 → (∀ y ∈ NL, now < y) → Calls Tryz.prog 12 #[.pointer (some ⟨p, 0, none⟩), .string ⟨#[97]⟩, .pointer none, .agg #[.int .i64 a, .int .i64 b, .int .i64 c], .int .i64 now] V fun e w' => e = .returned (.agg #[.int .i64 0, .int .i64 0, .int .i64 0]) ∧ Below V.heap.size V w') := Lib.hid fun V now hV hn h1 h2 => by
    have h := HDU.out V now hV hn
    rw [HNL.out] at h2
    rwa [ser_still HGD.out h1 h2, went_same] at h
  have hq0 : ∀ V, (Op.equalIn 10000 35 (.agg #[.int .i64 0, .int .i64 0, .int .i64 0]) (.agg #[.int .i64 0, .int .i64 0, .int .i64 0])).run Tryz.prog V = .ok true V := fun V => cnt_eq 0 0 0 0 0 0 V
  have hb9 : Below W8.heap.size W8 (W8.alloc (.cells #[.int .i64 0, .int .i64 0, .int .i64 0] 35)) := (Below.refl _ _).alloc (Nat.le_refl _) _
  go_upto_region 8 with fail
  refine wp_name fun W9 hW9 => ?_
  have H9 : Hid (NxS D w W9 p s P a b c C) := Lib.hid (by rw [hW9.out]; exact H8.out.keep hb9)
  clear hW9 hb9 H8
  cases SOME with
  | false =>
    have HE : Hid (NL = []) := Lib.hid (by
      have h := HSOME.out
      cases NL with
      | nil => rfl
      | cons z r => cases h)
    have ha : AT = 0 := by rw [HAT.out, HE.out]; rfl
    subst ha
    go_upto_region 11 with fail
    have Z0 := Lib.hid H9.out.drew
    have HC0 := Lib.hid Z0.out.cells
    have HDX := Lib.hid (HST.out _ 1099511627776 Z0.out (by unfold I64; omega) (by omega) (by rw [HE.out]; intro y hy; cases hy))
    clear H9 HDU HST
    go_region_held3 (fun w' => w'.cell? ⟨P, 0, none⟩ = some (.int .i64 a) ∧ w'.cell? ⟨P, 1, none⟩ = some (.int .i64 b) ∧ w'.cell? ⟨P, 2, none⟩ = some (.int .i64 c) ∧ w'.cell? ⟨C, 0, none⟩ = some (.int .i64 0) ∧ w'.cell? ⟨C, 1, none⟩ = some (.int .i64 0) ∧ w'.cell? ⟨C, 2, none⟩ = some (.int .i64 0)) (first | with_reducible exact HC0.out | with_reducible exact HC1.out) ((go_at_call 12; refine (HDX.out).mono ?_; rintro e V1 ⟨rfl, hb⟩; have Z1 := Lib.hid (Z0.out.keep hb); have HC1 := Lib.hid Z1.out.cells; clear hb))
    go_wp2_with fail
    go_ret
    exact ⟨rfl, Z1.out.bel⟩
  | true =>
  have HNE : Hid (NL ≠ []) := Lib.hid (by
    intro h
    have h2 := HSOME.out
    rw [h] at h2
    cases h2)
  by_cases hbig : 1099511627776 < AT
  · have d1 : decide (1099511627776 < AT) = true := decide_eq_true hbig
    clear hbig
    go_wp2_with fail
    go_ret
    exact ⟨rfl, H9.out.bel⟩
  have d1 : decide (1099511627776 < AT) = false := decide_eq_false hbig
  have HAB : Hid (AT ≤ 1099511627776) := Lib.hid (by omega)
  have HA0 : Hid (0 ≤ AT) := Lib.hid (by
    have h := minL_mem HNE.out
    rw [← HAT.out, HNL.out] at h
    have hr := polRight_of HRE.out.symm
    rcases mem_next.1 h with h1 | h1 | h1
    all_goals
      obtain ⟨x, -, hn, hy⟩ := tick_some h1
      have e0 := end_posX 0 x
      have e1 := end_posX 1 x
      have e2 := end_posX 2 x
      omega)
  clear hbig
  go_upto_region 14 with fail
  have HR14 : Hid (NxS D w W9.drew p s P a b c C) := Lib.hid H9.out.drew
  clear d1
  by_cases hz : 0 < AT
  · have d2 : decide (0 < AT) = true := decide_eq_true hz
    have hw : IntKind.i64.wrap (AT - 1) = AT - 1 := by have := HAB.out; rw [IntKind.wrap_i64]; omega
    have HDX := Lib.hid (HST.out _ (AT - 1) HR14.out (by have := HAB.out; unfold I64; omega) (by have := HAB.out; omega) (fun y hy => by have h := minL_le hy; rw [← HAT.out] at h; omega))
    have HC0 := Lib.hid HR14.out.cells
    clear hz
    go_region_held3 (fun w' => w'.cell? ⟨P, 0, none⟩ = some (.int .i64 a) ∧ w'.cell? ⟨P, 1, none⟩ = some (.int .i64 b) ∧ w'.cell? ⟨P, 2, none⟩ = some (.int .i64 c) ∧ w'.cell? ⟨C, 0, none⟩ = some (.int .i64 0) ∧ w'.cell? ⟨C, 1, none⟩ = some (.int .i64 0) ∧ w'.cell? ⟨C, 2, none⟩ = some (.int .i64 0)) (first | with_reducible exact HC0.out | with_reducible exact HC1.out) ((go_at_call 12; refine (HDX.out).mono ?_; rintro e V1 ⟨rfl, hb⟩; have Z1 := Lib.hid (HR14.out.keep hb); have HC1 := Lib.hid Z1.out.cells; clear hb))
    have HZ := Z1
    clear Z1 HR14 HC0 HC1 HDX HST d2 hw H9
    go_upto_region 16 with fail
    have HW := Lib.hid (HDU.out _ AT HZ.out (by have := HA0.out; have := HAB.out; unfold I64; omega))
    obtain ⟨e0, e1, e2, he⟩ : ∃ x y z : Int, wentX s (serX s [] ⟨#[97]⟩ a b c AT) = .agg #[.int .i64 x, .int .i64 y, .int .i64 z] := ⟨_, _, _, rfl⟩
    rw [he] at HW
    have HGO := Lib.hid (next_goes (sr := ⟨#[97]⟩) HGD.out (polRight_of HRE.out.symm) (by rw [← HNL.out]; exact HNE.out) (by rw [← HNL.out, ← HAT.out]; exact HAB.out) (by rw [← HNL.out, ← HAT.out]; exact he))
    obtain ⟨E, hE⟩ : ∃ E, E = (e0 == 0 && (e1 == 0 && e2 == 0)) := ⟨_, rfl⟩
    rw [← hE] at HGO
    have hq : ∀ V, (Op.equalIn 10000 35 (.agg #[.int .i64 e0, .int .i64 e1, .int .i64 e2]) (.agg #[.int .i64 0, .int .i64 0, .int .i64 0])).run Tryz.prog V = .ok E V := fun V => by rw [hE]; exact cnt_eq e0 e1 e2 0 0 0 V
    clear he hE hq0
    obtain ⟨p0, p1, p2, -, -, -⟩ := HZ.out.cells
    go_wp2_with fail
    refine HW.out.mono ?_
    rintro e Y1 ⟨rfl, hb⟩
    have HY1 := Lib.hid (HZ.out.keep hb)
    clear hb HZ HW p0 p1 p2
    dsimp only
    go_upto_region 17 with fail
    refine wp_name fun Y2 hY => ?_
    obtain ⟨F, hF⟩ : ∃ F, F = Y1.heap.size := ⟨_, rfl⟩
    have hb : Below Y1.heap.size Y1 Y2 := by rw [hY.out]; exact (Below.refl _ _).alloc (Nat.le_refl _) _
    have hf : Y2.heap[F]? = some (.cells #[.int .i64 e0, .int .i64 e1, .int .i64 e2] 35 (0, 0)) := by rw [hY.out, hF]; exact heap_alloc_new Y1 _
    have HY2 := Lib.hid (HY1.out.keep hb)
    rw [← hF]
    clear hY hF hb HY1
    obtain ⟨g0, g1, g2, -, -, -⟩ := cells3 hf
    obtain ⟨p0, p1, p2, n0, n1, n2⟩ := HY2.out.cells
    clear hf
    have HPT : Hid (∀ V, D.sit V p s → Calls Tryz.prog 16 #[.pointer (some ⟨p, 0, none⟩), .agg #[.int .i64 0, .int .i64 1099511627777]] V fun e w' => ∃ v', e = .returned v' ∧ PtRowB V.heap.size w' v' (getL s.raw 0 1099511627777) ∧ Below V.heap.size V w') := Lib.hid fun V hV => D.points hV (by omega) (by omega) (by omega) (by omega)
    have HAG : Hid (∀ V, D.sit V p s → Calls Tryz.prog 20 #[.pointer (some ⟨p, 0, none⟩), .int .i64 1, .agg #[.int .i64 0, .int .i64 1099511627777]] V fun e w' => ∃ v', e = .returned v' ∧ AgRow V.heap.size w' v' (aggsT s 1 0 1099511627777) ∧ Below V.heap.size V w') := Lib.hid fun V hV => D.aggs hV (by omega) (by omega) (by omega) (by omega) (by omega) (by omega)
    have HLL : Hid (LenX (getL s.raw 0 1099511627777).length (aggsT s 1 0 1099511627777).length) := Lib.hid ⟨(rows_len HGD.out _ _).1, (rows_len HGD.out _ _).2.1⟩
    obtain ⟨LP, hLP⟩ : ∃ l, l = getL s.raw 0 1099511627777 := ⟨_, rfl⟩
    obtain ⟨LM, hLM⟩ : ∃ l, l = aggsT s 1 0 1099511627777 := ⟨_, rfl⟩
    rw [← hLP] at HPT HGO HLL
    rw [← hLM] at HAG HGO HLL
    clear hLP hLM
    go_wp2_with fail
    refine (HPT.out _ HY2.out.one.sit).mono ?_
    rintro e Y3 ⟨vp, rfl, hr, hb⟩
    have HX1 := Lib.hid (HY2.out.keep hb)
    obtain ⟨ua, ub, uo, uc, rfl, huadr, hupts⟩ := hr.plies
    have HW1 : Hid (PLies Y3 (.slice ua LP.length uc) LP) := Lib.hid ⟨ua, ub, uo, uc, rfl, huadr, hupts⟩
    obtain ⟨G1, hG1⟩ : ∃ G1, G1 = !E := ⟨_, rfl⟩
    have HG1 := Lib.hid hG1
    try rw [← hG1]
    have hlp := HLL.out.l1
    clear hr hb huadr hupts g0 g1 g2 p0 p1 p2 n0 n1 n2 HY2 HPT hq hG1
    dsimp only
    go_wp2_with fail
    go_loopw [13, 83] (fun g x wr => ∃ (k : Nat) (gb : Bool), k ≤ LP.length ∧ x = .int .i64 k ∧ g = .bool gb ∧ gb = (G1 || (LP.take k).any (fun q => decide (s.mm ≤ q.a))) ∧ NxS D w wr p s P a b c C ∧ PLies wr (.slice ua LP.length uc) LP) (fun _ x _ => LP.length - (intOf x).toNat)
    case atStart => exact ⟨0, G1, Nat.zero_le _, rfl, rfl, (by simp), HX1.out, HW1.out⟩
    case round =>
      obtain ⟨k, gb, hk, rfl, rfl, hg, hx, hl⟩ := hrel
      obtain ⟨V1, hV⟩ : ∃ V, V = wr := ⟨_, rfl⟩
      subst hV
      have HG := Lib.hid hg
      have HX := Lib.hid hx
      have HL := Lib.hid hl
      clear hg hx hl HX1 HW1
      by_cases hlt : k < LP.length
      · obtain ⟨ad, bb, off, cap, e1, hadr, hpts⟩ := HL.out
        injection e1 with e1 e2 e3
        have ea := hadr (by intro h0; simp [h0] at hlt)
        rw [← e1] at ea
        subst ea
        obtain ⟨t, ht⟩ : ∃ t, LP[k]? = some t := ⟨LP[k], List.getElem?_eq_getElem hlt⟩
        obtain ⟨x0, x1⟩ := hpts k t ht
        have HTK : Hid ((LP.take (k + 1)).any (fun q => decide (s.mm ≤ q.a)) = ((LP.take k).any (fun q => decide (s.mm ≤ q.a)) || decide (s.mm ≤ t.a))) := Lib.hid (by rw [take_snoc ht, List.any_append]; simp)
        have hmax : k < 9223372036854775807 := by have := HLL.out.l1; omega
        clear ht hadr hpts e1 e2 e3
        go_upto_region 21 with fail
        refine wp_name fun U hU => ?_
        obtain ⟨Q, hQ⟩ : ∃ Q, Q = V1.heap.size := ⟨_, rfl⟩
        have hb : Below V1.heap.size V1 U := by rw [hU.out]; exact (Below.refl _ _).alloc (Nat.le_refl _) _
        have HQ : Hid (U.cell? ⟨Q, 0, none⟩ = some (.int .i64 t.a)) := Lib.hid (by
          have h : U.heap[Q]? = some (.cells #[.int .i64 t.a, .int .i64 t.v] 47 (0, 0)) := by rw [hU.out, hQ]; exact heap_alloc_new V1 _
          simp [World.cell?, h])
        have HXU := Lib.hid (HX.out.keep hb)
        have HLU := Lib.hid (HL.out.beyond hb)
        rw [← hQ]
        clear hU hQ hb HX HL x0 x1
        cases gb with
        | true =>
          have HG2 : Hid (true = (G1 || (LP.take (k + 1)).any (fun q => decide (s.mm ≤ q.a)))) := Lib.hid (by rw [HTK.out, ← Bool.or_assoc, ← HG.out]; rfl)
          go_quiet (fail)
          go_wp2
          go_roundw
          case rel => exact ⟨k + 1, true, by omega, by go_num, rfl, HG2.out, HXU.out.keep (below_drewN (Below.refl _ U) _), HLU.out.beyond (below_drewN (Below.refl _ U) _)⟩
          case measure => simp [intOf]; omega
        | false =>
          have HG2 : Hid (decide (s.mm ≤ t.a) = (G1 || (LP.take (k + 1)).any (fun q => decide (s.mm ≤ q.a)))) := Lib.hid (by rw [HTK.out, ← Bool.or_assoc, ← HG.out]; rfl)
          have HXD := Lib.hid HXU.out.drew
          have HLD := Lib.hid (HLU.out.beyond ((Below.refl _ U).drew))
          have HCD : Hid (U.drew.cell? ⟨Q, 0, none⟩ = some (.int .i64 t.a)) := Lib.hid HQ.out
          have HMK : Hid (Calls Tryz.prog 18 #[.pointer (some ⟨p, 0, none⟩), .int .i64 1] U.drew fun e w' => e = .returned (.int .i64 s.mm) ∧ Below U.drew.heap.size U.drew w') := Lib.hid (D.mark (t := 1) HXD.out.one.sit (by omega) (by omega))
          clear HXU HLU HQ
          go_region_held3 (fun w' => w'.cell? ⟨Q, 0, none⟩ = some (.int .i64 t.a)) (first | with_reducible exact HCD.out | with_reducible exact HCE.out) ((go_at_call 18; refine (HMK.out).mono ?_; rintro e U2 ⟨rfl, hb⟩; have HXE := Lib.hid (HXD.out.keep hb); have HLE := Lib.hid (HLD.out.beyond hb); have HCE : Hid (U2.cell? ⟨Q, 0, none⟩ = some (.int .i64 t.a)) := Lib.hid ((hb.cell (p := ⟨Q, 0, none⟩) (cell_lt HCD.out)).trans HCD.out); clear hb))
          go_wp2
          go_roundw
          case rel => exact ⟨k + 1, _, by omega, by go_num, rfl, HG2.out, HXE.out, HLE.out⟩
          case measure => simp [intOf]; omega
      · have HE : Hid (gb = (G1 || LP.any (fun q => decide (s.mm ≤ q.a)))) := Lib.hid (by rw [HG.out, List.take_of_length_le (by omega)])
        clear HG
        go_wp2_with fail
        refine (HAG.out _ HX.out.one.sit).mono ?_
        rintro e Y4 ⟨vm, rfl, hr, hb⟩
        have HX2 := Lib.hid (HX.out.keep hb)
        obtain ⟨va, vb, vo, vc, rfl, hvadr, hvpts⟩ := AgRow.lies hr
        have HW2 : Hid (ALies Y4 (.slice va LM.length vc) LM) := Lib.hid ⟨va, vb, vo, vc, rfl, hvadr, hvpts⟩
        obtain ⟨G2, hG2⟩ : ∃ G2, G2 = gb := ⟨_, rfl⟩
        subst hG2
        have HG2 := Lib.hid HE.out
        have hlm := HLL.out.l2
        clear hr hb hvadr hvpts HX HL HE HAG hlt hk
        dsimp only
        go_wp2_with fail
        go_loopw [13, 100] (fun g x wr => ∃ (k : Nat) (gb : Bool), k ≤ LM.length ∧ x = .int .i64 k ∧ g = .bool gb ∧ gb = (G2 || (LM.take k).any (fun q => decide (s.ml ≤ q.at_))) ∧ NxS D w wr p s P a b c C ∧ ALies wr (.slice va LM.length vc) LM) (fun _ x _ => LM.length - (intOf x).toNat)
        case atStart => exact ⟨0, G2, Nat.zero_le _, rfl, rfl, (by simp), HX2.out, HW2.out⟩
        case round =>
          obtain ⟨k, gb, hk, rfl, rfl, hg, hx, hl⟩ := hrel
          obtain ⟨V2, hV⟩ : ∃ V, V = wr := ⟨_, rfl⟩
          subst hV
          have HG := Lib.hid hg
          have HX := Lib.hid hx
          have HL := Lib.hid hl
          clear hg hx hl HX2 HW2
          by_cases hlt : k < LM.length
          · obtain ⟨ad, bb, off, cap, e1, hadr, hpts⟩ := HL.out
            injection e1 with e1 e2 e3
            have ea := hadr (by intro h0; simp [h0] at hlt)
            rw [← e1] at ea
            subst ea
            obtain ⟨t, ht⟩ : ∃ t, LM[k]? = some t := ⟨LM[k], List.getElem?_eq_getElem hlt⟩
            obtain ⟨x0, x1, x2, x3, x4⟩ := hpts k t ht
            have HTK : Hid ((LM.take (k + 1)).any (fun q => decide (s.ml ≤ q.at_)) = ((LM.take k).any (fun q => decide (s.ml ≤ q.at_)) || decide (s.ml ≤ t.at_))) := Lib.hid (by rw [take_snoc ht, List.any_append]; simp)
            have hmax : k < 9223372036854775807 := by have := HLL.out.l2; omega
            clear ht hadr hpts e1 e2 e3
            go_upto_region 26 with fail
            refine wp_name fun U hU => ?_
            obtain ⟨Q, hQ⟩ : ∃ Q, Q = V2.heap.size := ⟨_, rfl⟩
            have hb : Below V2.heap.size V2 U := by rw [hU.out]; exact (Below.refl _ _).alloc (Nat.le_refl _) _
            have HQ : Hid (U.cell? ⟨Q, 0, none⟩ = some (.int .i64 t.at_)) := Lib.hid (by
              have h : U.heap[Q]? = some (.cells #[.int .i64 t.at_, .int .i64 t.n, .int .i64 t.s, .int .i64 t.lo, .int .i64 t.hi] 55 (0, 0)) := by rw [hU.out, hQ]; exact heap_alloc_new V2 _
              simp [World.cell?, h])
            have HXU := Lib.hid (HX.out.keep hb)
            have HLU := Lib.hid (HL.out.beyond hb)
            rw [← hQ]
            clear hU hQ hb HX HL x0 x1 x2 x3 x4
            cases gb with
            | true =>
              have HG2 : Hid (true = (G2 || (LM.take (k + 1)).any (fun q => decide (s.ml ≤ q.at_)))) := Lib.hid (by rw [HTK.out, ← Bool.or_assoc, ← HG.out]; rfl)
              go_quiet (fail)
              go_wp2
              go_roundw
              case rel => exact ⟨k + 1, true, by omega, by go_num, rfl, HG2.out, HXU.out.keep (below_drewN (Below.refl _ U) _), HLU.out.beyond (below_drewN (Below.refl _ U) _)⟩
              case measure => simp [intOf]; omega
            | false =>
              have HG2 : Hid (decide (s.ml ≤ t.at_) = (G2 || (LM.take (k + 1)).any (fun q => decide (s.ml ≤ q.at_)))) := Lib.hid (by rw [HTK.out, ← Bool.or_assoc, ← HG.out]; rfl)
              have HXD := Lib.hid HXU.out.drew
              have HLD := Lib.hid (HLU.out.beyond ((Below.refl _ U).drew))
              have HCD : Hid (U.drew.cell? ⟨Q, 0, none⟩ = some (.int .i64 t.at_)) := Lib.hid HQ.out
              have HMK : Hid (Calls Tryz.prog 18 #[.pointer (some ⟨p, 0, none⟩), .int .i64 2] U.drew fun e w' => e = .returned (.int .i64 s.ml) ∧ Below U.drew.heap.size U.drew w') := Lib.hid (D.mark (t := 2) HXD.out.one.sit (by omega) (by omega))
              clear HXU HLU HQ
              go_region_held3 (fun w' => w'.cell? ⟨Q, 0, none⟩ = some (.int .i64 t.at_)) (first | with_reducible exact HCD.out | with_reducible exact HCE.out) ((go_at_call 18; refine (HMK.out).mono ?_; rintro e U2 ⟨rfl, hb⟩; have HXE := Lib.hid (HXD.out.keep hb); have HLE := Lib.hid (HLD.out.beyond hb); have HCE : Hid (U2.cell? ⟨Q, 0, none⟩ = some (.int .i64 t.at_)) := Lib.hid ((hb.cell (p := ⟨Q, 0, none⟩) (cell_lt HCD.out)).trans HCD.out); clear hb))
              go_wp2
              go_roundw
              case rel => exact ⟨k + 1, _, by omega, by go_num, rfl, HG2.out, HXE.out, HLE.out⟩
              case measure => simp [intOf]; omega
          · have HE : Hid (gb = (G2 || LM.any (fun q => decide (s.ml ≤ q.at_)))) := Lib.hid (by rw [HG.out, List.take_of_length_le (by omega)])
            clear HG
            have HT : Hid (gb = true) := Lib.hid (by
              rw [HE.out, HG2.out, HG1.out]
              rcases HGO.out with h | h | h
              · rw [h]; rfl
              · rw [h]; simp
              · rw [h]; simp)
            go_wp2_with fail
            go_ret
            exact ⟨by rw [HT.out]; rfl, HX.out.bel⟩
  · have d2 : decide (0 < AT) = false := decide_eq_false hz
    clear hz
    go_quiet (fail)
    have hz9 : ∀ n, NxS D w (W9.drewN n) p s P a b c C := fun n => H9.out.keep (below_drewN (Below.refl _ W9) _)
    have HZ := Lib.hid (hz9 nq)
    clear HR14 HST d2 H9 hz9
    go_upto_region 16 with fail
    have HW := Lib.hid (HDU.out _ AT HZ.out (by have := HA0.out; have := HAB.out; unfold I64; omega))
    obtain ⟨e0, e1, e2, he⟩ : ∃ x y z : Int, wentX s (serX s [] ⟨#[97]⟩ a b c AT) = .agg #[.int .i64 x, .int .i64 y, .int .i64 z] := ⟨_, _, _, rfl⟩
    rw [he] at HW
    have HGO := Lib.hid (next_goes (sr := ⟨#[97]⟩) HGD.out (polRight_of HRE.out.symm) (by rw [← HNL.out]; exact HNE.out) (by rw [← HNL.out, ← HAT.out]; exact HAB.out) (by rw [← HNL.out, ← HAT.out]; exact he))
    obtain ⟨E, hE⟩ : ∃ E, E = (e0 == 0 && (e1 == 0 && e2 == 0)) := ⟨_, rfl⟩
    rw [← hE] at HGO
    have hq : ∀ V, (Op.equalIn 10000 35 (.agg #[.int .i64 e0, .int .i64 e1, .int .i64 e2]) (.agg #[.int .i64 0, .int .i64 0, .int .i64 0])).run Tryz.prog V = .ok E V := fun V => by rw [hE]; exact cnt_eq e0 e1 e2 0 0 0 V
    clear he hE hq0
    obtain ⟨p0, p1, p2, -, -, -⟩ := HZ.out.cells
    go_wp2_with fail
    refine HW.out.mono ?_
    rintro e Y1 ⟨rfl, hb⟩
    have HY1 := Lib.hid (HZ.out.keep hb)
    clear hb HZ HW p0 p1 p2
    dsimp only
    go_upto_region 17 with fail
    refine wp_name fun Y2 hY => ?_
    obtain ⟨F, hF⟩ : ∃ F, F = Y1.heap.size := ⟨_, rfl⟩
    have hb : Below Y1.heap.size Y1 Y2 := by rw [hY.out]; exact (Below.refl _ _).alloc (Nat.le_refl _) _
    have hf : Y2.heap[F]? = some (.cells #[.int .i64 e0, .int .i64 e1, .int .i64 e2] 35 (0, 0)) := by rw [hY.out, hF]; exact heap_alloc_new Y1 _
    have HY2 := Lib.hid (HY1.out.keep hb)
    rw [← hF]
    clear hY hF hb HY1
    obtain ⟨g0, g1, g2, -, -, -⟩ := cells3 hf
    obtain ⟨p0, p1, p2, n0, n1, n2⟩ := HY2.out.cells
    clear hf
    have HPT : Hid (∀ V, D.sit V p s → Calls Tryz.prog 16 #[.pointer (some ⟨p, 0, none⟩), .agg #[.int .i64 0, .int .i64 1099511627777]] V fun e w' => ∃ v', e = .returned v' ∧ PtRowB V.heap.size w' v' (getL s.raw 0 1099511627777) ∧ Below V.heap.size V w') := Lib.hid fun V hV => D.points hV (by omega) (by omega) (by omega) (by omega)
    have HAG : Hid (∀ V, D.sit V p s → Calls Tryz.prog 20 #[.pointer (some ⟨p, 0, none⟩), .int .i64 1, .agg #[.int .i64 0, .int .i64 1099511627777]] V fun e w' => ∃ v', e = .returned v' ∧ AgRow V.heap.size w' v' (aggsT s 1 0 1099511627777) ∧ Below V.heap.size V w') := Lib.hid fun V hV => D.aggs hV (by omega) (by omega) (by omega) (by omega) (by omega) (by omega)
    have HLL : Hid (LenX (getL s.raw 0 1099511627777).length (aggsT s 1 0 1099511627777).length) := Lib.hid ⟨(rows_len HGD.out _ _).1, (rows_len HGD.out _ _).2.1⟩
    obtain ⟨LP, hLP⟩ : ∃ l, l = getL s.raw 0 1099511627777 := ⟨_, rfl⟩
    obtain ⟨LM, hLM⟩ : ∃ l, l = aggsT s 1 0 1099511627777 := ⟨_, rfl⟩
    rw [← hLP] at HPT HGO HLL
    rw [← hLM] at HAG HGO HLL
    clear hLP hLM
    go_wp2_with fail
    refine (HPT.out _ HY2.out.one.sit).mono ?_
    rintro e Y3 ⟨vp, rfl, hr, hb⟩
    have HX1 := Lib.hid (HY2.out.keep hb)
    obtain ⟨ua, ub, uo, uc, rfl, huadr, hupts⟩ := hr.plies
    have HW1 : Hid (PLies Y3 (.slice ua LP.length uc) LP) := Lib.hid ⟨ua, ub, uo, uc, rfl, huadr, hupts⟩
    obtain ⟨G1, hG1⟩ : ∃ G1, G1 = !E := ⟨_, rfl⟩
    have HG1 := Lib.hid hG1
    try rw [← hG1]
    have hlp := HLL.out.l1
    clear hr hb huadr hupts g0 g1 g2 p0 p1 p2 n0 n1 n2 HY2 HPT hq hG1
    dsimp only
    go_wp2_with fail
    go_loopw [13, 83] (fun g x wr => ∃ (k : Nat) (gb : Bool), k ≤ LP.length ∧ x = .int .i64 k ∧ g = .bool gb ∧ gb = (G1 || (LP.take k).any (fun q => decide (s.mm ≤ q.a))) ∧ NxS D w wr p s P a b c C ∧ PLies wr (.slice ua LP.length uc) LP) (fun _ x _ => LP.length - (intOf x).toNat)
    case atStart => exact ⟨0, G1, Nat.zero_le _, rfl, rfl, (by simp), HX1.out, HW1.out⟩
    case round =>
      obtain ⟨k, gb, hk, rfl, rfl, hg, hx, hl⟩ := hrel
      obtain ⟨V1, hV⟩ : ∃ V, V = wr := ⟨_, rfl⟩
      subst hV
      have HG := Lib.hid hg
      have HX := Lib.hid hx
      have HL := Lib.hid hl
      clear hg hx hl HX1 HW1
      by_cases hlt : k < LP.length
      · obtain ⟨ad, bb, off, cap, e1, hadr, hpts⟩ := HL.out
        injection e1 with e1 e2 e3
        have ea := hadr (by intro h0; simp [h0] at hlt)
        rw [← e1] at ea
        subst ea
        obtain ⟨t, ht⟩ : ∃ t, LP[k]? = some t := ⟨LP[k], List.getElem?_eq_getElem hlt⟩
        obtain ⟨x0, x1⟩ := hpts k t ht
        have HTK : Hid ((LP.take (k + 1)).any (fun q => decide (s.mm ≤ q.a)) = ((LP.take k).any (fun q => decide (s.mm ≤ q.a)) || decide (s.mm ≤ t.a))) := Lib.hid (by rw [take_snoc ht, List.any_append]; simp)
        have hmax : k < 9223372036854775807 := by have := HLL.out.l1; omega
        clear ht hadr hpts e1 e2 e3
        go_upto_region 21 with fail
        refine wp_name fun U hU => ?_
        obtain ⟨Q, hQ⟩ : ∃ Q, Q = V1.heap.size := ⟨_, rfl⟩
        have hb : Below V1.heap.size V1 U := by rw [hU.out]; exact (Below.refl _ _).alloc (Nat.le_refl _) _
        have HQ : Hid (U.cell? ⟨Q, 0, none⟩ = some (.int .i64 t.a)) := Lib.hid (by
          have h : U.heap[Q]? = some (.cells #[.int .i64 t.a, .int .i64 t.v] 47 (0, 0)) := by rw [hU.out, hQ]; exact heap_alloc_new V1 _
          simp [World.cell?, h])
        have HXU := Lib.hid (HX.out.keep hb)
        have HLU := Lib.hid (HL.out.beyond hb)
        rw [← hQ]
        clear hU hQ hb HX HL x0 x1
        cases gb with
        | true =>
          have HG2 : Hid (true = (G1 || (LP.take (k + 1)).any (fun q => decide (s.mm ≤ q.a)))) := Lib.hid (by rw [HTK.out, ← Bool.or_assoc, ← HG.out]; rfl)
          go_quiet (fail)
          go_wp2
          go_roundw
          case rel => exact ⟨k + 1, true, by omega, by go_num, rfl, HG2.out, HXU.out.keep (below_drewN (Below.refl _ U) _), HLU.out.beyond (below_drewN (Below.refl _ U) _)⟩
          case measure => simp [intOf]; omega
        | false =>
          have HG2 : Hid (decide (s.mm ≤ t.a) = (G1 || (LP.take (k + 1)).any (fun q => decide (s.mm ≤ q.a)))) := Lib.hid (by rw [HTK.out, ← Bool.or_assoc, ← HG.out]; rfl)
          have HXD := Lib.hid HXU.out.drew
          have HLD := Lib.hid (HLU.out.beyond ((Below.refl _ U).drew))
          have HCD : Hid (U.drew.cell? ⟨Q, 0, none⟩ = some (.int .i64 t.a)) := Lib.hid HQ.out
          have HMK : Hid (Calls Tryz.prog 18 #[.pointer (some ⟨p, 0, none⟩), .int .i64 1] U.drew fun e w' => e = .returned (.int .i64 s.mm) ∧ Below U.drew.heap.size U.drew w') := Lib.hid (D.mark (t := 1) HXD.out.one.sit (by omega) (by omega))
          clear HXU HLU HQ
          go_region_held3 (fun w' => w'.cell? ⟨Q, 0, none⟩ = some (.int .i64 t.a)) (first | with_reducible exact HCD.out | with_reducible exact HCE.out) ((go_at_call 18; refine (HMK.out).mono ?_; rintro e U2 ⟨rfl, hb⟩; have HXE := Lib.hid (HXD.out.keep hb); have HLE := Lib.hid (HLD.out.beyond hb); have HCE : Hid (U2.cell? ⟨Q, 0, none⟩ = some (.int .i64 t.a)) := Lib.hid ((hb.cell (p := ⟨Q, 0, none⟩) (cell_lt HCD.out)).trans HCD.out); clear hb))
          go_wp2
          go_roundw
          case rel => exact ⟨k + 1, _, by omega, by go_num, rfl, HG2.out, HXE.out, HLE.out⟩
          case measure => simp [intOf]; omega
      · have HE : Hid (gb = (G1 || LP.any (fun q => decide (s.mm ≤ q.a)))) := Lib.hid (by rw [HG.out, List.take_of_length_le (by omega)])
        clear HG
        go_wp2_with fail
        refine (HAG.out _ HX.out.one.sit).mono ?_
        rintro e Y4 ⟨vm, rfl, hr, hb⟩
        have HX2 := Lib.hid (HX.out.keep hb)
        obtain ⟨va, vb, vo, vc, rfl, hvadr, hvpts⟩ := AgRow.lies hr
        have HW2 : Hid (ALies Y4 (.slice va LM.length vc) LM) := Lib.hid ⟨va, vb, vo, vc, rfl, hvadr, hvpts⟩
        obtain ⟨G2, hG2⟩ : ∃ G2, G2 = gb := ⟨_, rfl⟩
        subst hG2
        have HG2 := Lib.hid HE.out
        have hlm := HLL.out.l2
        clear hr hb hvadr hvpts HX HL HE HAG hlt hk
        dsimp only
        go_wp2_with fail
        go_loopw [13, 100] (fun g x wr => ∃ (k : Nat) (gb : Bool), k ≤ LM.length ∧ x = .int .i64 k ∧ g = .bool gb ∧ gb = (G2 || (LM.take k).any (fun q => decide (s.ml ≤ q.at_))) ∧ NxS D w wr p s P a b c C ∧ ALies wr (.slice va LM.length vc) LM) (fun _ x _ => LM.length - (intOf x).toNat)
        case atStart => exact ⟨0, G2, Nat.zero_le _, rfl, rfl, (by simp), HX2.out, HW2.out⟩
        case round =>
          obtain ⟨k, gb, hk, rfl, rfl, hg, hx, hl⟩ := hrel
          obtain ⟨V2, hV⟩ : ∃ V, V = wr := ⟨_, rfl⟩
          subst hV
          have HG := Lib.hid hg
          have HX := Lib.hid hx
          have HL := Lib.hid hl
          clear hg hx hl HX2 HW2
          by_cases hlt : k < LM.length
          · obtain ⟨ad, bb, off, cap, e1, hadr, hpts⟩ := HL.out
            injection e1 with e1 e2 e3
            have ea := hadr (by intro h0; simp [h0] at hlt)
            rw [← e1] at ea
            subst ea
            obtain ⟨t, ht⟩ : ∃ t, LM[k]? = some t := ⟨LM[k], List.getElem?_eq_getElem hlt⟩
            obtain ⟨x0, x1, x2, x3, x4⟩ := hpts k t ht
            have HTK : Hid ((LM.take (k + 1)).any (fun q => decide (s.ml ≤ q.at_)) = ((LM.take k).any (fun q => decide (s.ml ≤ q.at_)) || decide (s.ml ≤ t.at_))) := Lib.hid (by rw [take_snoc ht, List.any_append]; simp)
            have hmax : k < 9223372036854775807 := by have := HLL.out.l2; omega
            clear ht hadr hpts e1 e2 e3
            go_upto_region 26 with fail
            refine wp_name fun U hU => ?_
            obtain ⟨Q, hQ⟩ : ∃ Q, Q = V2.heap.size := ⟨_, rfl⟩
            have hb : Below V2.heap.size V2 U := by rw [hU.out]; exact (Below.refl _ _).alloc (Nat.le_refl _) _
            have HQ : Hid (U.cell? ⟨Q, 0, none⟩ = some (.int .i64 t.at_)) := Lib.hid (by
              have h : U.heap[Q]? = some (.cells #[.int .i64 t.at_, .int .i64 t.n, .int .i64 t.s, .int .i64 t.lo, .int .i64 t.hi] 55 (0, 0)) := by rw [hU.out, hQ]; exact heap_alloc_new V2 _
              simp [World.cell?, h])
            have HXU := Lib.hid (HX.out.keep hb)
            have HLU := Lib.hid (HL.out.beyond hb)
            rw [← hQ]
            clear hU hQ hb HX HL x0 x1 x2 x3 x4
            cases gb with
            | true =>
              have HG2 : Hid (true = (G2 || (LM.take (k + 1)).any (fun q => decide (s.ml ≤ q.at_)))) := Lib.hid (by rw [HTK.out, ← Bool.or_assoc, ← HG.out]; rfl)
              go_quiet (fail)
              go_wp2
              go_roundw
              case rel => exact ⟨k + 1, true, by omega, by go_num, rfl, HG2.out, HXU.out.keep (below_drewN (Below.refl _ U) _), HLU.out.beyond (below_drewN (Below.refl _ U) _)⟩
              case measure => simp [intOf]; omega
            | false =>
              have HG2 : Hid (decide (s.ml ≤ t.at_) = (G2 || (LM.take (k + 1)).any (fun q => decide (s.ml ≤ q.at_)))) := Lib.hid (by rw [HTK.out, ← Bool.or_assoc, ← HG.out]; rfl)
              have HXD := Lib.hid HXU.out.drew
              have HLD := Lib.hid (HLU.out.beyond ((Below.refl _ U).drew))
              have HCD : Hid (U.drew.cell? ⟨Q, 0, none⟩ = some (.int .i64 t.at_)) := Lib.hid HQ.out
              have HMK : Hid (Calls Tryz.prog 18 #[.pointer (some ⟨p, 0, none⟩), .int .i64 2] U.drew fun e w' => e = .returned (.int .i64 s.ml) ∧ Below U.drew.heap.size U.drew w') := Lib.hid (D.mark (t := 2) HXD.out.one.sit (by omega) (by omega))
              clear HXU HLU HQ
              go_region_held3 (fun w' => w'.cell? ⟨Q, 0, none⟩ = some (.int .i64 t.at_)) (first | with_reducible exact HCD.out | with_reducible exact HCE.out) ((go_at_call 18; refine (HMK.out).mono ?_; rintro e U2 ⟨rfl, hb⟩; have HXE := Lib.hid (HXD.out.keep hb); have HLE := Lib.hid (HLD.out.beyond hb); have HCE : Hid (U2.cell? ⟨Q, 0, none⟩ = some (.int .i64 t.at_)) := Lib.hid ((hb.cell (p := ⟨Q, 0, none⟩) (cell_lt HCD.out)).trans HCD.out); clear hb))
              go_wp2
              go_roundw
              case rel => exact ⟨k + 1, _, by omega, by go_num, rfl, HG2.out, HXE.out, HLE.out⟩
              case measure => simp [intOf]; omega
          · have HE : Hid (gb = (G2 || LM.any (fun q => decide (s.ml ≤ q.at_)))) := Lib.hid (by rw [HG.out, List.take_of_length_le (by omega)])
            clear HG
            have HT : Hid (gb = true) := Lib.hid (by
              rw [HE.out, HG2.out, HG1.out]
              rcases HGO.out with h | h | h
              · rw [h]; rfl
              · rw [h]; simp
              · rw [h]; simp)
            go_wp2_with fail
            go_ret
            exact ⟨by rw [HT.out]; rfl, HX.out.bel⟩
end Go.Proofs.YthbdchleppbidaaGreat
