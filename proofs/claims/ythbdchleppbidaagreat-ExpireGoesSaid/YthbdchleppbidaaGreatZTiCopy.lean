/- Package tier: Copy. -/
import Derived.Test.YthbdchleppbidaaGreatMT
import Derived.Test.YthbdchleppbidaaGreatMS
import Derived.Test.YthbdchleppbidaaGreatMC
import Derived.Deep.DeepCutAuto
import Derived.Deep.RegionHeld3
import Derived.Deep.CutBlock
import Derived.Handy
namespace Go.Proofs.YthbdchleppbidaaGreat
open Go.RowKit

theorem four_alloc {w : World} {p : Nat} {o : Obj} {a b c d : Value} (h : w.cell? ⟨p, 0, none⟩ = some a ∧ w.cell? ⟨p, 4, none⟩ = some b ∧ w.cell? ⟨p, 5, none⟩ = some c ∧ w.cell? ⟨p, 6, none⟩ = some d) :
    (w.alloc o).cell? ⟨p, 0, none⟩ = some a ∧ (w.alloc o).cell? ⟨p, 4, none⟩ = some b ∧ (w.alloc o).cell? ⟨p, 5, none⟩ = some c ∧ (w.alloc o).cell? ⟨p, 6, none⟩ = some d := by
  have hp := cell_lt h.1
  have hb : Below w.heap.size w (w.alloc o) := (Below.refl _ _).alloc (Nat.le_refl _) _
  exact ⟨(hb.cell (p := ⟨p, 0, none⟩) hp).trans h.1, (hb.cell (p := ⟨p, 4, none⟩) hp).trans h.2.1, (hb.cell (p := ⟨p, 5, none⟩) hp).trans h.2.2.1, (hb.cell (p := ⟨p, 6, none⟩) hp).trans h.2.2.2⟩
/-- a stock being made -/
structure CpSt (w : World) (p sp : Nat) (v vm vl : Value) (q sp' : Nat) (v' ma la : Value) (lm ll : List Ag) (s : Stk) (W : World) : Prop where
  at_ : W.heap[q]? = some (.cells #[.pointer (some ⟨sp', 0, none⟩), .slice none 0 0, ma, la, .int .i64 0, .int .i64 s.mm, .int .i64 s.ml] 76 (0, 0))
  ser : SerV W sp' v' s.raw
  mid : AgRow w.heap.size W ma lm
  long : AgRow w.heap.size W la ll
  two : ∀ k, ma.ownBlock = some k → la.ownBlock ≠ some k
  sit : TSit W p sp v vm vl s
  new : w.heap.size ≤ q
  sbl : ∀ k, SBlk sp' v' k → w.heap.size ≤ k ∧ k ≠ q
  bel : Below w.heap.size w W
  old : ∀ {k}, TBlk p sp v vm vl k → k < w.heap.size
theorem CpSt.cells {w : World} {p sp : Nat} {v vm vl : Value} {q sp' : Nat} {v' ma la : Value} {lm ll : List Ag} {s : Stk} {W : World} (h : CpSt w p sp v vm vl q sp' v' ma la lm ll s W) :
    W.cell? ⟨q, 1, none⟩ = some (.slice none 0 0) ∧ W.cell? ⟨q, 2, none⟩ = some ma ∧ W.cell? ⟨q, 3, none⟩ = some la ∧ W.frozen? ⟨q, 1, none⟩ = false ∧ W.frozen? ⟨q, 2, none⟩ = false ∧ W.frozen? ⟨q, 3, none⟩ = false := by
  have h0 := h.at_
  exact ⟨by simp [World.cell?, h0], by simp [World.cell?, h0], by simp [World.cell?, h0], by simp [World.frozen?, h0], by simp [World.frozen?, h0], by simp [World.frozen?, h0]⟩
theorem CpSt.keep {w : World} {p sp : Nat} {v vm vl : Value} {q sp' : Nat} {v' ma la : Value} {lm ll : List Ag} {s : Stk} {W W' : World} (h : CpSt w p sp v vm vl q sp' v' ma la lm ll s W) (hb : Below W.heap.size W W') : CpSt w p sp v vm vl q sp' v' ma la lm ll s W' :=
  ⟨(hb.block q (lt_of_block h.at_)).trans h.at_, h.ser.keep hb, ownsRow_beyond h.mid hb, ownsRow_beyond h.long hb, h.two, h.sit.keep hb, h.new, h.sbl, h.bel.trans (hb.mono h.bel.size), h.old⟩
theorem CpSt.drew {w : World} {p sp : Nat} {v vm vl : Value} {q sp' : Nat} {v' ma la : Value} {lm ll : List Ag} {s : Stk} {W : World} (h : CpSt w p sp v vm vl q sp' v' ma la lm ll s W) : CpSt w p sp v vm vl q sp' v' ma la lm ll s W.drew := h.keep ((Below.refl _ W).drew)
theorem CpSt.set {w : World} {p sp : Nat} {v vm vl : Value} {q sp' : Nat} {v' ma la : Value} {lm ll : List Ag} {s : Stk} {W W' : World} {i : Nat} {u ma' la' : Value} {lm' ll' : List Ag} (h : CpSt w p sp v vm vl q sp' v' ma la lm ll s W) (hW : W' = W.setCell ⟨q, i, none⟩ u)
    (he : (#[Value.pointer (some ⟨sp', 0, none⟩), .slice none 0 0, ma, la, .int .i64 0, .int .i64 s.mm, .int .i64 s.ml] : Array Value).setIfInBounds i u = #[.pointer (some ⟨sp', 0, none⟩), .slice none 0 0, ma', la', .int .i64 0, .int .i64 s.mm, .int .i64 s.ml])
    (hm : AgRow w.heap.size W ma' lm') (hl : AgRow w.heap.size W la' ll') (h2 : ∀ k, ma'.ownBlock = some k → la'.ownBlock ≠ some k) : CpSt w p sp v vm vl q sp' v' ma' la' lm' ll' s W' := by
  have ho : Only (fun k => k = q) W W' := by rw [hW]; exact Only.setCell (S := fun k => k = q) W rfl _
  have e := heap_setCell_same W q i _ _ u h.at_
  have hnp : ∀ k, TBlk p sp v vm vl k → ¬ k = q := fun k hk e => by
    -- an old block
    subst e
    exact absurd h.new (by have := h.old hk; omega)
  refine ⟨by rw [hW, e, he], h.ser.only ho (fun k hk => (h.sbl k hk).2), row_only hm ho (fun k hk e => row_ne h.at_ hm (by decide) (e ▸ hk)), row_only hl ho (fun k hk e => row_ne h.at_ hl (by decide) (e ▸ hk)), h2, h.sit.only ho hnp, h.new, h.sbl, h.bel.trans (ho.below h.bel.size (fun k hk => by rw [hk]; exact h.new)), h.old⟩
set_option maxHeartbeats 8000000 in
set_option maxRecDepth 100000 in
theorem ticopy_any {w : World} {p sp : Nat} {v vm vl : Value} {s : Stk} (h : TSit w p sp v vm vl s) :
    Calls Tryz.prog 11 #[.pointer (some ⟨p, 0, none⟩)] w fun e w' => (∃ p' sp' v' vm' vl', e = .returned (.pointer (some ⟨p', 0, none⟩)) ∧ TSit w' p' sp' v' vm' vl' s ∧ (∀ k, TBlk p' sp' v' vm' vl' k → w.heap.size ≤ k)) ∧ Below w.heap.size w w' := by
  have HT0 : Hid (TSit w.drew p sp v vm vl s) := Lib.hid h.drew
  have HB0 : Hid (Below w.heap.size w w.drew) := Lib.hid (below_drew (Below.refl _ _))
  have HSC : Hid (∀ W, TSit W p sp v vm vl s → Calls Tryz.prog 29 #[.pointer (some ⟨sp, 0, none⟩)] W fun e w' => ∃ s' v', e = .returned (.pointer (some ⟨s', 0, none⟩)) ∧ SerV w' s' v' s.raw ∧ (∀ k, SBlk s' v' k → W.heap.size ≤ k) ∧ Below W.heap.size W w') := Lib.hid fun W hW => secopy_any hW.ser
  have HC0 : Hid (w.drew.cell? ⟨p, 0, none⟩ = some (.pointer (some ⟨sp, 0, none⟩)) ∧ w.drew.cell? ⟨p, 4, none⟩ = some (.int .i64 0) ∧ w.drew.cell? ⟨p, 5, none⟩ = some (.int .i64 s.mm) ∧ w.drew.cell? ⟨p, 6, none⟩ = some (.int .i64 s.ml)) := Lib.hid ⟨HT0.out.cells.c0, HT0.out.cells.c4, HT0.out.cells.c5, HT0.out.cells.c6⟩
  have HLT : Hid (∀ {k}, TBlk p sp v vm vl k → k < w.heap.size) := Lib.hid fun hk => h.lt hk
  clear h
  go_enter Tryz.func11, Tryz.ntmps11
  go_upto_region 3 with fail
  go_region_held3 (fun w' => w'.cell? ⟨p, 0, none⟩ = some (.pointer (some ⟨sp, 0, none⟩)) ∧ w'.cell? ⟨p, 4, none⟩ = some (.int .i64 0) ∧ w'.cell? ⟨p, 5, none⟩ = some (.int .i64 s.mm) ∧ w'.cell? ⟨p, 6, none⟩ = some (.int .i64 s.ml)) (first | with_reducible exact HC0.out | with_reducible exact HC1.out | exact four_alloc HC1.out) (((first | (go_at_call 29; refine (HSC.out _ HT0.out).mono ?_; clear HSC; rintro e W1 ⟨sp', v', rfl, hs1, hn1, hb1⟩; have HS1 := Lib.hid hs1; have HN1 := Lib.hid hn1; have HT1 := Lib.hid (HT0.out.keep hb1); have HB1 := Lib.hid (HB0.out.trans (hb1.mono HB0.out.size)); have HC1 : Hid (W1.cell? ⟨p, 0, none⟩ = some (.pointer (some ⟨sp, 0, none⟩)) ∧ W1.cell? ⟨p, 4, none⟩ = some (.int .i64 0) ∧ W1.cell? ⟨p, 5, none⟩ = some (.int .i64 s.mm) ∧ W1.cell? ⟨p, 6, none⟩ = some (.int .i64 s.ml)) := Lib.hid ⟨HT1.out.cells.c0, HT1.out.cells.c4, HT1.out.cells.c5, HT1.out.cells.c6⟩; clear hs1 hn1 hb1)); dsimp only))
  obtain ⟨q, hq⟩ : ∃ q, q = W1.heap.size := ⟨_, rfl⟩
  generalize hW2 : W1.alloc _ = W2
  have hat : W2.heap[q]? = some (.cells #[.pointer (some ⟨sp', 0, none⟩), .slice none 0 0, .slice none 0 0, .slice none 0 0, .int .i64 0, .int .i64 s.mm, .int .i64 s.ml] 76 (0, 0)) := by rw [← hW2, hq]; exact heap_alloc_new W1 _
  have hb2 : Below W1.heap.size W1 W2 := by rw [← hW2]; exact (Below.refl _ _).alloc (Nat.le_refl _) _
  have H2 : Hid (CpSt w p sp v vm vl q sp' v' (.slice none 0 0) (.slice none 0 0) [] [] s W2) := Lib.hid ⟨hat, HS1.out.keep hb2, AgRow.nil _ _, AgRow.nil _ _, (fun _ h => by cases h), HT1.out.keep hb2, (by rw [hq]; exact HB1.out.size),
    fun k hk => ⟨HN1.out k hk, by have := SBlk.lt HS1.out hk; omega⟩, HB1.out.trans (hb2.mono HB1.out.size), HLT.out⟩
  rw [← hq]
  clear hat hb2 hW2 hq HS1 HN1 HT1 HB1 HC1 HT0 HB0 HC0 HLT
  rename_i hHeld
  clear hHeld
  obtain ⟨c0, c1, c2, c3, c4, c5, c6⟩ := H2.out.sit.cells
  go_wp2_with fail
  have x0 : ∀ w, (Instr.index 73 (.agg #[.slice none 0 0, vm, vl]) (.int .i64 0)).run Tryz.prog w = .ok (.slice none 0 0) w := fun w => run_index_one w _ 52 3 [.slice none 0 0, vm, vl] .i64 0 _ Tryz.underlying73 _ Tryz.underlying52 rfl (by kernel_rfl) (by omega) rfl
  have x1 : ∀ w, (Instr.index 73 (.agg #[.slice none 0 0, vm, vl]) (.int .i64 1)).run Tryz.prog w = .ok vm w := fun w => run_index_one w _ 52 3 [.slice none 0 0, vm, vl] .i64 1 _ Tryz.underlying73 _ Tryz.underlying52 rfl (by kernel_rfl) (by omega) rfl
  have x2 : ∀ w, (Instr.index 73 (.agg #[.slice none 0 0, vm, vl]) (.int .i64 2)).run Tryz.prog w = .ok vl w := fun w => run_index_one w _ 52 3 [.slice none 0 0, vm, vl] .i64 2 _ Tryz.underlying73 _ Tryz.underlying52 rfl (by kernel_rfl) (by omega) rfl
  refine wp_loop_rounds 4 ?_
  rw [rounds_succ]
  clear c0 c1 c2 c3 c4 c5 c6
  go_upto_region 7 with fail
  have H3 := H2
  clear H2
  obtain ⟨q1, q2, q3, f1, f2, f3⟩ := H3.out.cells
  go_region_with (go_at_call 30; refine (agclo_none _).mono ?_; rintro e w' ⟨rfl, rfl⟩; dsimp only)
  generalize hW4 : World.setCell _ _ _ = W4
  have H4 := Lib.hid (H3.out.set (i := 1) (u := .slice none 0 0) (ma' := .slice none 0 0) (la' := .slice none 0 0) hW4.symm rfl H3.out.mid H3.out.long H3.out.two)
  clear H3 q1 q2 q3 f1 f2 f3 hW4
  go_wp2_with fail
  rw [rounds_succ]
  go_upto_region 7 with fail
  have H5 := Lib.hid H4.out.drew.drew
  have HLM : Hid (∀ W, CpSt w p sp v vm vl q sp' v' (.slice none 0 0) (.slice none 0 0) [] [] s W → Calls Tryz.prog 30 #[vm] W fun e w' => ∃ v', e = .returned v' ∧ AgRow W.heap.size w' v' s.mid ∧ Below W.heap.size W w') := Lib.hid fun W hW => agclo_any hW.sit.mid.lies (by have := hW.sit.good.mid.len; omega)
  clear H4
  obtain ⟨q1, q2, q3, f1, f2, f3⟩ := H5.out.cells
  go_region_with (go_at_call 30; refine (HLM.out _ H5.out).mono ?_; rintro e W6 ⟨ma, rfl, hr6, hb6⟩; obtain ⟨aa6, cc6, e6⟩ := own_slice hr6; subst e6; have HR6 := Lib.hid hr6; have H6 := Lib.hid (H5.out.keep hb6); have HZ6 := Lib.hid (Nat.le_trans H5.out.bel.size (Nat.le_refl _)); clear hr6 hb6 q1 q2 q3 f1 f2 f3; obtain ⟨q1, q2, q3, f1, f2, f3⟩ := H6.out.cells; dsimp only)
  obtain ⟨ma, hma⟩ : ∃ ma, ma = Value.slice aa6 s.mid.length cc6 := ⟨_, rfl⟩
  rw [← hma] at HR6 ⊢
  generalize hW7 : World.setCell _ _ _ = W7
  have H7 : Hid (CpSt w p sp v vm vl q sp' v' ma (.slice none 0 0) s.mid [] s W7) := Lib.hid (H6.out.set (i := 2) (u := ma) (ma' := ma) (la' := .slice none 0 0) hW7.symm rfl (HR6.out.base HZ6.out) (AgRow.nil _ _) (fun _ _ h => by cases h))
  clear H6 HR6 HZ6 q1 q2 q3 f1 f2 f3 hW7 hma HLM H5
  go_wp2_with fail
  rw [rounds_succ]
  go_upto_region 7 with fail
  have H8 := Lib.hid H7.out.drew
  have HLL : Hid (∀ W, CpSt w p sp v vm vl q sp' v' ma (.slice none 0 0) s.mid [] s W → Calls Tryz.prog 30 #[vl] W fun e w' => ∃ v', e = .returned v' ∧ AgRow W.heap.size w' v' s.long ∧ Below W.heap.size W w') := Lib.hid fun W hW => agclo_any hW.sit.long.lies (by have := hW.sit.good.long.len; omega)
  clear H7
  go_region_with (go_at_call 30; refine (HLL.out _ H8.out).mono ?_; rintro e W9 ⟨la, rfl, hr9, hb9⟩; obtain ⟨aa9, cc9, e9⟩ := own_slice hr9; subst e9; have HR9 := Lib.hid hr9; have H9 := Lib.hid (H8.out.keep hb9); clear hr9 hb9; obtain ⟨q1, q2, q3, f1, f2, f3⟩ := H9.out.cells; dsimp only)
  obtain ⟨la, hla⟩ : ∃ la, la = Value.slice aa9 s.long.length cc9 := ⟨_, rfl⟩
  rw [← hla] at HR9 ⊢
  generalize hW10 : World.setCell _ _ _ = W10
  have H10 : Hid (CpSt w p sp v vm vl q sp' v' ma la s.mid s.long s W10) := Lib.hid (H9.out.set (i := 3) (u := la) (ma' := ma) (la' := la) hW10.symm rfl H9.out.mid (HR9.out.base H8.out.bel.size) (fun k hk hl => by
    have h1 := (H8.out.mid.lt k hk).2
    have h2 := (HR9.out.lt k hl).1
    omega))
  clear H9 HR9 q1 q2 q3 f1 f2 f3 hW10 hla HLL H8
  go_wp2_with fail
  rw [rounds_succ]
  go_wp2_with fail
  have H11 := H10
  go_ret
  refine ⟨⟨q, sp', v', ma, la, rfl, ⟨H11.out.at_, H11.out.ser, H11.out.mid.base (Nat.zero_le _), H11.out.long.base (Nat.zero_le _), H11.out.two, H11.out.sit.good⟩, ?_⟩, H11.out.bel⟩
  rintro k (rfl | hk | hk | hk)
  · exact H11.out.new
  · exact (H11.out.sbl k hk).1
  · exact (H11.out.mid.lt k hk).1
  · exact (H11.out.long.lt k hk).1
end Go.Proofs.YthbdchleppbidaaGreat
