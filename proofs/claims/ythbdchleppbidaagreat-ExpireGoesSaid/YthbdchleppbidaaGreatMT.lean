/- TiSit, TiAt, TiAggs, TiAct, TiDoes, TiLen, TiAggs0: laid into one. -/
import Derived.Test.YthbdchleppbidaaGreatME
import Derived.Test.YthbdchleppbidaaGreatMS
import Derived.Test.YthbdchleppbidaaGreatMC
import Derived.Test.YthbdchleppbidaaGreatMW
import Derived.Test.YthbdchleppbidaaGreatMG
/- A stock as it lies: its block, its series, the rows of its aggregates. -/
namespace Go.Proofs.YthbdchleppbidaaGreat
open Go.RowKit

theorem GoodT.ser {s : Stk} (h : GoodT s) : GoodS s.raw := ⟨h.srt, h.tick, h.pfits, h.plen⟩
/-- a stock at p: its series at sp with the slice v, its Mid row vm, its Long row vl -/
structure TSit (w : World) (p sp : Nat) (v vm vl : Value) (s : Stk) : Prop where
  at_ : w.heap[p]? = some (.cells #[.pointer (some ⟨sp, 0, none⟩), .slice none 0 0, vm, vl, .int .i64 0, .int .i64 s.mm, .int .i64 s.ml] 76 (0, 0))
  ser : SerV w sp v s.raw
  mid : AgRow 0 w vm s.mid
  long : AgRow 0 w vl s.long
  two : ∀ k, vm.ownBlock = some k → vl.ownBlock ≠ some k
  good : GoodT s
/-- its blocks -/
def TBlk (p sp : Nat) (v vm vl : Value) (k : Nat) : Prop := k = p ∨ SBlk sp v k ∨ vm.ownBlock = some k ∨ vl.ownBlock = some k
theorem TSit.lt {w : World} {p sp : Nat} {v vm vl : Value} {s : Stk} (h : TSit w p sp v vm vl s) {k : Nat} (hk : TBlk p sp v vm vl k) : k < w.heap.size := by
  rcases hk with rfl | hk | hk | hk
  · exact lt_of_block h.at_
  · exact SBlk.lt h.ser hk
  · exact (h.mid.lt _ hk).2
  · exact (h.long.lt _ hk).2
theorem TSit.only {S : Nat → Prop} {w w' : World} {p sp : Nat} {v vm vl : Value} {s : Stk} (h : TSit w p sp v vm vl s) (ho : Only S w w') (hS : ∀ k, TBlk p sp v vm vl k → ¬ S k) : TSit w' p sp v vm vl s :=
  ⟨(ho.block p (lt_of_block h.at_) (hS p (.inl rfl))).trans h.at_, h.ser.only ho (fun k hk => hS k (.inr (.inl hk))), row_only h.mid ho (fun k hk => hS k (.inr (.inr (.inl hk)))), row_only h.long ho (fun k hk => hS k (.inr (.inr (.inr hk)))), h.two, h.good⟩
theorem TSit.keep {w w' : World} {p sp : Nat} {v vm vl : Value} {s : Stk} (h : TSit w p sp v vm vl s) (hb : Below w.heap.size w w') : TSit w' p sp v vm vl s := h.only (only_beyond (S := fun _ => False) hb) (fun _ _ h => h)
theorem TSit.drew {w : World} {p sp : Nat} {v vm vl : Value} {s : Stk} (h : TSit w p sp v vm vl s) : TSit w.drew p sp v vm vl s := h.keep ((Below.refl _ w).drew)
/-- the cells, as they are read -/
structure TCells (w : World) (p sp : Nat) (vm vl : Value) (s : Stk) : Prop where
  c0 : w.cell? ⟨p, 0, none⟩ = some (.pointer (some ⟨sp, 0, none⟩))
  c1 : w.cell? ⟨p, 1, none⟩ = some (.slice none 0 0)
  c2 : w.cell? ⟨p, 2, none⟩ = some vm
  c3 : w.cell? ⟨p, 3, none⟩ = some vl
  c4 : w.cell? ⟨p, 4, none⟩ = some (.int .i64 0)
  c5 : w.cell? ⟨p, 5, none⟩ = some (.int .i64 s.mm)
  c6 : w.cell? ⟨p, 6, none⟩ = some (.int .i64 s.ml)
theorem TSit.cells {w : World} {p sp : Nat} {v vm vl : Value} {s : Stk} (h : TSit w p sp v vm vl s) : TCells w p sp vm vl s := by
  have h0 := h.at_
  exact ⟨by simp [World.cell?, h0], by simp [World.cell?, h0], by simp [World.cell?, h0], by simp [World.cell?, h0], by simp [World.cell?, h0], by simp [World.cell?, h0], by simp [World.cell?, h0]⟩
theorem TSit.free {w : World} {p sp : Nat} {v vm vl : Value} {s : Stk} (h : TSit w p sp v vm vl s) (i : Nat) : w.frozen? ⟨p, i, none⟩ = false := by
  have h0 := h.at_
  simp [World.frozen?, h0]
theorem TSit.nsp {w : World} {p sp : Nat} {v vm vl : Value} {s : Stk} (h : TSit w p sp v vm vl s) : sp ≠ p := by
  rintro rfl
  have h1 := h.at_
  have h2 := h.ser.at_
  rw [h1] at h2
  injection h2 with h2
  injection h2 with h2 h3
  revert h3; decide
theorem TSit.nv {w : World} {p sp : Nat} {v vm vl : Value} {s : Stk} (h : TSit w p sp v vm vl s) : v.ownBlock ≠ some p := row_ne h.at_ h.ser.row (by decide)
theorem TSit.nm {w : World} {p sp : Nat} {v vm vl : Value} {s : Stk} (h : TSit w p sp v vm vl s) : vm.ownBlock ≠ some p := row_ne h.at_ h.mid (by decide)
theorem TSit.nl {w : World} {p sp : Nat} {v vm vl : Value} {s : Stk} (h : TSit w p sp v vm vl s) : vl.ownBlock ≠ some p := row_ne h.at_ h.long (by decide)
theorem TSit.np {w : World} {p sp : Nat} {v vm vl : Value} {s : Stk} (h : TSit w p sp v vm vl s) : ¬ SBlk sp v p := by
  rintro (e | e)
  · exact h.nsp e.symm
  · exact h.nv e
theorem TSit.nsm {w : World} {p sp : Nat} {v vm vl : Value} {s : Stk} (h : TSit w p sp v vm vl s) : ∀ k, vm.ownBlock = some k → ¬ SBlk sp v k := by
  rintro k hk (e | e)
  · exact row_ne h.ser.at_ h.mid (by decide) (e ▸ hk)
  · exact rows_apart h.ser.row h.mid (by decide) k e hk
theorem TSit.nsl {w : World} {p sp : Nat} {v vm vl : Value} {s : Stk} (h : TSit w p sp v vm vl s) : ∀ k, vl.ownBlock = some k → ¬ SBlk sp v k := by
  rintro k hk (e | e)
  · exact row_ne h.ser.at_ h.long (by decide) (e ▸ hk)
  · exact rows_apart h.ser.row h.long (by decide) k e hk
/-- a stock is at p -/
def tSit (w : World) (p : Nat) (s : Stk) : Prop := ∃ sp v vm vl, TSit w p sp v vm vl s
/-- the blocks of the stock at p, read off the world -/
def tOwn (w : World) (p k : Nat) : Prop := k = p ∨ ∃ sp v vm vl a b c d, w.heap[p]? = some (.cells #[.pointer (some ⟨sp, 0, none⟩), a, vm, vl, b, c, d] 76 (0, 0)) ∧ w.heap[sp]? = some (.cells #[v] 116 (0, 0)) ∧ (SBlk sp v k ∨ vm.ownBlock = some k ∨ vl.ownBlock = some k)
theorem TSit.own {w : World} {p sp : Nat} {v vm vl : Value} {s : Stk} (h : TSit w p sp v vm vl s) (k : Nat) : tOwn w p k ↔ TBlk p sp v vm vl k := by
  constructor
  · rintro (e | ⟨sp', v', vm', vl', a, b, c, d, h1, h2, h3⟩)
    · exact .inl e
    · have e1 := h.at_
      rw [h1] at e1
      injection e1 with e1
      injection e1 with e1
      simp only [Array.mk.injEq, List.cons.injEq, Value.pointer.injEq, Option.some.injEq, Addr.mk.injEq, and_true] at e1
      obtain ⟨rfl, _, rfl, rfl, _⟩ := e1
      have e2 := h.ser.at_
      rw [h2] at e2
      injection e2 with e2
      injection e2 with e2
      simp only [Array.mk.injEq, List.cons.injEq, and_true] at e2
      subst e2
      exact .inr h3
  · rintro (e | e)
    · exact .inl e
    · exact .inr ⟨sp, v, vm, vl, _, _, _, _, h.at_, h.ser.at_, e⟩
theorem tSit_lt {w : World} {p : Nat} {s : Stk} {k : Nat} (h : tSit w p s) (hk : tOwn w p k) : k < w.heap.size := by
  obtain ⟨sp, v, vm, vl, h⟩ := h
  exact h.lt ((h.own k).1 hk)
theorem tSit_keep {S : Nat → Prop} {w w' : World} {p : Nat} {s : Stk} (h : tSit w p s) (ho : Only S w w') (hS : ∀ k, tOwn w p k → ¬ S k) : tSit w' p s ∧ ∀ k, tOwn w' p k → tOwn w p k := by
  obtain ⟨sp, v, vm, vl, h⟩ := h
  have h' := h.only ho (fun k hk => hS k ((h.own k).2 hk))
  exact ⟨⟨sp, v, vm, vl, h'⟩, fun k hk => (h.own k).2 ((h'.own k).1 hk)⟩
/-- what a call made of a stock: its blocks are old ones of it, or new; nothing else was touched -/
def Turned (w w' : World) (p sp : Nat) (v vm vl : Value) (s' : Stk) : Prop :=
  ∃ v' vm' vl', TSit w' p sp v' vm' vl' s' ∧ (∀ k, TBlk p sp v' vm' vl' k → TBlk p sp v vm vl k ∨ w.heap.size ≤ k) ∧ Only (TBlk p sp v vm vl) w w'
theorem Turned.out {w w' : World} {p sp : Nat} {v vm vl : Value} {s s' : Stk} (h : TSit w p sp v vm vl s) (ht : Turned w w' p sp v vm vl s') : tSit w' p s' ∧ (∀ k, tOwn w' p k → tOwn w p k ∨ w.heap.size ≤ k) ∧ Only (tOwn w p) w w' := by
  obtain ⟨v', vm', vl', h1, h2, h3⟩ := ht
  refine ⟨⟨sp, v', vm', vl', h1⟩, fun k hk => ?_, h3.mono fun k _ hk => (h.own k).2 hk⟩
  rcases h2 k ((h1.own k).1 hk) with h4 | h4
  · exact .inl ((h.own k).2 h4)
  · exact .inr h4
/-- first made memory, and then turned -/
theorem Turned.from {w w1 w2 : World} {p sp : Nat} {v vm vl : Value} {s' : Stk} (hb : Below w.heap.size w w1) (ht : Turned w1 w2 p sp v vm vl s') : Turned w w2 p sp v vm vl s' := by
  obtain ⟨v', vm', vl', h1, h2, h3⟩ := ht
  exact ⟨v', vm', vl', h1, fun k hk => (h2 k hk).imp id (fun h => Nat.le_trans hb.size h), (only_beyond hb).trans h3 (fun _ _ h => h)⟩
/-- turned, and then made memory -/
theorem Turned.after {w w1 w2 : World} {p sp : Nat} {v vm vl : Value} {s' : Stk} (ht : Turned w w1 p sp v vm vl s') (hb : Below w1.heap.size w1 w2) : Turned w w2 p sp v vm vl s' := by
  obtain ⟨v', vm', vl', h1, h2, h3⟩ := ht
  exact ⟨v', vm', vl', h1.keep hb, h2, h3.trans (only_beyond (S := fun _ => False) hb) (fun _ _ h => h.elim)⟩
/-- two turns, one behind the other -/
theorem Turned.then {w w1 w2 : World} {p sp : Nat} {v vm vl v' vm' vl' : Value} {s1 s2 : Stk} (_h1 : TSit w1 p sp v' vm' vl' s1) (h2 : ∀ k, TBlk p sp v' vm' vl' k → TBlk p sp v vm vl k ∨ w.heap.size ≤ k) (h3 : Only (TBlk p sp v vm vl) w w1) (ht : Turned w1 w2 p sp v' vm' vl' s2) : Turned w w2 p sp v vm vl s2 := by
  obtain ⟨v'', vm'', vl'', k1, k2, k3⟩ := ht
  refine ⟨v'', vm'', vl'', k1, fun k hk => ?_, h3.trans k3 (fun i hi hk => ?_)⟩
  · rcases k2 k hk with h | h
    · exact h2 k h
    · exact .inr (Nat.le_trans h3.size h)
  · rcases h2 i hk with h | h
    · exact h
    · omega
theorem Turned.same {w w' : World} {p sp : Nat} {v vm vl : Value} {s : Stk} (h : TSit w p sp v vm vl s) (hb : Below w.heap.size w w') : Turned w w' p sp v vm vl s := ⟨v, vm, vl, h.keep hb, fun _ hk => .inl hk, only_beyond hb⟩
end Go.Proofs.YthbdchleppbidaaGreat
/- Package tier: is, held, Mark, New, Points. -/
namespace Go.Proofs.YthbdchleppbidaaGreat
open Go.RowKit

set_option maxHeartbeats 4000000 in
theorem tiis_any (w : World) (t : Int) :
    Calls Tryz.prog 39 #[.int .i64 t] w fun e w' => e = .returned (.bool (decide (0 ≤ t) && decide (t < 3))) ∧ w' = w := by
  by_cases ha : 0 ≤ t
  · have da : decide (0 ≤ t) = true := decide_eq_true ha
    by_cases hb : t < 3
    · have db : decide (t < 3) = true := decide_eq_true hb
      go_enter Tryz.func39, Tryz.ntmps39
      go_wp2
      go_ret
      exact ⟨by rw [da, db]; rfl, rfl⟩
    · have db : decide (t < 3) = false := decide_eq_false hb
      go_enter Tryz.func39, Tryz.ntmps39
      go_wp2
      go_ret
      exact ⟨rfl, rfl⟩
  · have da : decide (0 ≤ t) = false := decide_eq_false ha
    go_enter Tryz.func39, Tryz.ntmps39
    go_wp2
    go_ret
    exact ⟨rfl, rfl⟩
def heldV (t : Int) (vm vl : Value) : Value := if t = 1 then vm else if t = 2 then vl else .slice none 0 0
set_option maxHeartbeats 4000000 in
theorem tiheld_any {w : World} {p sp : Nat} {v vm vl : Value} {s : Stk} (h : TSit w p sp v vm vl s) {t : Int} (h0 : -9223372036854775808 ≤ t) (h1 : t ≤ 9223372036854775807) :
    Calls Tryz.prog 41 #[.pointer (some ⟨p, 0, none⟩), .int .i64 t] w fun e w' => e = .returned (heldV t vm vl) ∧ w' = w := by
  have HI := Lib.hid (tiis_any w t)
  obtain ⟨c0, c1, c2, c3, c4, c5, c6⟩ := h.cells
  clear h
  by_cases hr : 0 ≤ t ∧ t < 3
  · rw [decide_eq_true hr.1, decide_eq_true hr.2] at HI
    have ht : t = 0 ∨ t = 1 ∨ t = 2 := by omega
    clear h0 h1 hr
    rcases ht with rfl | rfl | rfl
    all_goals
      go_enter Tryz.func41, Tryz.ntmps41
      go_wp2_with fail
      refine HI.out.mono ?_
      rintro e w2 ⟨rfl, hw⟩; replace hw := hw.symm; subst hw
      dsimp only
      go_wp2
      go_ret
      exact ⟨rfl, rfl⟩
  · have hE : Hid (heldV t vm vl = .slice none 0 0) := Lib.hid (by unfold heldV; rw [if_neg (by omega), if_neg (by omega)])
    have hF : (decide (0 ≤ t) && decide (t < 3)) = false := by
      by_cases ha : 0 ≤ t
      · rw [decide_eq_false (show ¬ t < 3 by omega), Bool.and_false]
      · rw [decide_eq_false ha, Bool.false_and]
    rw [hF] at HI
    clear hF hr h0 h1
    go_enter Tryz.func41, Tryz.ntmps41
    go_wp2_with fail
    refine HI.out.mono ?_
    rintro e w2 ⟨rfl, hw⟩; replace hw := hw.symm; subst hw
    dsimp only
    go_wp2
    go_ret
    exact ⟨by rw [hE.out]; rfl, rfl⟩
theorem tiheld_none (w : World) (t : Int) : Calls Tryz.prog 41 #[.pointer none, .int .i64 t] w fun e w' => e = .returned (.slice none 0 0) ∧ w' = w := by
  go_enter Tryz.func41, Tryz.ntmps41
  go_wp2
  go_ret
  exact ⟨rfl, rfl⟩
set_option maxHeartbeats 4000000 in
theorem timark_any {w : World} {p sp : Nat} {v vm vl : Value} {s : Stk} (h : TSit w p sp v vm vl s) {t : Int} (h0 : -9223372036854775808 ≤ t) (h1 : t ≤ 9223372036854775807) :
    Calls Tryz.prog 18 #[.pointer (some ⟨p, 0, none⟩), .int .i64 t] w fun e w' => e = .returned (.int .i64 (if t = 1 then s.mm else if t = 2 then s.ml else 0)) ∧ w' = w := by
  have HI := Lib.hid (tiis_any w t)
  obtain ⟨c0, c1, c2, c3, c4, c5, c6⟩ := h.cells
  obtain ⟨M, hM⟩ : ∃ M, M = (if t = 1 then s.mm else if t = 2 then s.ml else 0) := ⟨_, rfl⟩
  rw [← hM]
  clear h
  by_cases hr : 0 ≤ t ∧ t < 3
  · rw [decide_eq_true hr.1, decide_eq_true hr.2] at HI
    have ht : t = 0 ∨ t = 1 ∨ t = 2 := by omega
    clear h0 h1 hr
    rcases ht with rfl | rfl | rfl
    all_goals
      have HM := Lib.hid hM
      clear hM
      go_enter Tryz.func18, Tryz.ntmps18
      go_wp2_with fail
      refine HI.out.mono ?_
      rintro e w2 ⟨rfl, hw⟩; replace hw := hw.symm; subst hw
      dsimp only
      go_wp2
      go_ret
      exact ⟨by rw [HM.out]; rfl, rfl⟩
  · have hE : Hid (M = 0) := Lib.hid (by rw [hM, if_neg (by omega), if_neg (by omega)])
    have hF : (decide (0 ≤ t) && decide (t < 3)) = false := by
      by_cases ha : 0 ≤ t
      · rw [decide_eq_false (show ¬ t < 3 by omega), Bool.and_false]
      · rw [decide_eq_false ha, Bool.false_and]
    rw [hF] at HI
    clear hF hr h0 h1 hM
    go_enter Tryz.func18, Tryz.ntmps18
    go_wp2_with fail
    refine HI.out.mono ?_
    rintro e w2 ⟨rfl, hw⟩; replace hw := hw.symm; subst hw
    dsimp only
    go_wp2
    go_ret
    exact ⟨by rw [hE.out]; rfl, rfl⟩
set_option maxHeartbeats 4000000 in
theorem tinew_any (w : World) : Calls Tryz.prog 24 #[] w fun e w' => ∃ p sp, e = .returned (.pointer (some ⟨p, 0, none⟩)) ∧ TSit w' p sp (.slice none 0 0) (.slice none 0 0) (.slice none 0 0) newS ∧ w.heap.size ≤ p ∧ w.heap.size ≤ sp ∧ Below w.heap.size w w' := by
  have HN := Lib.hid (senew_any w)
  go_enter Tryz.func24, Tryz.ntmps24
  go_wp2_with fail
  refine HN.out.mono ?_
  rintro e W2 ⟨rfl, hs, hb⟩
  have HS := Lib.hid hs
  have HB := Lib.hid hb
  clear hs hb
  dsimp only
  obtain ⟨N, hN⟩ : ∃ N, N = w.heap.size := ⟨_, rfl⟩
  have HNN := Lib.hid hN
  rw [← hN] at HS HB ⊢
  clear hN HN
  go_wp2
  go_ret
  refine ⟨W2.heap.size, N, rfl, ⟨heap_alloc_new W2 _, HS.out.keep ((Below.refl _ W2).alloc (Nat.le_refl _) _), AgRow.nil _ _, AgRow.nil _ _, (by intro k hk; cases hk), GoodT.new⟩, HB.out.size, by rw [HNN.out]; exact Nat.le_refl _, by have h1 := HB.out; rw [HNN.out] at h1 ⊢; exact h1.alloc h1.size _⟩
set_option maxHeartbeats 4000000 in
theorem tipoints_any {w : World} {p sp : Nat} {v vm vl : Value} {s : Stk} (h : TSit w p sp v vm vl s) (a b : Int) :
    Calls Tryz.prog 16 #[.pointer (some ⟨p, 0, none⟩), .agg #[.int .i64 a, .int .i64 b]] w fun e w' => ∃ v', e = .returned v' ∧ PtRowB w.heap.size w' v' (getL s.raw a b) ∧ Below w.heap.size w w' := by
  have HG : Hid (∀ W, Below w.heap.size w W → Calls Tryz.prog 37 #[.pointer (some ⟨sp, 0, none⟩), .agg #[.int .i64 a, .int .i64 b]] W fun e w' => ∃ v', e = .returned v' ∧ PtRowB W.heap.size w' v' (getL s.raw a b) ∧ Below W.heap.size W w') := Lib.hid fun W hb => seget_any (h.ser.keep hb) a b
  obtain ⟨c0, -, -, -, -, -, -⟩ := h.cells
  obtain ⟨G, hG⟩ : ∃ G, G = getL s.raw a b := ⟨_, rfl⟩
  rw [← hG] at HG ⊢
  clear hG h
  go_enter Tryz.func16, Tryz.ntmps16
  go_upto_region 3 with fail
  refine wp_name fun W1 hW1 => ?_
  obtain ⟨P, hP⟩ : ∃ P, P = w.heap.size := ⟨_, rfl⟩
  have hb1 : Below w.heap.size w W1 := by rw [hW1.out]; exact (Below.refl _ _).alloc (Nat.le_refl _) _
  have hR1 : RgAt W1 P a b := by rw [hW1.out, hP]; exact RgAt.new w a b
  have HG1 := Lib.hid (HG.out _ (below_drew hb1))
  have hc1 : W1.cell? ⟨P, 0, none⟩ = some (.int .i64 a) ∧ W1.cell? ⟨P, 1, none⟩ = some (.int .i64 b) ∧ W1.cell? ⟨p, 0, none⟩ = some (.pointer (some ⟨sp, 0, none⟩)) := ⟨hR1.cells.1, hR1.cells.2.1, (hb1.cell (p := ⟨p, 0, none⟩) (cell_lt c0)).trans c0⟩
  have HC := Lib.hid hc1
  have HB1 := Lib.hid hb1
  rw [← hP]
  clear hW1 hb1 hP hR1 hc1 HG c0
  go_region_held3 (fun w' => w'.cell? ⟨P, 0, none⟩ = some (.int .i64 a) ∧ w'.cell? ⟨P, 1, none⟩ = some (.int .i64 b) ∧ w'.cell? ⟨p, 0, none⟩ = some (.pointer (some ⟨sp, 0, none⟩))) (first | exact HC.out | exact HC2.out) ((go_at_call 37; refine (HG1.out).mono ?_; rintro e W2 ⟨v2, rfl, hr2, hb2⟩; have HC2 : Hid (W2.cell? ⟨P, 0, none⟩ = some (.int .i64 a) ∧ W2.cell? ⟨P, 1, none⟩ = some (.int .i64 b) ∧ W2.cell? ⟨p, 0, none⟩ = some (.pointer (some ⟨sp, 0, none⟩))) := Lib.hid ⟨(hb2.cell (p := ⟨P, 0, none⟩) (cell_lt HC.out.1)).trans HC.out.1, (hb2.cell (p := ⟨P, 1, none⟩) (cell_lt HC.out.2.1)).trans HC.out.2.1, (hb2.cell (p := ⟨p, 0, none⟩) (cell_lt HC.out.2.2)).trans HC.out.2.2⟩; have HB2 : Hid (Below w.heap.size w W2) := Lib.hid (HB1.out.trans ((below_drew (Below.refl w.heap.size W1)).trans (hb2.mono HB1.out.size))); have HR2 : Hid (PtRowB w.heap.size W2 v2 G) := Lib.hid (hr2.base HB1.out.size); clear hb2 hr2))
  go_wp2_with fail
  go_ret
  exact ⟨_, rfl, HR2.out, HB2.out⟩
end Go.Proofs.YthbdchleppbidaaGreat
/- Package tier: Aggs. -/
namespace Go.Proofs.YthbdchleppbidaaGreat
open Go.RowKit

/-- the window of an aggregate, and whether it has some of a range -/
theorem met_win {t W m a b : Int} {L : List Ag} (ht : t = 1 ∧ W = 300 ∨ t = 2 ∧ W = 3600) (hg : GoodA W m L) (hm : m ≤ 1099511631376) {x : Ag} (hx : x ∈ L) :
    startW t x.at_ = x.at_ ∧ endW t x.at_ = x.at_ + W ∧ meetsR x.at_ (x.at_ + W) a b = (decide (a < b) && metA W a b x.at_) := by
  obtain ⟨h0, h1, h2⟩ := hg.beg x hx
  have hs : startW t x.at_ = x.at_ := by
    rcases ht with ⟨rfl, rfl⟩ | ⟨rfl, rfl⟩
    · rw [start_mid, if_pos h0]; omega
    · rw [start_long, if_pos h0]; omega
  have hw : hasW t x.at_ = true ∧ widthW t = W := by
    rcases ht with ⟨rfl, rfl⟩ | ⟨rfl, rfl⟩ <;> (unfold hasW widthW; simp [h0])
  have hW : 0 < W ∧ W ≤ 3600 := by omega
  refine ⟨hs, ?_, ?_⟩
  · unfold endW
    rw [if_pos hw.1, hs, hw.2, Int.min_eq_left (by omega)]
  · unfold meetsR metA
    rw [Bool.eq_iff_iff]
    simp only [decide_eq_true_eq, Bool.and_eq_true]
    omega
set_option maxHeartbeats 16000000 in
set_option maxRecDepth 1000000 in
theorem tiaggs_of {w : World} {p sp : Nat} {v vm vl : Value} {s : Stk} (h : TSit w p sp v vm vl s) {t W m : Int} {L : List Ag} {vh : Value} (ht : t = 1 ∧ W = 300 ∨ t = 2 ∧ W = 3600) (hh : heldV t vm vl = vh) (hr : AgRow 0 w vh L) (hg : GoodA W m L) (hm : m ≤ 1099511631376) (a b : Int) :
    Calls Tryz.prog 20 #[.pointer (some ⟨p, 0, none⟩), .int .i64 t, .agg #[.int .i64 a, .int .i64 b]] w fun e w' => ∃ v', e = .returned v' ∧ AgRow w.heap.size w' v' (L.filter fun x => decide (a < b) && metA W a b x.at_) ∧ Below w.heap.size w w' := by
  have ht0 : -9223372036854775808 ≤ t ∧ t ≤ 9223372036854775807 := by omega
  have HHE : Hid (∀ W, Below w.heap.size w W → Calls Tryz.prog 41 #[.pointer (some ⟨p, 0, none⟩), .int .i64 t] W fun e w' => e = .returned vh ∧ w' = W) := Lib.hid fun V hb => by rw [← hh]; exact tiheld_any (h.keep hb) ht0.1 ht0.2
  have HOF : Hid (∀ V x, x ∈ L → Calls Tryz.prog 43 #[.int .i64 t, .int .i64 x.at_] V fun e w' => e = .returned (.agg #[.int .i64 x.at_, .int .i64 (x.at_ + W)]) ∧ Below V.heap.size V w') := Lib.hid fun V x hx => by
    have hf := hg.fits x hx
    have hq := met_win (a := a) (b := b) ht hg hm hx
    have := wiof_any V t x.at_ ht0.1 ht0.2 hf.a0 hf.a1
    rwa [hq.1, hq.2.1] at this
  have HME : Hid (∀ V x, x ∈ L → Calls Tryz.prog 42 #[.agg #[.int .i64 x.at_, .int .i64 (x.at_ + W)], .agg #[.int .i64 a, .int .i64 b]] V fun e w' => e = .returned (.bool (decide (a < b) && metA W a b x.at_)) ∧ Below V.heap.size V w') := Lib.hid fun V x hx => by
    have := wimeets_any V x.at_ (x.at_ + W) a b
    rwa [(met_win (a := a) (b := b) ht hg hm hx).2.2] at this
  have hlen := hg.len
  have HLI := Lib.hid hr.lies
  obtain ⟨ad, cp, rfl⟩ := own_slice hr
  clear hr hh
  obtain ⟨F, hF⟩ : ∃ F, F = fun x : Ag => decide (a < b) && metA W a b x.at_ := ⟨_, rfl⟩
  have HFX : Hid (∀ x, (decide (a < b) && metA W a b x.at_) = F x) := Lib.hid fun x => by rw [hF]
  rw [← hF]
  clear hF hg hm h ht ht0
  go_enter Tryz.func20, Tryz.ntmps20
  go_upto_region 2 with fail
  refine wp_name fun W1 hW1 => ?_
  obtain ⟨R, hR⟩ : ∃ R, R = w.heap.size := ⟨_, rfl⟩
  have hb1 : Below w.heap.size w W1 := by rw [hW1.out]; exact (Below.refl _ _).alloc (Nat.le_refl _) _
  have HR1 : Hid (RgAt W1 R a b) := Lib.hid (by rw [hW1.out, hR]; exact RgAt.new w a b)
  have HB1 := Lib.hid hb1
  have HH1 := Lib.hid (HHE.out W1 hb1)
  have HRL : Hid (R < W1.heap.size) := Lib.hid (lt_of_block HR1.out)
  rw [← hR]
  clear hW1 hb1 hR HHE
  go_wp2_with fail
  refine HH1.out.mono ?_
  rintro e W2 ⟨rfl, hw⟩; replace hw := hw.symm; subst hw
  dsimp only
  go_wp2_with fail
  go_loopw [7, 14] (fun vv c wr => ∃ (k : Nat) (v9 : Value), k ≤ L.length ∧ c = .int .i64 k ∧ v9 = vv ∧ AgRow W1.heap.size wr v9 ((L.take k).filter F) ∧ Below W1.heap.size W1 wr) (fun _ c _ => L.length - (intOf c).toNat)
  case atStart => exact ⟨0, _, Nat.zero_le _, rfl, rfl, by simp only [List.take_zero, List.filter_nil]; exact AgRow.nil _ _, Below.refl _ _⟩
  case round =>
    obtain ⟨k, v9, hk, rfl, rfl, hrow, hbb⟩ := hrel
    obtain ⟨W2, hW2⟩ : ∃ W2, W2 = wr := ⟨_, rfl⟩
    subst hW2
    have HROW2 := Lib.hid hrow
    have HBB2 := Lib.hid hbb
    have HB2 : Hid (Below w.heap.size w W2) := Lib.hid (HB1.out.trans (hbb.mono HB1.out.size))
    clear hrow hbb
    by_cases hlt : k < L.length
    · obtain ⟨x, hx⟩ : ∃ x, L[k]? = some x := ⟨L[k], List.getElem?_eq_getElem hlt⟩
      have HXM := Lib.hid (List.mem_of_getElem? hx)
      have HOX := Lib.hid fun V => HOF.out V x HXM.out
      have HMX : Hid (∀ V, Calls Tryz.prog 42 #[.agg #[.int .i64 x.at_, .int .i64 (x.at_ + W)], .agg #[.int .i64 a, .int .i64 b]] V fun e w' => e = .returned (.bool (F x)) ∧ Below V.heap.size V w') := Lib.hid fun V => by rw [← HFX.out]; exact HME.out V x HXM.out
      obtain ⟨Z, hZ⟩ : ∃ Z, Z = x.at_ + W := ⟨_, rfl⟩
      rw [← hZ] at HOX HMX
      clear hZ
      have hly : ALies W2 (.slice ad L.length cp) L := HLI.out.beyond HB2.out
      obtain ⟨a', b', off, cap, e1, hadr, hpts⟩ := hly
      injection e1 with e1 e2 e3
      have ea := hadr (by intro h0; simp [h0] at hlt)
      rw [← e1] at ea
      subst ea
      obtain ⟨c0, c1, c2, c3, c4⟩ := hpts k x hx
      have HXK := Lib.hid hx
      clear hx hadr hpts e1 e2 e3
      go_upto_region 5 with fail
      refine wp_name fun W3 hW3 => ?_
      obtain ⟨M, hM⟩ : ∃ M, M = W2.heap.size := ⟨_, rfl⟩
      have hb3 : Below W2.heap.size W2 W3 := by rw [hW3.out]; exact (Below.refl _ _).alloc (Nat.le_refl _) _
      have HM3 : Hid (AgAt W3 M x) := Lib.hid (by rw [hW3.out, hM]; exact AgAt.new W2 x)
      have HROW3 := Lib.hid (HROW2.out.keep hb3)
      have HBB3 := Lib.hid (HBB2.out.trans (hb3.mono HBB2.out.size))
      rw [← hM]
      clear hb3 hW3 hM HROW2 HB2 HBB2 c0 c1 c2 c3 c4
      have hc3 : W3.cell? ⟨R, 0, none⟩ = some (.int .i64 a) ∧ W3.cell? ⟨R, 1, none⟩ = some (.int .i64 b) ∧ W3.cell? ⟨M, 0, none⟩ = some (.int .i64 x.at_) := ⟨(HBB3.out.cell (p := ⟨R, 0, none⟩) HRL.out).trans HR1.out.cells.1, (HBB3.out.cell (p := ⟨R, 1, none⟩) HRL.out).trans HR1.out.cells.2.1, HM3.out.cells.c0⟩
      have HC3 := Lib.hid hc3
      clear hc3
      go_region_held3 (fun w' => w'.cell? ⟨R, 0, none⟩ = some (.int .i64 a) ∧ w'.cell? ⟨R, 1, none⟩ = some (.int .i64 b) ∧ w'.cell? ⟨M, 0, none⟩ = some (.int .i64 x.at_)) (first | exact HC3.out | exact HC4.out | exact HC5.out) ((first | (go_at_call 43; refine (HOX.out W3.drew).mono ?_; rintro e W4 ⟨rfl, hb4⟩; have HC4 : Hid (W4.cell? ⟨R, 0, none⟩ = some (.int .i64 a) ∧ W4.cell? ⟨R, 1, none⟩ = some (.int .i64 b) ∧ W4.cell? ⟨M, 0, none⟩ = some (.int .i64 x.at_)) := Lib.hid ⟨(hb4.cell (p := ⟨R, 0, none⟩) (cell_lt HC3.out.1)).trans HC3.out.1, (hb4.cell (p := ⟨R, 1, none⟩) (cell_lt HC3.out.2.1)).trans HC3.out.2.1, (hb4.cell (p := ⟨M, 0, none⟩) (cell_lt HC3.out.2.2)).trans HC3.out.2.2⟩; have HB4 : Hid (Below W3.heap.size W3 W4) := Lib.hid ((below_drew (Below.refl W3.heap.size W3)).trans hb4); clear hb4) | (go_at_call 42; refine (HMX.out _).mono ?_; rintro e W5 ⟨rfl, hb5⟩; have HB5 : Hid (Below W3.heap.size W3 W5) := Lib.hid (HB4.out.trans (hb5.mono HB4.out.size)); have HC5 : Hid (W5.cell? ⟨R, 0, none⟩ = some (.int .i64 a) ∧ W5.cell? ⟨R, 1, none⟩ = some (.int .i64 b) ∧ W5.cell? ⟨M, 0, none⟩ = some (.int .i64 x.at_)) := Lib.hid ⟨(HB5.out.cell (p := ⟨R, 0, none⟩) (cell_lt HC3.out.1)).trans HC3.out.1, (HB5.out.cell (p := ⟨R, 1, none⟩) (cell_lt HC3.out.2.1)).trans HC3.out.2.1, (HB5.out.cell (p := ⟨M, 0, none⟩) (cell_lt HC3.out.2.2)).trans HC3.out.2.2⟩; clear hb5)))
      have HM5 := Lib.hid (HM3.out.keep HB5.out)
      have HROW5 := Lib.hid (HROW3.out.keep HB5.out)
      have HBB6 := Lib.hid (HBB3.out.trans (HB5.out.mono HBB3.out.size))
      clear HC3 HC4 HC5 HB4 HB5 HM3 HROW3 HBB3
      cases hf : F x with
      | true =>
        have HNX : Hid ((L.take (k + 1)).filter F = (L.take k).filter F ++ [x]) := Lib.hid (by rw [take_snoc HXK.out, List.filter_append, List.filter_cons_of_pos hf]; rfl)
        have HLT : Hid (((L.take k).filter F).length ≤ 256) := Lib.hid (Nat.le_trans (List.length_filter_le _ _) (by rw [List.length_take]; omega))
        clear hf
        obtain ⟨c0, c1, c2, c3, c4, -, -, -, -, -⟩ := HM5.out.cells
        have HNEW := Lib.hid (AgAt.new W5 x)
        have HRW := Lib.hid (HROW5.out.keep ((Below.refl W5.heap.size W5).alloc (Nat.le_refl _) (.cells #[.int .i64 x.at_, .int .i64 x.n, .int .i64 x.s, .int .i64 x.lo, .int .i64 x.hi] 55)))
        have HBX := Lib.hid (HBB6.out.alloc HBB6.out.size (.cells #[.int .i64 x.at_, .int .i64 x.n, .int .i64 x.s, .int .i64 x.lo, .int .i64 x.hi] 55))
        have hmax : k < 9223372036854775807 := by omega
        go_wp2_with (at_builtin; refine wpList_append_ag rfl (.tmp 24) (.tmp 26) rfl W1.heap.size _ _ rfl HRW.out W5.heap.size x rfl HNEW.out (by have := HLT.out; omega) HBX.out.size ?_; intro v10 W10 HROW10 hgrow; have HBB10 : Hid (Below W1.heap.size W1 W10) := Lib.hid (HBX.out.grown hgrow.out HBX.out.size (fun b hb => (HRW.out.lt b hb).1)); clear hgrow)
        go_roundw
        case rel => exact ⟨k + 1, _, by omega, by go_num, rfl, by rw [HNX.out]; exact HROW10.out, HBB10.out⟩
        case measure => simp [intOf]; omega
      | false =>
        have HNX : Hid ((L.take (k + 1)).filter F = (L.take k).filter F) := Lib.hid (by rw [take_snoc HXK.out, List.filter_append, List.filter_cons_of_neg (by rw [hf]; simp)]; simp)
        clear hf
        have hmax : k < 9223372036854775807 := by omega
        go_wp2_with fail
        go_roundw
        case rel => exact ⟨k + 1, _, by omega, by go_num, rfl, by rw [HNX.out]; exact HROW5.out, HBB6.out⟩
        case measure => simp [intOf]; omega
    · obtain rfl : k = L.length := by omega
      have HEND : Hid ((L.take L.length).filter F = L.filter F) := Lib.hid (by rw [List.take_length])
      go_wp2_with fail
      go_ret
      exact ⟨_, rfl, by rw [← HEND.out]; exact HROW2.out.base HB1.out.size, HB2.out⟩
theorem tiaggs_mid {w : World} {p sp : Nat} {v vm vl : Value} {s : Stk} (h : TSit w p sp v vm vl s) (a b : Int) :
    Calls Tryz.prog 20 #[.pointer (some ⟨p, 0, none⟩), .int .i64 1, .agg #[.int .i64 a, .int .i64 b]] w fun e w' => ∃ v', e = .returned v' ∧ AgRow w.heap.size w' v' (s.mid.filter fun x => decide (a < b) && metA 300 a b x.at_) ∧ Below w.heap.size w w' :=
  tiaggs_of h (.inl ⟨rfl, rfl⟩) rfl h.mid h.good.mid h.good.mm.2.1 a b
theorem tiaggs_long {w : World} {p sp : Nat} {v vm vl : Value} {s : Stk} (h : TSit w p sp v vm vl s) (a b : Int) :
    Calls Tryz.prog 20 #[.pointer (some ⟨p, 0, none⟩), .int .i64 2, .agg #[.int .i64 a, .int .i64 b]] w fun e w' => ∃ v', e = .returned v' ∧ AgRow w.heap.size w' v' (s.long.filter fun x => decide (a < b) && metA 3600 a b x.at_) ∧ Below w.heap.size w w' :=
  tiaggs_of h (.inr ⟨rfl, rfl⟩) rfl h.long h.good.long (by have := h.good.ml; have := h.good.mm; omega) a b
end Go.Proofs.YthbdchleppbidaaGreat
/- A slice of acts on a stock that came in, opened. -/
namespace Go.Proofs.YthbdchleppbidaaGreat
open Go.RowKit Go.Deep Go.ChangeShapes Go.WideShapes

set_option maxRecDepth 1000000 in
/-- a cell that is a slice of points -/
theorem open_ptc {H : Type} {enc : TypeId × Value → H} {W : World} {spare : Nat → Bool} {held : Bool} {fuel : Nat} {cs : List Value} {x : DataW H × List MemPlace} (h : DataW.trod enc Tryz.prog W 0 spare held fuel 44 cs = some x) :
    ∃ u l, cs = [u] ∧ PLies W u l ∧ Fits u ∧ (∀ p ∈ l, p.fits) ∧ l.length ≤ maxLen := by
  rcases open_slice Tryz.underlying44 h with ⟨rfl, _⟩ | ⟨ad, len, cap, m, n, D, Pl, rfl, _, hl, hm, hmm, _, hel⟩
  · exact ⟨_, [], rfl, ⟨none, 0, 0, 0, rfl, fun h => absurd rfl h, fun i t h => by simp at h⟩, fits_slice (Nat.le_refl _), fun t h => by simp at h, by simp⟩
  · have hlm : len ≤ m := by rw [hmm]; split <;> omega
    have each : ∀ i, i < len → ∃ t : Pt, (∀ j u, t.cells[j]? = some u → W.cell? ((ad.add (i * 2)).add j) = some u) ∧ t.fits := by
      intro i hi
      obtain ⟨cs', h1, h2⟩ := hel i (by omega)
      rw [cellsPt] at h1
      obtain ⟨_, hlen, hc⟩ := World.cells?_some h1
      obtain ⟨y0, y1, n', _, _, t0, t1⟩ := trod_struct2 Tryz.underlying47 h2
      simp only [cellsI64] at t0 t1
      match cs', hlen with
      | [u0, u1], _ =>
        obtain ⟨z0, e0, _, w0⟩ := DataW.trod_int Tryz.underlying2 t0
        obtain ⟨z1, e1, _, w1⟩ := DataW.trod_int Tryz.underlying2 t1
        simp at e0 e1
        have b0 := bounds_i64 w0
        have b1 := bounds_i64 w1
        refine ⟨⟨z0, z1⟩, fun j u hu => ?_, b0.1, b0.2, b1.1, b1.2⟩
        simp only [Pt.cells] at hu
        have hj : j < 2 := by have := (List.getElem?_eq_some_iff.1 hu).1; simpa using this
        rw [hc j hj, ← hu, e0, e1]
    obtain ⟨T, hT⟩ := choose_lt each
    have hget : ∀ i t, ((List.range len).map T)[i]? = some t → i < len ∧ t = T i := by
      intro i t h
      by_cases hi : i < len
      · simp [hi] at h; exact ⟨hi, h.symm⟩
      · simp [hi] at h
    have hin : ∀ t ∈ (List.range len).map T, t.fits := by
      intro t ht
      obtain ⟨i, hi, rfl⟩ := List.mem_map.1 ht
      exact (hT i (List.mem_range.1 hi)).2
    have hlen : ((List.range len).map T).length = len := by simp
    rcases Nat.eq_zero_or_pos len with h0 | h0
    · subst h0
      exact ⟨_, [], rfl, ⟨some ad, 0, 0, cap, rfl, fun h => absurd rfl h, fun i t h => by simp at h⟩, fits_slice hl, fun t h => by simp at h, by simp⟩
    · obtain ⟨b, off, spot⟩ := ad
      have hc0 := (hT 0 h0).1 0 _ rfl
      have hspot : spot = none := by simpa [Addr.add] using World.cell?_spot hc0
      subst hspot
      refine ⟨_, (List.range len).map T, rfl, ⟨_, b, off, cap, by rw [hlen], fun _ => rfl, fun i t ht => ?_⟩, fits_slice hl, hin, by rw [hlen]; omega⟩
      obtain ⟨hi, rfl⟩ := hget i t ht
      have h0 := (hT i hi).1 0 _ rfl
      have h1 := (hT i hi).1 1 _ rfl
      rw [add_plain, add_plain] at h0 h1
      exact ⟨h0, h1⟩
/-- an act, as it lies -/
def TActAt (W : World) (b off : Nat) (x : TActL) : Prop :=
  ∃ u, W.cell? ⟨b, off, none⟩ = some (.int .i64 x.kind) ∧ W.cell? ⟨b, off + 1, none⟩ = some (.int .i64 x.at_) ∧ W.cell? ⟨b, off + 2, none⟩ = some u ∧ W.cell? ⟨b, off + 3, none⟩ = some (.int .i64 x.a) ∧ W.cell? ⟨b, off + 4, none⟩ = some (.int .i64 x.b) ∧ PLies W u x.l ∧ Fits u
/-- numbers that may be -/
structure TActL.In (x : TActL) : Prop where
  k0 : -9223372036854775808 ≤ x.kind
  k1 : x.kind ≤ 9223372036854775807
  t0 : -9223372036854775808 ≤ x.at_
  t1 : x.at_ ≤ 9223372036854775807
  pts : ∀ p ∈ x.l, p.fits
  len : x.l.length ≤ maxLen
  a0 : -9223372036854775808 ≤ x.a
  a1 : x.a ≤ 9223372036854775807
  b0 : -9223372036854775808 ≤ x.b
  b1 : x.b ≤ 9223372036854775807
def TActsAt (W : World) (v : Value) (L : List TActL) : Prop := ∃ a b off c, v = .slice a L.length c ∧ (L ≠ [] → a = some ⟨b, off, none⟩) ∧ ∀ i x, L[i]? = some x → TActAt W b (off + i * 5) x
theorem TActAt.keep {W W' : World} {b off : Nat} {x : TActL} (h : TActAt W b off x) (hb : Below W.heap.size W W') : TActAt W' b off x := by
  obtain ⟨u, h0, h1, h2, h3, h4, h5, h6⟩ := h
  have k : ∀ o v, W.cell? ⟨b, o, none⟩ = some v → W'.cell? ⟨b, o, none⟩ = some v := fun o v hv => (hb.cell (p := ⟨b, o, none⟩) (cell_lt hv)).trans hv
  exact ⟨u, k _ _ h0, k _ _ h1, k _ _ h2, k _ _ h3, k _ _ h4, h5.beyond hb, h6⟩
theorem TActAt.beyondT {W W' : World} {b off : Nat} {x : TActL} (h : TActAt W b off x) (hb : Below W.heap.size W W') : TActAt W' b off x := h.keep hb
theorem TActsAt.keep {W W' : World} {v : Value} {L : List TActL} (h : TActsAt W v L) (hb : Below W.heap.size W W') : TActsAt W' v L := by
  obtain ⟨a, b, off, c, h1, h2, h3⟩ := h
  exact ⟨a, b, off, c, h1, h2, fun i x hx => (h3 i x hx).keep hb⟩
section
variable {H : Type} {enc : TypeId × Value → H} {w : World} {base : Nat} {spare : Nat → Bool} {held : Bool} {P : Program}
theorem trod_structT4 {t : TypeId} {f0 f1 f2 f3 : Field} {fuel : Nat} {cs : List Value} {x : DataW H × List MemPlace} (ht : P.underlying t = some (.struct #[f0, f1, f2, f3])) (h : DataW.trod enc P w base spare held fuel t cs = some x) :
    ∃ y0 y1 y2 y3 n, DataW.trod enc P w base spare held n f0.type ((cs.drop f0.offset).take (P.cellsOf f0.type)) = some y0 ∧ DataW.trod enc P w base spare held n f1.type ((cs.drop f1.offset).take (P.cellsOf f1.type)) = some y1 ∧
      DataW.trod enc P w base spare held n f2.type ((cs.drop f2.offset).take (P.cellsOf f2.type)) = some y2 ∧ DataW.trod enc P w base spare held n f3.type ((cs.drop f3.offset).take (P.cellsOf f3.type)) = some y3 := by
  obtain ⟨xs, n, _, rfl, hl, hlen, hf⟩ := DataW.trod_struct ht h
  match xs, hlen with
  | [y0, y1, y2, y3], _ => exact ⟨y0, y1, y2, y3, n, by simpa using hf 0 f0 rfl, by simpa using hf 1 f1 rfl, by simpa using hf 2 f2 rfl, by simpa using hf 3 f3 rfl⟩
end
theorem cellsTAct : Tryz.prog.cellsOf 70 = 5 := by kernel_rfl
theorem cellsTi : Tryz.prog.cellsOf 3 = 1 := by kernel_rfl
theorem cellsTl : Tryz.prog.cellsOf 44 = 1 := by kernel_rfl
theorem cellsTr : Tryz.prog.cellsOf 41 = 2 := by kernel_rfl
set_option maxRecDepth 1000000 in
theorem open_tacts {H : Type} {enc : TypeId × Value → H} {W : World} {spare : Nat → Bool} {held : Bool} {v : Value} {d : DataW H} {ps : List MemPlace} {r : Reach} {b0 : Nat} (hval : Value.okWide Tryz.prog W r b0 22 v)
    (hd : DataW.Trod enc Tryz.prog W 0 spare held 22 v d ps) : ∃ L : List TActL, TActsAt W v L ∧ (∀ x ∈ L, x.In) ∧ L.length ≤ maxLen := by
  obtain ⟨a, len, cap, rfl⟩ := okWide_slice Tryz.underlying22 hval
  obtain ⟨fuel, hf⟩ := hd
  rcases open_slice Tryz.underlying22 hf with ⟨hcs, _⟩ | ⟨ad, len', cap', m, n, D, Pl, hcs, _, hl, hm, hmm, _, hel⟩
  · simp [Value.cells] at hcs
    obtain ⟨rfl, rfl, rfl⟩ := hcs
    exact ⟨[], ⟨none, 0, 0, 0, rfl, fun h => absurd rfl h, fun i x h => by simp at h⟩, fun x h => by simp at h, by simp⟩
  · simp [Value.cells] at hcs
    obtain ⟨rfl, rfl, rfl⟩ := hcs
    have hlm : len ≤ m := by rw [hmm]; split <;> omega
    have each : ∀ i, i < len → ∃ x : TActL, (∃ u, W.cell? ((ad.add (i * 5)).add 0) = some (.int .i64 x.kind) ∧ W.cell? ((ad.add (i * 5)).add 1) = some (.int .i64 x.at_) ∧ W.cell? ((ad.add (i * 5)).add 2) = some u ∧ W.cell? ((ad.add (i * 5)).add 3) = some (.int .i64 x.a) ∧ W.cell? ((ad.add (i * 5)).add 4) = some (.int .i64 x.b) ∧ PLies W u x.l ∧ Fits u) ∧ x.In := by
      intro i hi
      obtain ⟨cs', h1, h2⟩ := hel i (by omega)
      rw [cellsTAct] at h1
      obtain ⟨_, hlen, hc⟩ := World.cells?_some h1
      obtain ⟨y0, y1, y2, y3, n', t0, t1, t2, t3⟩ := trod_structT4 Tryz.underlying70 h2
      simp only [cellsTi, cellsI64, cellsTl, cellsTr] at t0 t1 t2 t3
      match cs', hlen with
      | [u0, u1, u2, u3, u4], _ =>
        obtain ⟨z0, e0, _, w0⟩ := DataW.trod_int Tryz.underlying3 t0
        obtain ⟨z1, e1, _, w1⟩ := DataW.trod_int Tryz.underlying2 t1
        obtain ⟨u, l, e2, h3, h4, h5, h6⟩ := open_ptc t2
        obtain ⟨x0, x1, nn, _, _, s0, s1⟩ := trod_struct2 Tryz.underlying41 t3
        simp only [cellsI64] at s0 s1
        obtain ⟨z3, e3, _, w3⟩ := DataW.trod_int Tryz.underlying2 s0
        obtain ⟨z4, e4, _, w4⟩ := DataW.trod_int Tryz.underlying2 s1
        simp at e0 e1 e2 e3 e4
        subst e0 e1 e2 e3 e4
        refine ⟨⟨z0, z1, l, z3, z4⟩, ⟨u2, hc 0 (by omega), hc 1 (by omega), hc 2 (by omega), hc 3 (by omega), hc 4 (by omega), h3, h4⟩, ⟨(bounds_i64 w0).1, (bounds_i64 w0).2, (bounds_i64 w1).1, (bounds_i64 w1).2, h5, h6, (bounds_i64 w3).1, (bounds_i64 w3).2, (bounds_i64 w4).1, (bounds_i64 w4).2⟩⟩
    haveI : Inhabited TActL := ⟨⟨0, 0, [], 0, 0⟩⟩
    obtain ⟨T, hT⟩ := choose_lt each
    have hget : ∀ i t, ((List.range len).map T)[i]? = some t → i < len ∧ t = T i := by
      intro i t h
      by_cases hi : i < len
      · simp [hi] at h; exact ⟨hi, h.symm⟩
      · simp [hi] at h
    have hin : ∀ t ∈ (List.range len).map T, t.In := by
      intro t ht
      obtain ⟨i, hi, rfl⟩ := List.mem_map.1 ht
      exact (hT i (List.mem_range.1 hi)).2
    have hlen : ((List.range len).map T).length = len := by simp
    rcases Nat.eq_zero_or_pos len with h0 | h0
    · subst h0
      exact ⟨[], ⟨some ad, 0, 0, cap, rfl, fun h => absurd rfl h, fun i t h => by simp at h⟩, fun t h => by simp at h, by simp⟩
    · obtain ⟨b, off, spot⟩ := ad
      obtain ⟨⟨u, hc0, _⟩, _⟩ := hT 0 h0
      have hspot : spot = none := by simpa [Addr.add] using World.cell?_spot hc0
      subst hspot
      refine ⟨(List.range len).map T, ⟨_, b, off, cap, by rw [hlen], fun _ => rfl, fun i x hx => ?_⟩, hin, by rw [hlen]; omega⟩
      obtain ⟨hi, rfl⟩ := hget i x hx
      obtain ⟨⟨u, k0, k1, k2, k3, k4, k5, k6⟩, _⟩ := hT i hi
      have hadd : ∀ j, ((⟨b, off, none⟩ : Addr).add (i * 5)).add j = ⟨b, off + i * 5 + j, none⟩ := fun j => by rw [add_plain, add_plain]
      rw [hadd] at k0 k1 k2 k3 k4
      exact ⟨u, k0, k1, k2, k3, k4, k5, k6⟩
end Go.Proofs.YthbdchleppbidaaGreat
/- What package tier does, as a structure: the laws are walked over it. -/
namespace Go.Proofs.YthbdchleppbidaaGreat
open Go.RowKit

/-- what Put tells -/
def putR (s : Stk) (l : List Pt) : Int × Int := if l.any (fun p => decide (p.a < s.mm)) = true then (0, 14) else if l.any offT = true then (0, 3) else if 256 < (putL s.raw l).length then (0, 6) else (((putL s.raw l).length : Int) - s.raw.length, 0)
theorem putR_ok {s : Stk} {l : List Pt} : (putR s l).2 = 0 ↔ putBad s l = false := by
  unfold putR putBad
  by_cases h1 : l.any (fun p => decide (p.a < s.mm)) = true
  · rw [if_pos h1, h1]; simp
  · rw [if_neg h1]
    by_cases h2 : l.any offT = true
    · rw [if_pos h2, h2]; simp
    · rw [if_neg h2]
      by_cases h3 : 256 < (putL s.raw l).length
      · rw [if_pos h3, decide_eq_true h3]; simp
      · rw [if_neg h3, decide_eq_false h3]
        simp only [Bool.or_false, true_iff]
        rw [Bool.or_eq_false_iff]
        exact ⟨by simpa using h1, by simpa using h2⟩
/-- what Roll tells -/
def rollR (s : Stk) (now : Int) : Int × Int :=
  if 0 ≤ now ∧ now ≤ 1099511627776 then (((rollS s now).mid.length : Int) - s.mid.length + ((rollS s now).long.length - s.long.length), if 256 < s.mid.length + (midG s now).length ∨ 256 < s.long.length + (longR s now).length then 6 else 0) else (0, 3)
def goneR (s : Stk) (a b : Int) : Int := if rightT a b = true then goneT s a b else 0
/-- what Aggs tells -/
def aggsT (s : Stk) (t a b : Int) : List Ag := if t = 1 then s.mid.filter (fun x => decide (a < b) && metA 300 a b x.at_) else if t = 2 then s.long.filter (fun x => decide (a < b) && metA 3600 a b x.at_) else []
def markT (s : Stk) (t : Int) : Int := if t = 1 then s.mm else if t = 2 then s.ml else 0
structure TierD where
  sit : World → Nat → Stk → Prop
  own : World → Nat → Nat → Prop
  good : ∀ {w : World} {p : Nat} {s : Stk}, sit w p s → GoodT s
  lt : ∀ {w : World} {p : Nat} {s : Stk} {k : Nat}, sit w p s → own w p k → k < w.heap.size
  keep : ∀ {S : Nat → Prop} {w w' : World} {p : Nat} {s : Stk}, sit w p s → Only S w w' → (∀ k, own w p k → ¬ S k) → sit w' p s ∧ ∀ k, own w' p k → own w p k
  new_ : ∀ w : World, Calls Tryz.prog 24 #[] w fun e w' => ∃ p, e = .returned (.pointer (some ⟨p, 0, none⟩)) ∧ sit w' p newS ∧ (∀ k, own w' p k → w.heap.size ≤ k) ∧ Below w.heap.size w w'
  put : ∀ {w : World} {p : Nat} {s : Stk} {v : Value} {l : List Pt}, sit w p s → PLies w v l → (∀ x ∈ l, x.fits) → l.length ≤ 1000000 →
    Calls Tryz.prog 25 #[.pointer (some ⟨p, 0, none⟩), v] w fun e w' => e = .returned (.tuple #[.int .i64 (putR s l).1, .int .i64 (putR s l).2]) ∧ sit w' p (putT s l) ∧ (∀ k, own w' p k → own w p k ∨ w.heap.size ≤ k) ∧ Only (own w p) w w'
  roll : ∀ {w : World} {p : Nat} {s : Stk} {now : Int}, sit w p s → -9223372036854775808 ≤ now → now ≤ 9223372036854775807 →
    Calls Tryz.prog 26 #[.pointer (some ⟨p, 0, none⟩), .int .i64 now] w fun e w' => e = .returned (.tuple #[.int .i64 (rollR s now).1, .int .i64 (rollR s now).2]) ∧ sit w' p (rollT s now) ∧ (∀ k, own w' p k → own w p k ∨ w.heap.size ≤ k) ∧ Only (own w p) w w'
  purge : ∀ {w : World} {p : Nat} {s : Stk} {a b : Int}, sit w p s → -9223372036854775808 ≤ a → a ≤ 9223372036854775807 → -9223372036854775808 ≤ b → b ≤ 9223372036854775807 →
    Calls Tryz.prog 28 #[.pointer (some ⟨p, 0, none⟩), .agg #[.int .i64 a, .int .i64 b]] w fun e w' => e = .returned (.int .i64 (goneR s a b)) ∧ sit w' p (purgeT s a b) ∧ (∀ k, own w' p k → own w p k ∨ w.heap.size ≤ k) ∧ Only (own w p) w w'
  points : ∀ {w : World} {p : Nat} {s : Stk} {a b : Int}, sit w p s → -9223372036854775808 ≤ a → a ≤ 9223372036854775807 → -9223372036854775808 ≤ b → b ≤ 9223372036854775807 →
    Calls Tryz.prog 16 #[.pointer (some ⟨p, 0, none⟩), .agg #[.int .i64 a, .int .i64 b]] w fun e w' => ∃ v', e = .returned v' ∧ PtRowB w.heap.size w' v' (getL s.raw a b) ∧ Below w.heap.size w w'
  aggs : ∀ {w : World} {p : Nat} {s : Stk} {t a b : Int}, sit w p s → -9223372036854775808 ≤ t → t ≤ 9223372036854775807 → -9223372036854775808 ≤ a → a ≤ 9223372036854775807 → -9223372036854775808 ≤ b → b ≤ 9223372036854775807 →
    Calls Tryz.prog 20 #[.pointer (some ⟨p, 0, none⟩), .int .i64 t, .agg #[.int .i64 a, .int .i64 b]] w fun e w' => ∃ v', e = .returned v' ∧ AgRow w.heap.size w' v' (aggsT s t a b) ∧ Below w.heap.size w w'
  mark : ∀ {w : World} {p : Nat} {s : Stk} {t : Int}, sit w p s → -9223372036854775808 ≤ t → t ≤ 9223372036854775807 →
    Calls Tryz.prog 18 #[.pointer (some ⟨p, 0, none⟩), .int .i64 t] w fun e w' => e = .returned (.int .i64 (markT s t)) ∧ Below w.heap.size w w'
/-! ### One stock, and two of them, over calls -/
/-- a stock, all of whose blocks are at B or behind -/
structure OneS (D : TierD) (B : Nat) (w : World) (p : Nat) (s : Stk) : Prop where
  sit : D.sit w p s
  base : ∀ k, D.own w p k → B ≤ k
theorem OneS.keep {D : TierD} {B p : Nat} {w w' : World} {s : Stk} (h : OneS D B w p s) (hb : Below w.heap.size w w') : OneS D B w' p s := by
  obtain ⟨h1, h2⟩ := D.keep h.sit (only_beyond (S := fun _ => False) hb) (fun _ _ h => h)
  exact ⟨h1, fun k hk => h.base k (h2 k hk)⟩
theorem OneS.step {D : TierD} {B p : Nat} {w w' : World} {s s' : Stk} (h : OneS D B w p s) (hB : B ≤ w.heap.size) (h1 : D.sit w' p s') (h2 : ∀ k, D.own w' p k → D.own w p k ∨ w.heap.size ≤ k) (h3 : Only (D.own w p) w w') : OneS D B w' p s' ∧ Below B w w' :=
  ⟨⟨h1, fun k hk => by rcases h2 k hk with h4 | h4; exact h.base k h4; omega⟩, h3.below hB h.base⟩
structure TwoS (D : TierD) (B : Nat) (w : World) (p : Nat) (s : Stk) (q : Nat) (t : Stk) : Prop where
  fst : OneS D B w p s
  snd : OneS D B w q t
  apart : ∀ k, D.own w p k → ¬ D.own w q k
theorem TwoS.turn {D : TierD} {B p q : Nat} {w : World} {s t : Stk} (h : TwoS D B w p s q t) : TwoS D B w q t p s := ⟨h.snd, h.fst, fun k hk hk' => h.apart k hk' hk⟩
theorem TwoS.keep {D : TierD} {B p q : Nat} {w w' : World} {s t : Stk} (h : TwoS D B w p s q t) (hb : Below w.heap.size w w') : TwoS D B w' p s q t := by
  obtain ⟨h1, h2⟩ := D.keep h.fst.sit (only_beyond (S := fun _ => False) hb) (fun _ _ h => h)
  obtain ⟨k1, k2⟩ := D.keep h.snd.sit (only_beyond (S := fun _ => False) hb) (fun _ _ h => h)
  exact ⟨h.fst.keep hb, h.snd.keep hb, fun k hk hk' => h.apart k (h2 k hk) (k2 k hk')⟩
theorem TwoS.step {D : TierD} {B p q : Nat} {w w' : World} {s s' t : Stk} (h : TwoS D B w p s q t) (hB : B ≤ w.heap.size) (h1 : D.sit w' p s') (h2 : ∀ k, D.own w' p k → D.own w p k ∨ w.heap.size ≤ k) (h3 : Only (D.own w p) w w') : TwoS D B w' p s' q t ∧ Below B w w' := by
  obtain ⟨a1, a2⟩ := h.fst.step hB h1 h2 h3
  obtain ⟨k1, k2⟩ := D.keep h.snd.sit h3 (fun k hk hk' => h.apart k hk' hk)
  refine ⟨⟨a1, ⟨k1, fun k hk => h.snd.base k (k2 k hk)⟩, fun k hk hk' => ?_⟩, a2⟩
  have hq := k2 k hk'
  rcases h2 k hk with h4 | h4
  · exact h.apart k h4 hq
  · have := D.lt h.snd.sit hq; omega
theorem OneS.two {D : TierD} {B p q : Nat} {w w' : World} {s t : Stk} (h : OneS D B w p s) (hB : B ≤ w.heap.size) (hb : Below w.heap.size w w') (h1 : D.sit w' q t) (h2 : ∀ k, D.own w' q k → w.heap.size ≤ k) : TwoS D B w' p s q t := by
  obtain ⟨k1, k2⟩ := D.keep h.sit (only_beyond (S := fun _ => False) hb) (fun _ _ h => h)
  refine ⟨h.keep hb, ⟨h1, fun k hk => Nat.le_trans hB (h2 k hk)⟩, fun k hk hk' => ?_⟩
  have := D.lt h.sit (k2 k hk)
  have := h2 k hk'
  omega
/-- two stocks, and a range in a block of its own -/
structure PairS (D : TierD) (B : Nat) (w : World) (p : Nat) (s : Stk) (q : Nat) (t : Stk) (R : Nat) (a b : Int) : Prop where
  two : TwoS D B w p s q t
  all : RgAt w R a b
  n1 : ¬ D.own w p R
  n2 : ¬ D.own w q R
theorem PairS.turn {D : TierD} {B p q R : Nat} {w : World} {s t : Stk} {a b : Int} (h : PairS D B w p s q t R a b) : PairS D B w q t p s R a b := ⟨h.two.turn, h.all, h.n2, h.n1⟩
theorem PairS.keep {D : TierD} {B p q R : Nat} {w w' : World} {s t : Stk} {a b : Int} (h : PairS D B w p s q t R a b) (hb : Below w.heap.size w w') : PairS D B w' p s q t R a b := by
  obtain ⟨_, h2⟩ := D.keep h.two.fst.sit (only_beyond (S := fun _ => False) hb) (fun _ _ h => h)
  obtain ⟨_, k2⟩ := D.keep h.two.snd.sit (only_beyond (S := fun _ => False) hb) (fun _ _ h => h)
  exact ⟨h.two.keep hb, h.all.keep hb, fun hk => h.n1 (h2 R hk), fun hk => h.n2 (k2 R hk)⟩
theorem PairS.step {D : TierD} {B p q R : Nat} {w w' : World} {s s' t : Stk} {a b : Int} (h : PairS D B w p s q t R a b) (hB : B ≤ w.heap.size) (h1 : D.sit w' p s') (h2 : ∀ k, D.own w' p k → D.own w p k ∨ w.heap.size ≤ k) (h3 : Only (D.own w p) w w') : PairS D B w' p s' q t R a b ∧ Below B w w' := by
  obtain ⟨a1, a2⟩ := h.two.step hB h1 h2 h3
  obtain ⟨_, k2⟩ := D.keep h.two.snd.sit h3 (fun k hk hk' => h.two.apart k hk' hk)
  refine ⟨⟨a1, h.all.only h3 h.n1, fun hk => ?_, fun hk => h.n2 (k2 R hk)⟩, a2⟩
  rcases h2 R hk with h4 | h4
  · exact h.n1 h4
  · have : R < w.heap.size := lt_of_block h.all
    omega
/-- a range made beside two stocks -/
theorem PairS.new {D : TierD} {B p q : Nat} {w : World} {s t : Stk} (h : TwoS D B w p s q t) (a b : Int) {W : World} (hW : W = w.alloc (.cells #[.int .i64 a, .int .i64 b] 41)) : PairS D B W p s q t w.heap.size a b := by
  have hb : Below w.heap.size w W := by rw [hW]; exact (Below.refl _ _).alloc (Nat.le_refl _) _
  obtain ⟨_, h2⟩ := D.keep h.fst.sit (only_beyond (S := fun _ => False) hb) (fun _ _ h => h)
  obtain ⟨_, k2⟩ := D.keep h.snd.sit (only_beyond (S := fun _ => False) hb) (fun _ _ h => h)
  exact ⟨h.keep hb, by rw [hW]; exact RgAt.new w a b, fun hk => by have := D.lt h.fst.sit (h2 _ hk); omega, fun hk => by have := D.lt h.snd.sit (k2 _ hk); omega⟩
end Go.Proofs.YthbdchleppbidaaGreat
/- Package tier: Len, Bytes. -/
namespace Go.Proofs.YthbdchleppbidaaGreat
open Go.RowKit

/-- how many there are of a tier -/
def lenT (s : Stk) (t : Int) : Nat := if t = 0 then s.raw.length else if t = 1 then s.mid.length else if t = 2 then s.long.length else 0
/-- what it takes -/
def bytesT (s : Stk) : Nat := 16 * s.raw.length + 40 * (s.mid.length + s.long.length)
set_option maxHeartbeats 4000000 in
theorem tilen_any {w : World} {p sp : Nat} {v vm vl : Value} {s : Stk} (h : TSit w p sp v vm vl s) {t : Int} (h0 : -9223372036854775808 ≤ t) (h1 : t ≤ 9223372036854775807) :
    Calls Tryz.prog 27 #[.pointer (some ⟨p, 0, none⟩), .int .i64 t] w fun e w' => e = .returned (.int .i64 (lenT s t : Nat)) ∧ w' = w := by
  have HS := Lib.hid (selen_any h.ser)
  have HH := Lib.hid (tiheld_any h h0 h1)
  obtain ⟨am, cm, em⟩ := own_slice h.mid
  obtain ⟨al, cl, el⟩ := own_slice h.long
  obtain ⟨c0, -, -, -, -, -, -⟩ := h.cells
  obtain ⟨N, hN⟩ : ∃ N, N = lenT s t := ⟨_, rfl⟩
  rw [← hN]
  by_cases hz : t = 0
  · subst hz
    have HN : Hid (N = s.raw.length) := Lib.hid (by rw [hN]; rfl)
    clear hN h0 h1 h HH
    go_enter Tryz.func27, Tryz.ntmps27
    go_wp2_with fail
    refine HS.out.mono ?_
    rintro e w2 ⟨rfl, hw⟩; replace hw := hw.symm; subst hw
    dsimp only
    go_wp2
    go_ret
    exact ⟨by rw [HN.out]; rfl, rfl⟩
  · have tz : (t == 0) = false := by simpa using hz
    have HE : Hid (∃ a c, heldV t vm vl = .slice a N c) := Lib.hid (by
      rw [hN]; unfold heldV lenT; rw [if_neg hz]; split
      · exact ⟨am, cm, em⟩
      · split
        · exact ⟨al, cl, el⟩
        · exact ⟨none, 0, rfl⟩)
    obtain ⟨a, c, e⟩ := HE.out
    rw [e] at HH
    clear hz hN h0 h1 h HS HE e em el
    go_enter Tryz.func27, Tryz.ntmps27
    go_wp2_with fail
    refine HH.out.mono ?_
    rintro e w2 ⟨rfl, hw⟩; replace hw := hw.symm; subst hw
    dsimp only
    go_wp2
    go_ret
    exact ⟨rfl, rfl⟩
set_option maxHeartbeats 4000000 in
theorem tibytes_any {w : World} {p sp : Nat} {v vm vl : Value} {s : Stk} (h : TSit w p sp v vm vl s) :
    Calls Tryz.prog 15 #[.pointer (some ⟨p, 0, none⟩)] w fun e w' => e = .returned (.int .i64 (bytesT s : Nat)) ∧ w' = w := by
  have HA : Hid (Calls Tryz.prog 27 #[.pointer (some ⟨p, 0, none⟩), .int .i64 0] w fun e w' => e = .returned (.int .i64 (s.raw.length : Nat)) ∧ w' = w) := Lib.hid (tilen_any h (by omega) (by omega))
  have HB : Hid (Calls Tryz.prog 27 #[.pointer (some ⟨p, 0, none⟩), .int .i64 1] w fun e w' => e = .returned (.int .i64 (s.mid.length : Nat)) ∧ w' = w) := Lib.hid (tilen_any h (by omega) (by omega))
  have HC : Hid (Calls Tryz.prog 27 #[.pointer (some ⟨p, 0, none⟩), .int .i64 2] w fun e w' => e = .returned (.int .i64 (s.long.length : Nat)) ∧ w' = w) := Lib.hid (tilen_any h (by omega) (by omega))
  have h1 := h.good.plen
  have h2 := h.good.mid.len
  have h3 := h.good.long.len
  have HR : Hid (bytesT s = 16 * s.raw.length + 40 * (s.mid.length + s.long.length)) := Lib.hid rfl
  generalize s.raw.length = A at *
  generalize s.mid.length = B at *
  generalize s.long.length = C at *
  clear h
  go_enter Tryz.func15, Tryz.ntmps15
  go_wp2_with fail
  refine HA.out.mono ?_
  rintro e w2 ⟨rfl, hw⟩; replace hw := hw.symm; subst hw
  dsimp only
  go_wp2_with fail
  refine HB.out.mono ?_
  rintro e w2 ⟨rfl, hw⟩; replace hw := hw.symm; subst hw
  dsimp only
  go_wp2_with fail
  refine HC.out.mono ?_
  rintro e w2 ⟨rfl, hw⟩; replace hw := hw.symm; subst hw
  dsimp only
  go_wp2
  go_ret
  refine ⟨ret_i64 ?_, rfl⟩
  rw [HR.out]
  first | rfl | omega | (unfold wrap64; omega)
end Go.Proofs.YthbdchleppbidaaGreat
/- Package tier: Aggs where a tier has none, and of a stock that isn't there. -/
namespace Go.Proofs.YthbdchleppbidaaGreat
open Go.RowKit

set_option maxHeartbeats 4000000 in
theorem tiaggs_empty {w : World} {q : Value} {t : Int} (hh : ∀ V, Below w.heap.size w V → Calls Tryz.prog 41 #[q, .int .i64 t] V fun e w' => e = .returned (.slice none 0 0) ∧ w' = V) (a b : Int) :
    Calls Tryz.prog 20 #[q, .int .i64 t, .agg #[.int .i64 a, .int .i64 b]] w fun e w' => e = .returned (.slice none 0 0) ∧ Below w.heap.size w w' := by
  have HHE := Lib.hid hh
  clear hh
  go_enter Tryz.func20, Tryz.ntmps20
  go_upto_region 2 with fail
  refine wp_name fun W1 hW1 => ?_
  have hb1 : Below w.heap.size w W1 := by rw [hW1.out]; exact (Below.refl _ _).alloc (Nat.le_refl _) _
  have HB1 := Lib.hid hb1
  have HH1 := Lib.hid (HHE.out W1 hb1)
  clear hW1 hb1 HHE
  go_wp2_with fail
  refine HH1.out.mono ?_
  rintro e W2 ⟨rfl, hw⟩; replace hw := hw.symm; subst hw
  dsimp only
  go_wp2_with fail
  go_loopw [7, 14] (fun vv c wr => vv = .slice none 0 0 ∧ c = .int .i64 0 ∧ wr = W1) (fun _ _ _ => 0)
  case atStart => exact ⟨rfl, rfl, rfl⟩
  case round =>
    obtain ⟨rfl, rfl, hw⟩ := hrel
    replace hw := hw.symm
    subst hw
    go_wp2_with fail
    go_ret
    exact ⟨rfl, HB1.out⟩
theorem tiaggs_any {w : World} {p : Nat} {s : Stk} (h : tSit w p s) {t a b : Int} (h0 : -9223372036854775808 ≤ t) (h1 : t ≤ 9223372036854775807) :
    Calls Tryz.prog 20 #[.pointer (some ⟨p, 0, none⟩), .int .i64 t, .agg #[.int .i64 a, .int .i64 b]] w fun e w' => ∃ v', e = .returned v' ∧ AgRow w.heap.size w' v' (aggsT s t a b) ∧ Below w.heap.size w w' := by
  obtain ⟨sp, v, vm, vl, h⟩ := h
  unfold aggsT
  by_cases e1 : t = 1
  · subst e1
    rw [if_pos rfl]
    exact tiaggs_mid h a b
  · rw [if_neg e1]
    by_cases e2 : t = 2
    · subst e2
      rw [if_pos rfl]
      exact tiaggs_long h a b
    · rw [if_neg e2]
      refine (tiaggs_empty (q := .pointer (some ⟨p, 0, none⟩)) (t := t) (fun V hb => ?_) a b).mono fun e w' hh => ⟨_, hh.1, AgRow.nil _ _, hh.2⟩
      have := tiheld_any (h.keep hb) h0 h1
      unfold heldV at this
      rwa [if_neg e1, if_neg e2] at this
theorem tiaggs_none (w : World) (a b : Int) : Calls Tryz.prog 20 #[.pointer none, .int .i64 1, .agg #[.int .i64 a, .int .i64 b]] w fun e w' => (∃ ad c, e = .returned (.slice ad 0 c)) ∧ Below w.heap.size w w' :=
  (tiaggs_empty (q := .pointer none) (t := 1) (fun V _ => tiheld_none V 1) a b).mono fun _ _ h => ⟨⟨none, 0, h.1⟩, h.2⟩
end Go.Proofs.YthbdchleppbidaaGreat
