/- Package hold: Add of one that may be added. -/
import Derived.Test.YtphgkkdpdiiioaaHoAdd
import Derived.Carry
import Derived.Laws.Entries
namespace Go.Proofs.Ytphgkkdpdiiioaa
open Go.RowKit Go.Maps

theorem turned_only {w w' : World} {b : Nat} (h : w.mapTurned w' b) : Only (fun k => k = b) w w' := (Only.grown h.grown).mono fun k _ hk => by injection hk with hk; exact hk.symm
/-- one that wasn't there is put -/
theorem run_put_map {W : World} {g : Nat} {m : List Hld} {x : Hld} (h : MapIs W g m) (hno : hasH m x.name = false) (hl : m.length < maxLen) (hn : x.name.size ≤ maxLen) :
    ∃ W', (Instr.mapUpdate 50 (.map (some g)) (.string x.name) x.val).run Try.prog W = .ok () W' ∧ MapIs W' g (m ++ [x]) ∧ Only (fun k => k = g) W W' := by
  obtain ⟨es, h1, h2⟩ := h
  obtain ⟨W', r1, r2, r3⟩ := h1.store keyS mapT hl (litS_of hn) (readH_val x)
  exact ⟨W', r1, MapIs.put h2 hno r2, turned_only r3⟩
theorem wpList_put_map {W : World} {ops : Array Oper} {rest : List Oper} {o : Oper} {a : Act} {Q : Exit → Act → World → Prop} (hg : o.guard = none) (u x v : Operand) (hop : o.op = Op.mapUpdate 50 u x v) {g : Nat} {m : List Hld} {h : Hld}
    (hm : a.eval u = .map (some g)) (hx : a.eval x = .string h.name) (hv : a.eval v = h.val) (hi : MapIs W g m) (hno : hasH m h.name = false) (hl : m.length < maxLen) (hn : h.name.size ≤ maxLen)
    (hK : ∀ W', MapIs W' g (m ++ [h]) → Only (fun k => k = g) W W' → wpList Try.prog ops Q rest (a.put o.dst undef) W') : wpList Try.prog ops Q (o :: rest) a W := by
  refine wpList_plain hg fun K' hK' => ?_
  obtain ⟨W', hrun, r1, r2⟩ := run_put_map hi hno hl hn
  unfold Oper.wp
  simp [execOp, hop, hm, hx, hv, hrun, Result.andThen]
  exact hK' _ _ (hK W' r1 r2)
theorem run_eqMap {w : World} (q : Option Nat) : (binOp .eql 50 (.map q) (.map none)).run Try.prog w = .ok (.bool q.isNone) w := by
  have h : ∀ d, (Op.equalIn (d + 1) 50 (.map q) (.map none)).run Try.prog w = .ok q.isNone w := fun d => by
    cases q <;> simp [Op.equalIn, run_underlying mapT]
  simp only [binOp]
  simp [show Op.equal 50 (.map q) (.map none) = Op.equalIn (9999 + 1) 50 (.map q) (.map none) from rfl, h 9999]
/-- behind the map: the table has one -/
def AddR (w : World) (p : Nat) (b : Option Nat) (g : Nat) (m : List Hld) (B : Nat) (x : Hld) (W : World) : Prop :=
  TabAt W p (some g) m ∧ W.heap[B]? = some (.cells #[.string x.name, .string x.ser, .int .i64 x.a, .int .i64 x.b] 30 (0, 0)) ∧ Only (TFoot p b) w W ∧ B = w.heap.size ∧ (b = some g ∨ b = none ∧ B ≤ g)
theorem AddR.beyond {w W W' : World} {p B g : Nat} {b : Option Nat} {m : List Hld} {x : Hld} (h : AddR w p b g m B x W) (hb : Below W.heap.size W W') : AddR w p b g m B x W' :=
  ⟨h.1.below hb, (hb.block _ (lt_of_block h.2.1)).trans h.2.1, h.2.2.1.trans (only_beyond (S := fun _ => False) hb) (fun _ _ h => h.elim), h.2.2.2⟩
theorem AddR.drew {w W : World} {p B g : Nat} {b : Option Nat} {m : List Hld} {x : Hld} (h : AddR w p b g m B x W) : AddR w p b g m B x W.drew := h.beyond (below_drew (Below.refl _ _))
theorem AddR.cells {w W : World} {p B g : Nat} {b : Option Nat} {m : List Hld} {x : Hld} (h : AddR w p b g m B x W) :
    W.cell? ⟨B, 0, none⟩ = some (.string x.name) ∧ W.cell? ⟨B, 1, none⟩ = some (.string x.ser) ∧ W.cell? ⟨B, 2, none⟩ = some (.int .i64 x.a) ∧ W.cell? ⟨B, 3, none⟩ = some (.int .i64 x.b) ∧ W.cell? ⟨p, 0, none⟩ = some (.map (some g)) := by
  have X : Arr W B 30 x.cells := h.2.1
  exact ⟨X.cell rfl, X.cell rfl, X.cell rfl, X.cell rfl, h.1.cell.1⟩
theorem AddR.free {w W : World} {p B g : Nat} {b : Option Nat} {m : List Hld} {x : Hld} (h : AddR w p b g m B x W) : W.frozen? ⟨B, 0, none⟩ = false ∧ W.frozen? ⟨B, 1, none⟩ = false ∧ W.frozen? ⟨B, 2, none⟩ = false ∧ W.frozen? ⟨B, 3, none⟩ = false := by
  have X : Arr W B 30 x.cells := h.2.1
  exact ⟨X.free _, X.free _, X.free _, X.free _⟩
theorem AddR.set {w W : World} {p B g : Nat} {b : Option Nat} {m : List Hld} {x : Hld} (h : AddR w p b g m B x W) : AddR w p b g m B x (setHo W B x.name x.ser x.a x.b) := by
  have ho := setHo_only W B x.name x.ser x.a x.b
  have hoff : ∀ k, TFoot p (some g) k → ¬ k = B := fun k hk e => (h.1.off h.2.1 (by decide)) (e ▸ hk)
  have hs : (setHo W B x.name x.ser x.a x.b).heap.size = W.heap.size := by simp [setHo]
  exact ⟨h.1.only ho hoff, setHo_at h.2.1 _ _ _ _, h.2.2.1.trans ho (fun k hk e => by have := h.2.2.2.1; omega), h.2.2.2⟩
theorem AddR.start {w W : World} {p B g : Nat} {m : List Hld} {x : Hld} (h : AddQ w p (some g) m B x W) : AddR w p (some g) g m B x W := ⟨h.1, h.2.1, only_beyond (by rw [← h.2.2.2]; exact h.2.2.1), h.2.2.2, .inl rfl⟩
theorem AddR.made {w W : World} {p B : Nat} {m : List Hld} {x : Hld} (h : AddQ w p none m B x W) (_hm : m = []) : AddR w p none W.heap.size [] B x ((W.alloc (.map #[] 0)).setCell ⟨p, 0, none⟩ (.map (some W.heap.size))) := by
  have hp : (W.alloc (.map #[] 0)).heap[p]? = some (.cells #[.map none] 52 (0, 0)) := (Below.heap_alloc _ _ _ (lt_of_block h.1.blk)).trans h.1.blk
  have hB : (W.alloc (.map #[] 0)).heap[B]? = _ := (Below.heap_alloc _ _ _ (lt_of_block h.2.1)).trans h.2.1
  have ho : Only (fun k => k = p) (W.alloc (.map #[] 0)) ((W.alloc (.map #[] 0)).setCell ⟨p, 0, none⟩ (.map (some W.heap.size))) := Only.setCell (S := fun k => k = p) _ rfl _
  have hpB : ¬ B = p := fun e => by
    have := h.2.1
    rw [e, h.1.blk] at this
    injection this with this
    injection this with _ this
    exact absurd this (by decide)
  have hpl := lt_of_block h.1.blk
  have hBs := h.2.2.2
  have hsz := h.2.2.1.size
  refine ⟨⟨by rw [heap_setCell_same _ p 0 _ _ _ hp]; simp, fun k hk => ?_, fun e => by cases e⟩, (ho.block B (lt_of_block hB) hpB).trans hB, ?_, h.2.2.2, .inr ⟨rfl, by omega⟩⟩
  · injection hk with hk
    subst hk
    exact (MapIs.new W).only ho (by omega)
  · refine Only.trans (S := TFoot p none) (T := TFoot p none) (Only.trans (S := TFoot p none) (T := TFoot p none) (only_beyond (by rw [← h.2.2.2]; exact h.2.2.1)) (Only.alloc _ _ _) (fun _ _ h => h)) (ho.mono fun k _ hk => .inl hk) (fun _ _ h => h)
theorem AddR.ended {w W W' : World} {p B g : Nat} {b : Option Nat} {m : List Hld} {x : Hld} (h : AddR w p b g m B x W) (hi : MapIs W' g (m ++ [x])) (ho : Only (fun k => k = g) W W') : TabAt W' p (some g) (m ++ [x]) ∧ Only (TFoot p b) w W' ∧ (some g = b ∨ b = none ∧ w.heap.size ≤ g) := by
  have hne : ¬ p = g := fun e => h.1.apart (by rw [e])
  refine ⟨⟨(ho.block p (lt_of_block h.1.blk) hne).trans h.1.blk, fun k hk => by injection hk with hk; subst hk; exact hi, fun e => by cases e⟩, ?_, ?_⟩
  · refine h.2.2.1.trans ho fun k hk e => ?_
    rcases h.2.2.2.2 with h5 | ⟨_, h5⟩
    · exact .inr (by rw [h5, e])
    · have := h.2.2.2.1; omega
  · rcases h.2.2.2.2 with h5 | ⟨h5, h6⟩
    · exact .inl h5.symm
    · exact .inr ⟨h5, by have := h.2.2.2.1; omega⟩
set_option maxHeartbeats 16000000 in
set_option maxRecDepth 100000 in
theorem hoadd_yes {w : World} {p : Nat} {b : Option Nat} {m : List Hld} (h : TabAt w p b m) (x : Hld) (hy : addE m x = 0) :
    Calls Try.prog 11 #[.pointer (some ⟨p, 0, none⟩), x.val] w fun e w' => e = .returned (.int .i64 0) ∧ ∃ b', TabAt w' p b' (m ++ [x]) ∧ Only (TFoot p b) w w' ∧ (b' = b ∨ b = none ∧ ∀ g, b' = some g → w.heap.size ≤ g) := by
  obtain ⟨y1, y2, y3, y4⟩ := addE_zero.1 hy
  obtain ⟨z1, z2, z3⟩ := namedH_small y1
  have hmax : maxLen = 9223372036854775807 := rfl
  have HNAM : Hid (∀ W, Calls Try.prog 19 #[x.val] W fun e w' => e = .returned (.bool true) ∧ Below W.heap.size W w') := Lib.hid fun W => by have := honamed_any W x (by omega) (by omega); rw [y1] at this; exact this
  have HRIG : Hid (∀ W, Calls Try.prog 20 #[.agg #[.int .i64 x.a, .int .i64 x.b]] W fun e w' => e = .returned (.bool true) ∧ Below W.heap.size W w') := Lib.hid fun W => by have := wiright_any W x.a x.b; rw [y2] at this; exact this
  have HHAS : Hid (∀ W, TabAt W p b m → Calls Try.prog 21 #[.pointer (some ⟨p, 0, none⟩), .string x.name] W fun e w' => e = .returned (.bool false) ∧ Below W.heap.size W w') := Lib.hid fun W hW => by have := hohas_any (n := x.name) hW (by omega); rw [y3] at this; exact this
  have HLEN : Hid (∀ W, TabAt W p b m → Calls Try.prog 14 #[.pointer (some ⟨p, 0, none⟩)] W fun e w' => e = .returned (.int .i64 (m.length : Int)) ∧ w' = W) := Lib.hid fun W hW => holen_any hW
  have HAPA : Hid (∀ W, Calls Try.prog 22 #[x.val] W fun e w' => e = .returned x.val ∧ Below W.heap.size W w') := Lib.hid fun W => hoapart_any W x.name x.ser x.a x.b (by omega) (by omega)
  have HQ0 : Hid (AddQ w p b m w.heap.size x (w.alloc (.cells #[.string x.name, .string x.ser, .int .i64 x.a, .int .i64 x.b] 30))) := Lib.hid ⟨h.old _, heap_alloc_new _ _, (Below.refl _ _).alloc (by omega) _, rfl⟩
  have HNO := Lib.hid y3
  have HLT : Hid (m.length < maxLen) := Lib.hid (by omega)
  have HSZ : Hid (x.name.size ≤ maxLen) := Lib.hid (by omega)
  have HM0 := Lib.hid h.nil0
  have t16 : decide ((16 : Int) ≤ (m.length : Int)) = false := by simp only [decide_eq_false_iff_not]; omega
  have hmm := @run_makeMap Try.prog
  clear y1 y2 y3 y4 z1 z2 z3 h hy hmax
  obtain ⟨n, s, a, c⟩ := x
  unfold Hld.val at *
  dsimp only at *
  cases b with
  | some g =>
    have hq := fun w => run_eqMap (w := w) (some g)
    simp only [Option.isNone_some] at hq
    obtain ⟨c0, c1, c2, c3, cp⟩ := HQ0.out.cells
    go_enter Try.func11, Try.ntmps11
    go_wp2_with (first | (go_at_call 19; refine (HNAM.out _).mono ?_; clear HNAM; rintro e W1 ⟨rfl, hb1⟩; have HQ1 := Lib.hid (HQ0.out.beyond hb1); clear hb1; obtain ⟨c0, c1, c2, c3, cp⟩ := HQ1.out.cells) | (go_at_call 20; refine (HRIG.out _).mono ?_; clear HRIG; rintro e W2 ⟨rfl, hb2⟩; have HQ2 := Lib.hid (HQ1.out.beyond hb2); clear hb2; obtain ⟨c0, c1, c2, c3, cp⟩ := HQ2.out.cells) | (go_at_call 21; refine (HHAS.out _ HQ2.out.1).mono ?_; clear HHAS; rintro e W3 ⟨rfl, hb3⟩; have HQ3 := Lib.hid (HQ2.out.beyond hb3); clear hb3; obtain ⟨c0, c1, c2, c3, cp⟩ := HQ3.out.cells) | (go_at_call 14; refine (HLEN.out _ HQ3.out.1).mono ?_; clear HLEN; rintro e W4 ⟨rfl, hw4⟩; replace hw4 := hw4.symm; subst hw4; have fp := HQ3.out.1.cell.2; have HR4 := Lib.hid (AddR.start HQ3.out)) | (go_at_call 22; refine (HAPA.out _).mono ?_; clear HAPA; rintro e W5 ⟨rfl, hb5⟩; have HR5 := Lib.hid (HR4.out.beyond hb5); clear hb5; obtain ⟨c0, c1, c2, c3, cp⟩ := HR5.out.cells; obtain ⟨f0, f1, f2, f3⟩ := HR5.out.free))
    refine wp_name fun W6 hW6 => ?_
    have HR6 : Hid (AddR w p (some g) g m w.heap.size ⟨n, s, a, c⟩ W6) := Lib.hid (by rw [hW6.out]; exact HR5.out.set)
    clear hW6
    have HR7 := Lib.hid HR6.out.drew
    obtain ⟨c0, c1, c2, c3, cp⟩ := HR7.out.cells
    refine wp_region_still_tail 7 (by kernel_rfl) (by kernel_rfl) ?_
    simp only [List.take_succ_cons, List.take_zero, List.drop_succ_cons, List.drop_zero]
    obtain ⟨c0, c1, c2, c3, cp⟩ := HR6.out.cells
    iterate 7 still_step
    refine wpStill_nil ?_
    change wpList _ _ _ _ _ W6.drew
    refine wpList_put_map (h := ⟨n, s, a, c⟩) rfl _ _ _ rfl rfl rfl rfl (HR7.out.1.own _ rfl) HNO.out HLT.out HSZ.out ?_
    intro W8 hi8 ho8
    have HE8 := Lib.hid (HR7.out.ended hi8 ho8)
    clear hi8 ho8
    go_wp2
    go_ret
    exact ⟨rfl, HE8.out.1, HE8.out.2.1⟩
  | none =>
    have hq := fun w => run_eqMap (w := w) none
    simp only [Option.isNone_none] at hq
    have hm0 := HM0.out rfl
    subst hm0
    obtain ⟨c0, c1, c2, c3, cp⟩ := HQ0.out.cells
    go_enter Try.func11, Try.ntmps11
    go_wp2_with (first | (go_at_call 19; refine (HNAM.out _).mono ?_; clear HNAM; rintro e W1 ⟨rfl, hb1⟩; have HQ1 := Lib.hid (HQ0.out.beyond hb1); clear hb1; obtain ⟨c0, c1, c2, c3, cp⟩ := HQ1.out.cells) | (go_at_call 20; refine (HRIG.out _).mono ?_; clear HRIG; rintro e W2 ⟨rfl, hb2⟩; have HQ2 := Lib.hid (HQ1.out.beyond hb2); clear hb2; obtain ⟨c0, c1, c2, c3, cp⟩ := HQ2.out.cells) | (go_at_call 21; refine (HHAS.out _ HQ2.out.1).mono ?_; clear HHAS; rintro e W3 ⟨rfl, hb3⟩; have HQ3 := Lib.hid (HQ2.out.beyond hb3); clear hb3; obtain ⟨c0, c1, c2, c3, cp⟩ := HQ3.out.cells) | (go_at_call 14; refine (HLEN.out _ HQ3.out.1).mono ?_; clear HLEN; rintro e W4 ⟨rfl, hw4⟩; replace hw4 := hw4.symm; subst hw4; have fp := HQ3.out.1.cell.2; have HR4 := Lib.hid (AddR.made HQ3.out rfl); obtain ⟨xp, xf⟩ := (HQ3.out.1.old (.map #[] 0)).cell; obtain ⟨d0, d1, d2, d3, dp⟩ := HR4.out.cells) | (go_at_call 22; refine (HAPA.out _).mono ?_; clear HAPA; rintro e W5 ⟨rfl, hb5⟩; have HR5 := Lib.hid (HR4.out.beyond hb5); clear hb5; obtain ⟨c0, c1, c2, c3, cp⟩ := HR5.out.cells; obtain ⟨f0, f1, f2, f3⟩ := HR5.out.free))
    refine wp_name fun W6 hW6 => ?_
    have HR6 : Hid (AddR w p none W3.heap.size [] w.heap.size ⟨n, s, a, c⟩ W6) := Lib.hid (by rw [hW6.out]; exact HR5.out.set)
    clear hW6
    have HR7 := Lib.hid HR6.out.drew
    obtain ⟨c0, c1, c2, c3, cp⟩ := HR7.out.cells
    refine wp_region_still_tail 7 (by kernel_rfl) (by kernel_rfl) ?_
    simp only [List.take_succ_cons, List.take_zero, List.drop_succ_cons, List.drop_zero]
    obtain ⟨c0, c1, c2, c3, cp⟩ := HR6.out.cells
    iterate 7 still_step
    refine wpStill_nil ?_
    change wpList _ _ _ _ _ W6.drew
    refine wpList_put_map (h := ⟨n, s, a, c⟩) rfl _ _ _ rfl rfl rfl rfl (HR7.out.1.own _ rfl) HNO.out HLT.out HSZ.out ?_
    intro W8 hi8 ho8
    have HE8 := Lib.hid (HR7.out.ended hi8 ho8)
    clear hi8 ho8
    go_wp2
    go_ret
    exact ⟨rfl, some W3.heap.size, HE8.out.1, HE8.out.2.1, .inr fun g hg => by injection hg with hg; rw [← hg]; exact HQ3.out.2.2.1.size⟩
theorem hoadd_any {w : World} {p : Nat} {b : Option Nat} {m : List Hld} (h : TabAt w p b m) (x : Hld) (hn : x.name.size ≤ maxLen) (hs : x.ser.size ≤ maxLen) :
    Calls Try.prog 11 #[.pointer (some ⟨p, 0, none⟩), x.val] w fun e w' => e = .returned (.int .i64 (addE m x)) ∧ ∃ b', TabAt w' p b' (addM m x) ∧ Only (TFoot p b) w w' ∧ (b' = b ∨ b = none ∧ ∀ g, b' = some g → w.heap.size ≤ g) := by
  by_cases hy : addE m x = 0
  · rw [hy, show addM m x = m ++ [x] from if_pos hy]
    exact hoadd_yes h x hy
  · rw [show addM m x = m from if_neg hy]
    exact (hoadd_no h x hn hs hy).mono fun e w' ⟨he, hb⟩ => ⟨he, b, h.below hb, only_beyond hb, .inl rfl⟩
theorem hoadd_none (w : World) (x : Hld) : Calls Try.prog 11 #[.pointer none, x.val] w fun e w' => e = .returned (.int .i64 1) ∧ Below w.heap.size w w' := by
  obtain ⟨n, s, a, c⟩ := x
  unfold Hld.val
  dsimp only
  go_enter Try.func11, Try.ntmps11
  go_wp2_with fail
  go_ret
  exact ⟨rfl, (Below.refl _ _).alloc (Nat.le_refl _) _⟩
end Go.Proofs.Ytphgkkdpdiiioaa
