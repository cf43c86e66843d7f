/- Package tier: where a tier's aggregates begin. Written by py/ti-ticks.py. -/
import Derived.Test.YthbdchleppbidaaGreatMT
import Derived.Test.YthbdchleppbidaaGreatZIntRow
import Derived.Deep.DeepCutAuto
namespace Go.Proofs.YthbdchleppbidaaGreat
open Go.RowKit

/-- a row's variable, boxed -/
def BoxV (W : World) (C : Nat) (u : Value) : Prop := W.heap[C]? = some (.cells #[u] 51 (0, 0))
theorem BoxV.keep {W W' : World} {C : Nat} {u : Value} (h : BoxV W C u) (hb : Below W.heap.size W W') : BoxV W' C u := (hb.block C (lt_of_block h)).trans h
theorem BoxV.cell {W : World} {C : Nat} {u : Value} (h : BoxV W C u) : W.cell? ⟨C, 0, none⟩ = some u ∧ W.frozen? ⟨C, 0, none⟩ = false := cells1 h
theorem BoxV.set {W W' : World} {C : Nat} {u : Value} (h : BoxV W C u) {x : Value} (hW : W' = W.setCell ⟨C, 0, none⟩ x) : BoxV W' C x := by
  have e := heap_setCell_same W C 0 _ _ x h
  unfold BoxV
  rw [hW, e]; rfl
set_option maxHeartbeats 8000000 in
set_option maxRecDepth 100000 in
theorem titicks_mid {w : World} {p sp : Nat} {v vm vl : Value} {s : Stk} (h : TSit w p sp v vm vl s) :
    Calls Tryz.prog 72 #[.pointer (some ⟨p, 0, none⟩), .int .i64 1] w fun e w' => (∃ u, e = .returned u ∧ IntRow w.heap.size w' u (s.mid.map Ag.at_)) ∧ Below w.heap.size w w' := by
  have hlen := h.good.mid.len
  have HLI := Lib.hid h.mid.lies
  obtain ⟨-, -, ca, -, -, -, -⟩ := h.cells
  obtain ⟨am, cm, e0⟩ := own_slice h.mid
  have hp := lt_of_block h.at_
  obtain ⟨L, hL⟩ : ∃ L, L = s.mid := ⟨_, rfl⟩
  rw [← hL] at hlen HLI e0 ⊢
  rw [e0] at ca HLI
  clear h hL e0
  go_enter Tryz.func72, Tryz.ntmps72
  go_upto_region 2 with fail
  refine wp_name fun W1 hW1 => ?_
  obtain ⟨C, hC⟩ : ∃ C, C = w.heap.size := ⟨_, rfl⟩
  have hb1 : Below w.heap.size w W1 := by rw [hW1.out]; exact (Below.refl _ _).alloc (Nat.le_refl _) _
  have HX1 : Hid (BoxV W1 C (.slice none 0 0)) := Lib.hid (by rw [hW1.out, hC]; exact heap_alloc_new w _)
  have HB1 := Lib.hid hb1
  replace ca := (hb1.cell (p := ⟨p, 2, none⟩) hp).trans ca
  have HCE := Lib.hid hC
  rw [← hC]
  clear hW1 hb1 hC hp
  go_wp2_with fail
  go_loopw [29] (fun c wr => ∃ (k : Nat) (u : Value), k ≤ L.length ∧ c = .int .i64 k ∧ BoxV wr C u ∧ IntRow w.heap.size wr u ((L.take k).map Ag.at_) ∧ Below w.heap.size w wr) (fun c _ => L.length - (intOf c).toNat)
  case atStart => exact ⟨0, _, Nat.zero_le _, rfl, HX1.out, IntRow.nil _ _, HB1.out⟩
  case round =>
    clear ca HX1 HB1
    obtain ⟨k, u, hk, rfl, hbx, hrow, hbb⟩ := hrel
    obtain ⟨W2, hW2⟩ : ∃ W2, W2 = wr := ⟨_, rfl⟩
    subst hW2
    have HX2 := Lib.hid hbx
    have HROW2 := Lib.hid hrow
    have HBB2 := Lib.hid hbb
    clear hbx hrow hbb
    by_cases hlt : k < L.length
    · obtain ⟨x, hx⟩ : ∃ x, L[k]? = some x := ⟨L[k], List.getElem?_eq_getElem hlt⟩
      have hly : ALies W2 (.slice am L.length cm) L := HLI.out.beyond HBB2.out
      obtain ⟨a', b', off, cap, e1, hadr, hpts⟩ := hly
      injection e1 with e1 e2 e3
      have ea := hadr (by intro h0; simp [h0] at hlt)
      rw [← e1] at ea
      subst ea
      obtain ⟨c0, c1, c2, c3, c4⟩ := hpts k x hx
      have HTK : Hid ((L.take (k + 1)).map Ag.at_ = (L.take k).map Ag.at_ ++ [x.at_]) := Lib.hid (by rw [take_snoc hx, List.map_append]; rfl)
      have HLT : Hid (((L.take k).map Ag.at_).length ≤ 256) := Lib.hid (by rw [List.length_map, List.length_take]; omega)
      have hmax : k < 9223372036854775807 := by omega
      clear hx hadr hpts e1 e2 e3
      go_upto_region 9 with fail
      refine wp_name fun W3 hW3 => ?_
      obtain ⟨M, hM⟩ : ∃ M, M = W2.heap.size := ⟨_, rfl⟩
      have hb3 : Below W2.heap.size W2 W3 := by rw [hW3.out]; exact (Below.refl _ _).alloc (Nat.le_refl _) _
      have HA3 : Hid (AgAt W3 M x) := Lib.hid (by rw [hW3.out, hM]; exact AgAt.new W2 x)
      have HROW3 := Lib.hid (HROW2.out.keep hb3)
      have HX3 := Lib.hid (HX2.out.keep hb3)
      have HBB3 := Lib.hid (HBB2.out.trans (hb3.mono HBB2.out.size))
      rw [← hM]
      clear hb3 hW3 hM HROW2 HX2 HBB2 c0 c1 c2 c3 c4
      obtain ⟨c0, -, -, -, -, -, -, -, -, -⟩ := HA3.out.cells
      obtain ⟨d0, d1⟩ := HX3.out.cell
      have HRW := Lib.hid (HROW3.out.keep ((Below.refl W3.heap.size W3).alloc (Nat.le_refl _) (.cells #[.int .i64 x.at_] 2)))
      have HXW := Lib.hid (HX3.out.keep ((Below.refl W3.heap.size W3).alloc (Nat.le_refl _) (.cells #[.int .i64 x.at_] 2)))
      have HBX := Lib.hid (HBB3.out.alloc HBB3.out.size (.cells #[.int .i64 x.at_] 2))
      have HNW : Hid ((W3.alloc (.cells #[.int .i64 x.at_] 2)).cell? ⟨W3.heap.size, 0, none⟩ = some (.int .i64 x.at_)) := Lib.hid (cells1 (heap_alloc_new W3 _)).1
      have HNE : Hid (u.ownBlock ≠ some C) := Lib.hid (row_ne HX3.out HROW3.out (by decide))
      go_wp2_with (at_builtin; refine wpList_append_int rfl (.tmp 33) (.tmp 36) rfl w.heap.size _ _ rfl HRW.out W3.heap.size x.at_ rfl HNW.out (by have := HLT.out; omega) HBX.out.size ?_; intro v10 W10 HROW10 hgrow; have HBB10 : Hid (Below w.heap.size w W10) := Lib.hid (HBX.out.grown hgrow.out HBX.out.size (fun b hb => (HRW.out.lt b hb).1)); have HX10 : Hid (BoxV W10 C u) := Lib.hid ((hgrow.out.block C (lt_of_block HXW.out) (fun e => HNE.out e.symm)).trans HXW.out); clear hgrow d0 d1 c0; obtain ⟨d0, d1⟩ := HX10.out.cell; obtain ⟨aa, cc, ee⟩ := own_slice HROW10.out; subst ee)
      go_roundw
      case rel =>
        have hro : IntRow w.heap.size W10 (.slice aa (k + 1) cc) ((L.take k).map Ag.at_ ++ [x.at_]) := by
          have h := HROW10.out
          rwa [show ((L.take k).map Ag.at_ ++ [x.at_]).length = k + 1 by simp; omega] at h
        have ho : Only (fun k => k = C) W10 (W10.setCell ⟨C, 0, none⟩ (.slice aa (k + 1) cc)) := Only.setCell (S := fun k => k = C) W10 rfl _
        refine ⟨k + 1, _, by omega, by go_num, HX10.out.set rfl, ?_, HBB10.out.trans (ho.below HBB10.out.size (fun k hk => by rw [hk, HCE.out]; omega))⟩
        rw [HTK.out]
        exact hro.only ho (fun k hk e => row_ne HX10.out hro (by decide) (e ▸ hk))
      case measure => simp [intOf]; omega
    · have HE : Hid ((L.take k).map Ag.at_ = L.map Ag.at_) := Lib.hid (by rw [List.take_of_length_le (by omega)])
      obtain ⟨d0, d1⟩ := HX2.out.cell
      go_wp2_with fail
      go_ret
      exact ⟨⟨_, rfl, by rw [← HE.out]; exact HROW2.out⟩, HBB2.out⟩
set_option maxHeartbeats 8000000 in
set_option maxRecDepth 100000 in
theorem titicks_long {w : World} {p sp : Nat} {v vm vl : Value} {s : Stk} (h : TSit w p sp v vm vl s) :
    Calls Tryz.prog 72 #[.pointer (some ⟨p, 0, none⟩), .int .i64 2] w fun e w' => (∃ u, e = .returned u ∧ IntRow w.heap.size w' u (s.long.map Ag.at_)) ∧ Below w.heap.size w w' := by
  have hlen := h.good.long.len
  have HLI := Lib.hid h.long.lies
  obtain ⟨-, -, -, ca, -, -, -⟩ := h.cells
  obtain ⟨am, cm, e0⟩ := own_slice h.long
  have hp := lt_of_block h.at_
  obtain ⟨L, hL⟩ : ∃ L, L = s.long := ⟨_, rfl⟩
  rw [← hL] at hlen HLI e0 ⊢
  rw [e0] at ca HLI
  clear h hL e0
  go_enter Tryz.func72, Tryz.ntmps72
  go_upto_region 2 with fail
  refine wp_name fun W1 hW1 => ?_
  obtain ⟨C, hC⟩ : ∃ C, C = w.heap.size := ⟨_, rfl⟩
  have hb1 : Below w.heap.size w W1 := by rw [hW1.out]; exact (Below.refl _ _).alloc (Nat.le_refl _) _
  have HX1 : Hid (BoxV W1 C (.slice none 0 0)) := Lib.hid (by rw [hW1.out, hC]; exact heap_alloc_new w _)
  have HB1 := Lib.hid hb1
  replace ca := (hb1.cell (p := ⟨p, 3, none⟩) hp).trans ca
  have HCE := Lib.hid hC
  rw [← hC]
  clear hW1 hb1 hC hp
  go_wp2_with fail
  go_loopw [29] (fun c wr => ∃ (k : Nat) (u : Value), k ≤ L.length ∧ c = .int .i64 k ∧ BoxV wr C u ∧ IntRow w.heap.size wr u ((L.take k).map Ag.at_) ∧ Below w.heap.size w wr) (fun c _ => L.length - (intOf c).toNat)
  case atStart => exact ⟨0, _, Nat.zero_le _, rfl, HX1.out, IntRow.nil _ _, HB1.out⟩
  case round =>
    clear ca HX1 HB1
    obtain ⟨k, u, hk, rfl, hbx, hrow, hbb⟩ := hrel
    obtain ⟨W2, hW2⟩ : ∃ W2, W2 = wr := ⟨_, rfl⟩
    subst hW2
    have HX2 := Lib.hid hbx
    have HROW2 := Lib.hid hrow
    have HBB2 := Lib.hid hbb
    clear hbx hrow hbb
    by_cases hlt : k < L.length
    · obtain ⟨x, hx⟩ : ∃ x, L[k]? = some x := ⟨L[k], List.getElem?_eq_getElem hlt⟩
      have hly : ALies W2 (.slice am L.length cm) L := HLI.out.beyond HBB2.out
      obtain ⟨a', b', off, cap, e1, hadr, hpts⟩ := hly
      injection e1 with e1 e2 e3
      have ea := hadr (by intro h0; simp [h0] at hlt)
      rw [← e1] at ea
      subst ea
      obtain ⟨c0, c1, c2, c3, c4⟩ := hpts k x hx
      have HTK : Hid ((L.take (k + 1)).map Ag.at_ = (L.take k).map Ag.at_ ++ [x.at_]) := Lib.hid (by rw [take_snoc hx, List.map_append]; rfl)
      have HLT : Hid (((L.take k).map Ag.at_).length ≤ 256) := Lib.hid (by rw [List.length_map, List.length_take]; omega)
      have hmax : k < 9223372036854775807 := by omega
      clear hx hadr hpts e1 e2 e3
      go_upto_region 9 with fail
      refine wp_name fun W3 hW3 => ?_
      obtain ⟨M, hM⟩ : ∃ M, M = W2.heap.size := ⟨_, rfl⟩
      have hb3 : Below W2.heap.size W2 W3 := by rw [hW3.out]; exact (Below.refl _ _).alloc (Nat.le_refl _) _
      have HA3 : Hid (AgAt W3 M x) := Lib.hid (by rw [hW3.out, hM]; exact AgAt.new W2 x)
      have HROW3 := Lib.hid (HROW2.out.keep hb3)
      have HX3 := Lib.hid (HX2.out.keep hb3)
      have HBB3 := Lib.hid (HBB2.out.trans (hb3.mono HBB2.out.size))
      rw [← hM]
      clear hb3 hW3 hM HROW2 HX2 HBB2 c0 c1 c2 c3 c4
      obtain ⟨c0, -, -, -, -, -, -, -, -, -⟩ := HA3.out.cells
      obtain ⟨d0, d1⟩ := HX3.out.cell
      have HRW := Lib.hid (HROW3.out.keep ((Below.refl W3.heap.size W3).alloc (Nat.le_refl _) (.cells #[.int .i64 x.at_] 2)))
      have HXW := Lib.hid (HX3.out.keep ((Below.refl W3.heap.size W3).alloc (Nat.le_refl _) (.cells #[.int .i64 x.at_] 2)))
      have HBX := Lib.hid (HBB3.out.alloc HBB3.out.size (.cells #[.int .i64 x.at_] 2))
      have HNW : Hid ((W3.alloc (.cells #[.int .i64 x.at_] 2)).cell? ⟨W3.heap.size, 0, none⟩ = some (.int .i64 x.at_)) := Lib.hid (cells1 (heap_alloc_new W3 _)).1
      have HNE : Hid (u.ownBlock ≠ some C) := Lib.hid (row_ne HX3.out HROW3.out (by decide))
      go_wp2_with (at_builtin; refine wpList_append_int rfl (.tmp 33) (.tmp 36) rfl w.heap.size _ _ rfl HRW.out W3.heap.size x.at_ rfl HNW.out (by have := HLT.out; omega) HBX.out.size ?_; intro v10 W10 HROW10 hgrow; have HBB10 : Hid (Below w.heap.size w W10) := Lib.hid (HBX.out.grown hgrow.out HBX.out.size (fun b hb => (HRW.out.lt b hb).1)); have HX10 : Hid (BoxV W10 C u) := Lib.hid ((hgrow.out.block C (lt_of_block HXW.out) (fun e => HNE.out e.symm)).trans HXW.out); clear hgrow d0 d1 c0; obtain ⟨d0, d1⟩ := HX10.out.cell; obtain ⟨aa, cc, ee⟩ := own_slice HROW10.out; subst ee)
      go_roundw
      case rel =>
        have hro : IntRow w.heap.size W10 (.slice aa (k + 1) cc) ((L.take k).map Ag.at_ ++ [x.at_]) := by
          have h := HROW10.out
          rwa [show ((L.take k).map Ag.at_ ++ [x.at_]).length = k + 1 by simp; omega] at h
        have ho : Only (fun k => k = C) W10 (W10.setCell ⟨C, 0, none⟩ (.slice aa (k + 1) cc)) := Only.setCell (S := fun k => k = C) W10 rfl _
        refine ⟨k + 1, _, by omega, by go_num, HX10.out.set rfl, ?_, HBB10.out.trans (ho.below HBB10.out.size (fun k hk => by rw [hk, HCE.out]; omega))⟩
        rw [HTK.out]
        exact hro.only ho (fun k hk e => row_ne HX10.out hro (by decide) (e ▸ hk))
      case measure => simp [intOf]; omega
    · have HE : Hid ((L.take k).map Ag.at_ = L.map Ag.at_) := Lib.hid (by rw [List.take_of_length_le (by omega)])
      obtain ⟨d0, d1⟩ := HX2.out.cell
      go_wp2_with fail
      go_ret
      exact ⟨⟨_, rfl, by rw [← HE.out]; exact HROW2.out⟩, HBB2.out⟩
end Go.Proofs.YthbdchleppbidaaGreat
