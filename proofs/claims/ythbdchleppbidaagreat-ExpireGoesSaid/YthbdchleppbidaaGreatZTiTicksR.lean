/- Package tier: where a tier's points begin. -/
import Derived.Test.YthbdchleppbidaaGreatZTiTicks
import Derived.Test.YthbdchleppbidaaGreatMY
import Derived.RangeFuncNested
import Derived.RangeFuncBound
import Derived.RangeFuncCalls
import Derived.RangeFuncLeaves
import Derived.RangeFuncBox
import Derived.OwnWalkIn
import Derived.TacticsInMore
import Derived.LoopNIn
import Derived.LoopIn
import Derived.Maps.AppendAt
import Derived.Handy
namespace Go.Proofs.YthbdchleppbidaaGreat
open Go.RowKit Go.Shelf

attribute [local go_sem] Oper.semAt_some

/-- what the box holds between two rounds -/
def TickI (n₀ C : Nat) (w : World) {l : List Pt} (pre : List (Fin l.length)) (W : World) : Prop :=
  (∃ u, Boxed W C 51 u ∧ W.ownsRow n₀ 2 1 u pre.length ((cameP pre).map fun q => Value.int .i64 q.a) ∧ True) ∧ Below n₀ w W
theorem tickI_own {n₀ C B : Nat} {w : World} (h1 : n₀ ≤ w.heap.size) (h2 : n₀ ≤ B) (l : List Pt) : OwnFrom B (fun (pre : List (Fin l.length)) W => TickI n₀ C w pre W) :=
  OwnFrom.and (Own.from (holdsRow_own n₀ C 51 2 1 (fun pre : List (Fin l.length) => pre.length) (fun pre => (cameP pre).map fun q => Value.int .i64 q.a) (fun _ _ => True)) _) (ownFrom_below h1 h2)
/-- the row that is gone through lies as it lay -/
theorem sameV_own {B : Nat} {v : Value} {V : World} {l : List Pt} (hv : ∀ k, v.ownBlock = some k → k < B ∧ k < V.heap.size) : OwnFrom B (fun (_ : List (Fin l.length)) W => V.heap.size ≤ W.heap.size ∧ ∀ k, v.ownBlock = some k → W.heap[k]? = V.heap[k]?) := fun _ X Y row hs hg hr =>
  ⟨Nat.le_trans hs.1 hg.size, fun k hk => (hg.block k (Nat.lt_of_lt_of_le (hv k hk).2 hs.1) (fun e => by have := (hr k e.symm).1; have := (hv k hk).1; omega)).trans (hs.2 k hk)⟩
theorem ptrow_cells {B : Nat} {W : World} {v : Value} {l : List Pt} (h : PtRowB B W v l) (k : Nat) (hk : v.ownBlock = some k) : ∃ cs, W.heap[k]? = some (.cells cs 47 (0, 0)) := by
  rcases h.2 with ⟨rfl, _⟩ | ⟨g, cap, cur, rfl, _, hg, _⟩
  · simp [Value.ownBlock] at hk
  · simp [Value.ownBlock] at hk
    subst hk
    exact ⟨_, hg⟩
theorem one_newI (W : World) (z : Int) : ∀ j u, [Value.int .i64 z][j]? = some u → (W.alloc (.cells #[.int .i64 z] 2)).cell? ((⟨W.heap.size, 0, none⟩ : Addr).add j) = some u := fun j u hj => by
  rw [add_at, Nat.zero_add]
  exact (show Arr (W.alloc (.cells #[.int .i64 z] 2)) W.heap.size 2 [.int .i64 z] from heap_alloc_new W _).cell hj
set_option maxHeartbeats 16000000 in
set_option maxRecDepth 1000000 in
theorem titicks_raw {w : World} {p sp : Nat} {v vm vl : Value} {s : Stk} (h : TSit w p sp v vm vl s) :
    Calls Tryz.prog 72 #[.pointer (some ⟨p, 0, none⟩), .int .i64 0] w fun e w' => (∃ u, e = .returned u ∧ IntRow w.heap.size w' u (s.raw.map Pt.a)) ∧ Below w.heap.size w w' := by
  obtain ⟨i0, hi, hz0, hz1, hz2⟩ := info_parts infoInt64
  have hlen := h.good.plen
  have HSA : Hid (∀ W, TSit W p sp v vm vl s → Calls Tryz.prog 107 #[.pointer (some ⟨sp, 0, none⟩)] W fun e w' => ∃ B v', e = .returned (.func (.func 124) #[] #[.pointer (some ⟨B, 0, none⟩)]) ∧ w'.heap[B]? = some (.cells #[v'] 44 (0, 0)) ∧ W.heap.size ≤ B ∧ PtRowB W.heap.size w' v' s.raw ∧ Below W.heap.size W w') := Lib.hid fun W hW => seall_any hW.ser
  obtain ⟨L, hL⟩ : ∃ L, L = s.raw := ⟨_, rfl⟩
  rw [← hL] at HSA hlen ⊢
  clear hL
  refine (callsIn_wide (n := 4)).1 ?_
  refine callsIn_of_wp_marks Tryz.func72 rfl trivial ?_ rfl
  simp only [Tryz.ntmps72, List.size_toArray, List.length_cons, List.length_nil, Nat.reduceAdd, Nat.reduceSub, Array.replicate_succ, Array.replicate_zero, List.push_toArray, List.append_toArray, List.nil_append, List.cons_append]
  refine wpIn_wide.2 ?_
  have HT := Lib.hid h
  clear h
  go_upto_region 2 with fail
  refine wp_name fun W1 hW1 => ?_
  obtain ⟨C, hC⟩ : ∃ C, C = w.heap.size := ⟨_, rfl⟩
  have hb1 : Below w.heap.size w W1 := by rw [hW1.out]; exact (Below.refl _ _).alloc (Nat.le_refl _) _
  have HX1 : Hid (Boxed W1 C 51 (.slice none 0 0)) := Lib.hid (by rw [hW1.out, hC]; exact Boxed.new w _ _)
  have HB1 := Lib.hid hb1
  have HT1 := Lib.hid (HT.out.keep hb1)
  have HC := Lib.hid hC
  rw [← hC]
  clear hW1 hb1 hC
  obtain ⟨c0, c1, -, -, -, -, -⟩ := HT1.out.cells
  go_wp2_with fail
  refine (HSA.out W1 HT1.out).mono ?_
  rintro e W2 ⟨B, v', rfl, hB, hBC, hr, hb⟩
  have HT2 := Lib.hid (HT1.out.keep hb)
  have HX2 : Hid (Boxed W2 C 51 (.slice none 0 0)) := Lib.hid ((hb.block C (lt_of_block HX1.out)).trans HX1.out)
  have HB2 := Lib.hid (HB1.out.trans (hb.mono HB1.out.size))
  have HBB := Lib.hid hB
  have HRR : Hid (PtRowB 0 W2 v' L) := Lib.hid (row_base hr (Nat.zero_le _))
  have HCL : Hid (C < W2.heap.size) := Lib.hid (lt_of_block HX2.out)
  have HVL : Hid (∀ k, v'.ownBlock = some k → k < W2.heap.size) := Lib.hid fun k hk => (hr.lt k hk).2
  clear hb hB hBC hr c0 c1 HT1 HX1 HB1 HSA
  dsimp only
  go_wp2_with fail
  have HT2C : Hid (C ≤ W2.heap.size) := Lib.hid (by have := HCL.out; omega)
  refine (wpIn_wide (n := 4)).1 ?_
  refine wpIn_rangeFunc_ownH (α := Fin L.length) rfl (by omega) (gf := 124) (lb := #[.pointer (some ⟨B, 0, none⟩)]) rfl trivial (enters_of Tryz.func124 (by kernel_rfl) rfl)
    (all_seq 3 B W2 v' L (by omega) HBB.out HRR.out (by omega)) (fun h k => KeepV.trans h k) (keepV_b (fun k hk => HVL.out k hk)) (Below.refl _ _) (fun _ => rfl)
    (fun pre W => TickI C C w pre W ∧ W2.heap.size ≤ W.heap.size ∧ ∀ k, v'.ownBlock = some k → W.heap[k]? = W2.heap[k]?) (fun _ _ _ => False)
    (OwnFrom.and (tickI_own (by rw [HC.out]; exact Nat.le_refl _) HT2C.out L) (sameV_own fun k hk => ⟨HVL.out k hk, HVL.out k hk⟩)) (fun _ _ _ _ _ hs _ _ => hs)
    ⟨⟨⟨_, HX2.out, World.ownsRow_nil _ _ _ _, trivial⟩, by rw [HC.out]; exact HB2.out⟩, Nat.le_refl _, fun _ _ => rfl⟩
    (fun x a' W => ∃ Bx, C < Bx ∧ W.heap[Bx]? = some (.cells #[.int .i64 L[x].a, .int .i64 L[x].v] 47 (0, 0)) ∧ a' = { tmps := #[.pointer (some ⟨p, 0, none⟩), .int .i64 0, undef, undef, .slice none 0 0, .pointer (some ⟨C, 0, none⟩), .pointer (some ⟨Bx, 0, none⟩), undef, undef, .int .i64 0, .bool true, .pointer (some ⟨p, 0, none⟩), .pointer (some ⟨p, 0, none⟩), .pointer (some ⟨p, 0, none⟩), .pointer (some ⟨sp, 0, none⟩), .func (.func 124) #[] #[.pointer (some ⟨B, 0, none⟩)], .agg #[.int .i64 L[x].a, .int .i64 L[x].v], undef, undef, undef, undef, undef, undef, undef, undef, undef, undef, undef, undef, undef, undef, undef, undef, undef, undef, undef, undef, undef, undef, undef], defers := [] })
    (fun x a' _ X Y row hs hg hrw => by
      obtain ⟨Bx, h1, h2, h3⟩ := hs
      refine ⟨Bx, h1, (hg.block Bx (lt_of_block h2) (fun e => ?_)).trans h2, h3⟩
      obtain ⟨-, o, ho, hc⟩ := hrw Bx e.symm
      rw [h2] at ho
      cases ho
      cases hc) ?assign ?body ?done ?stop
  case assign =>
    rintro lp pre x W K hi hK
    obtain ⟨⟨⟨u, hu, hrow, -⟩, hbel⟩, hsz, hsv⟩ := hi
    have hlt := hu.lt
    have hv2 : ∀ k, v'.ownBlock = some k → k < W.heap.size := fun k hk => Nat.lt_of_lt_of_le (HVL.out k hk) hsz
    gi_wp2
    exact hK _ _ ((KeepsOthers.alloc W _).from _) (keepV_below (n₀ := W.heap.size) hv2 ((Below.refl _ W).alloc (Nat.le_refl _) _))
      ⟨⟨⟨u, hu.alloc _, hrow.alloc _, trivial⟩, hbel.alloc (by omega) _⟩, by simp; omega, fun k hk => (Below.heap_alloc _ _ _ (hv2 k hk)).trans (hsv k hk)⟩ ⟨W.heap.size, hlt, heap_alloc_new W _, rfl⟩
  case body =>
    rintro lp pre x a' W hlp hrec hi2 ⟨Bx, hBx, hX, rfl⟩ hlt
    obtain ⟨⟨⟨u, hu, hrow, -⟩, hbel⟩, hsz, hsv⟩ := hi2
    have hlt2 := hu.lt
    have c0 := hu.cell
    obtain ⟨x0, x1, -, -⟩ := cells2 hX
    have hsnoc : (cameP (pre ++ [x])).map (fun q => Value.int .i64 q.a) = (cameP pre).map (fun q => Value.int .i64 q.a) ++ [.int .i64 L[x].a] := by unfold cameP; simp
    have hlen2 : (pre ++ [x]).length = pre.length + 1 := by simp
    obtain ⟨xa, hxa⟩ : ∃ xa, xa = L[x].a := ⟨_, rfl⟩
    rw [← hxa] at hsnoc hX x0 ⊢
    have HSN := Lib.hid hsnoc
    have HLE := Lib.hid hlen2
    have HSZ := Lib.hid hsz
    have HSV := Lib.hid hsv
    have HU := Lib.hid hu
    have HRW := Lib.hid hrow
    clear hsnoc hlen2 hxa hrec hlp hsz hsv
    gi_wp2_with ((gi_at_builtin; refine wpListIn_append_own _ rfl _ _ 51 rfl C 2 i0 (.int .i64 0) 1 8 Tryz.underlying51 hi hz0 hz1 hz2 rfl (by decide) _ _ _ rfl (hrow.alloc _) ⟨W.heap.size, 0, none⟩ 1 1 [.int .i64 xa] rfl rfl (one_newI W xa) (by simp [Value.oneCell']) (by unfold maxLen; omega) (by omega) (by simp; omega) ?_; intro v2 w1 hown' hgrow _; obtain ⟨g', cap', rfl⟩ := ownsRow_succ hown'; obtain ⟨hv1, hv2, hr2, hk2, hb2⟩ := hu.appended (by decide) hrow (by omega) (Nat.le_refl _) hown' hgrow; have hc1 := hv1.cell; have hf1 := hv1.frozen; have HG := Lib.hid hgrow))
    have hkv : ∀ k, v'.ownBlock = some k → (w1.setCell ⟨C, 0, none⟩ (.slice (some ⟨g', 0, none⟩) (pre.length + 1) cap')).heap[k]? = W.heap[k]? := fun k hk => by
      obtain ⟨cs, hcs⟩ := ptrow_cells HRR.out k hk
      have hWk := (HSV.out k hk).trans hcs
      have hkl : k < W.heap.size := Nat.lt_of_lt_of_le (HVL.out k hk) HSZ.out
      have hkC : k ≠ C := fun e => by
        subst e
        have h1 : W.heap[k]? = some (.cells #[u] 51 (0, 0)) := HU.out
        rw [hWk] at h1
        injection h1 with h1
        injection h1 with _ h2 _
        revert h2; decide
      refine (Below.heap_setCell _ _ _ _ hkC).trans ((HG.out.block k (by simp; omega) (fun e => ?_)).trans (Below.heap_alloc _ _ _ hkl))
      exact row_ne hWk HRW.out (by decide) e.symm
    exact ⟨hk2.from _, hkv, ⟨⟨_, hv2, by rw [HSN.out, HLE.out]; exact hr2, trivial⟩, hbel.trans hb2⟩, Nat.le_trans HSZ.out hb2.size, fun k hk => (hkv k hk).trans (HSV.out k hk)⟩
  case done =>
    rintro D xs W hD rfl hi2 hK
    obtain ⟨⟨⟨u, hu, hrow, -⟩, hbel⟩, -, -⟩ := hi2
    have c0 := hu.cell
    have hlt2 := hu.lt
    rw [came_all] at hrow
    have HROW : Hid (IntRow C W u (L.map Pt.a)) := Lib.hid (by unfold IntRow; rw [List.map_map, List.length_map]; simpa [Function.comp_def] using hrow)
    have hT := HT.out.keep (w' := W) (by rw [← HC.out]; exact hbel)
    obtain ⟨-, t1, -, -, -, -, -⟩ := hT.cells
    have HTW := Lib.hid hT
    clear hrow hT
    go_wp2_with fail
    go_rounds 1
    refine ⟨by simp, .inl ⟨_, _, rfl, run_takeDeferred hK, ?_⟩⟩
    refine ⟨_, results_tmp rfl _ _ _, ⟨_, rfl, ?_⟩, ?_⟩
    · rw [← HC.out]
      exact ownsRow_putObj HROW.out _ hK rfl
    · rw [← HC.out]
      exact hbel.grown (grownBy_putObj' W D _) (by rw [HC.out]; exact hbel.size) (fun k e => by cases e; have := HCL.out; omega)
  case stop =>
    rintro D c pre W _ _ h _
    exact h.elim
end Go.Proofs.YthbdchleppbidaaGreat
