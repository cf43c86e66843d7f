/- slices.AppendSeq and Collect, over All of a series. -/
import Derived.Test.YtmpphidiofhnlaaZSeSeq
import Derived.Test.YtmpphidiofhnlaaMC
import Derived.RangeFuncNested
import Derived.RangeFuncBound
import Derived.RangeFuncCalls
import Derived.RangeFuncLeaves
import Derived.RangeFuncBox
import Derived.OwnWalkIn
import Derived.TacticsInMore
import Derived.LoopNIn
import Derived.LoopIn
import Derived.Maps.AppendAt
namespace Go.Proofs.Ytmpphidiofhnlaa
open Go.RowKit Go.Shelf

attribute [local go_sem] Oper.semAt_some

/-- the points that came so far -/
def cameP {l : List Pt} (pre : List (Fin l.length)) : List Pt := pre.map fun i => l[i]
theorem came_all (l : List Pt) : cameP (List.finRange l.length) = l := by
  unfold cameP
  apply List.ext_getElem?
  intro i
  rw [List.getElem?_map]
  rcases Nat.lt_or_ge i l.length with h | h
  · rw [List.getElem?_eq_getElem (by simpa using h), List.getElem?_eq_getElem h]; simp
  · rw [List.getElem?_eq_none (by simpa using h), List.getElem?_eq_none h]; rfl
theorem came_snoc {l : List Pt} (pre : List (Fin l.length)) (x : Fin l.length) : (cameP (pre ++ [x])).flatMap Pt.cells = (cameP pre).flatMap Pt.cells ++ [.int .i64 l[x].a, .int .i64 l[x].v] := by
  unfold cameP
  rw [List.map_append, List.flatMap_append]
  simp [Pt.cells]
theorem came_len {l : List Pt} (pre : List (Fin l.length)) : (cameP pre).length = pre.length := by simp [cameP]
/-- what the box holds between two rounds -/
def AppsI (n₀ C : Nat) (w : World) {l : List Pt} (pre : List (Fin l.length)) (W : World) : Prop :=
  (∃ u, Boxed W C 35 u ∧ W.ownsRow n₀ 31 2 u pre.length ((cameP pre).flatMap Pt.cells) ∧ True) ∧ Below n₀ w W
theorem appsI_own {n₀ C B : Nat} {w : World} (h1 : n₀ ≤ w.heap.size) (h2 : n₀ ≤ B) (l : List Pt) : OwnFrom B (fun (pre : List (Fin l.length)) W => AppsI n₀ C w pre W) :=
  OwnFrom.and (Own.from (holdsRow_own n₀ C 35 31 2 (fun pre : List (Fin l.length) => pre.length) (fun pre => (cameP pre).flatMap Pt.cells) (fun _ _ => True)) _) (ownFrom_below h1 h2)
theorem keepV_b {w : World} {v : Value} (hv : ∀ k, v.ownBlock = some k → k < w.heap.size) (W : World) (i : Nat) (o o' : Obj) (hi : w.heap.size ≤ i) (_ : W.heap[i]? = some o) (_ : o.isCells = false) (_ : o.isWalk = false) : KeepV v W (W.putObj i o') := fun k hk => by
  have := hv k hk
  exact World.putObj_heap_other (by omega)
theorem keepV_below {n₀ : Nat} {v : Value} {W W' : World} (hv : ∀ k, v.ownBlock = some k → k < n₀) (h : Below n₀ W W') : KeepV v W W' := fun k hk => h.block k (hv k hk)
theorem two_new (W : World) (a v : Int) : ∀ j u, [Value.int .i64 a, .int .i64 v][j]? = some u → (W.alloc (.cells #[.int .i64 a, .int .i64 v] 31)).cell? ((⟨W.heap.size, 0, none⟩ : Addr).add j) = some u := fun j u hj => by
  rw [add_at, Nat.zero_add]
  exact (show Arr (W.alloc (.cells #[.int .i64 a, .int .i64 v] 31)) W.heap.size 31 [.int .i64 a, .int .i64 v] from heap_alloc_new W _).cell hj
set_option maxHeartbeats 16000000 in
set_option maxRecDepth 1000000 in
theorem tiapps_any {w : World} {B : Nat} {v : Value} {l : List Pt} (hB : w.heap[B]? = some (.cells #[v] 35 (0, 0))) (hr : PtRowB 0 w v l) (hl : l.length ≤ 1000000) :
    Calls Try.prog 75 #[.slice none 0 0, .func (.func 76) #[] #[.pointer (some ⟨B, 0, none⟩)]] w fun e w' => ∃ v', e = .returned v' ∧ PtRowB w.heap.size w' v' l ∧ Below w.heap.size w w' := by
  obtain ⟨i0, hi, hz0, hz1, hz2⟩ := info_parts infoPt
  refine (callsIn_wide (n := 4)).1 ?_
  refine callsIn_of_wp_marks Try.func75 rfl trivial ?_ rfl
  simp only [Try.ntmps75, List.size_toArray, List.length_cons, List.length_nil, Nat.reduceAdd, Nat.reduceSub, Array.replicate_succ, Array.replicate_zero, List.push_toArray, List.append_toArray, List.nil_append, List.cons_append]
  refine wpIn_wide.2 ?_
  have HB := Lib.hid hB
  have HR := Lib.hid hr
  clear hB hr
  go_wp2_with fail
  refine wp_name fun W0 hW0 => ?_
  obtain ⟨C, hC⟩ : ∃ C, C = w.heap.size := ⟨_, rfl⟩
  have hb0 : Below C w W0 := by rw [hW0.out, hC]; exact (Below.refl _ _).alloc (Nat.le_refl _) _
  have hbox : Boxed W0 C 35 (.slice none 0 0) := by rw [hW0.out, hC]; exact Boxed.new w _ _
  have hsz : W0.heap.size = C + 1 := by rw [hW0.out, hC]; simp
  have hB0 : W0.heap[B]? = some (.cells #[v] 35 (0, 0)) := (hb0.block B (by rw [hC]; exact lt_of_block HB.out)).trans HB.out
  have hr0 : PtRowB 0 W0 v l := HR.out.keep (by rw [← hC]; exact hb0)
  have hvl : ∀ k, v.ownBlock = some k → k < C := fun k hk => by rw [hC]; exact (HR.out.lt k hk).2
  have HVL := Lib.hid hvl
  have HC := Lib.hid hC
  rw [← hC]
  clear hW0 hC hvl
  refine (wpIn_wide (n := 4)).1 ?_
  refine wpIn_rangeFunc_ownH (α := Fin l.length) rfl (by omega) (gf := 76) (lb := #[.pointer (some ⟨B, 0, none⟩)]) rfl trivial (enters_of Try.func76 (by kernel_rfl) rfl)
    (all_seq 3 B W0 v l (by omega) hB0 hr0 hl) (fun h k => KeepV.trans h k) (keepV_b (fun k hk => by have := HVL.out k hk; omega)) (Below.refl _ _) (fun _ => rfl)
    (fun pre W => AppsI C C w pre W) (fun _ _ _ => False)
    (appsI_own (by rw [HC.out]; exact Nat.le_refl _) (by omega) l) (fun _ _ _ _ _ hs _ _ => hs)
    ⟨⟨_, hbox, World.ownsRow_nil _ _ _ _, trivial⟩, hb0⟩
    (fun x a' W => ∃ Bx, C < Bx ∧ W.heap[Bx]? = some (.cells #[.int .i64 l[x].a, .int .i64 l[x].v] 31 (0, 0)) ∧ a' = { tmps := #[.slice none 0 0, .func (.func 76) #[] #[.pointer (some ⟨B, 0, none⟩)], .pointer (some ⟨C, 0, none⟩), undef, .slice none 0 0, .pointer (some ⟨Bx, 0, none⟩), .func (.func 76) #[] #[.pointer (some ⟨B, 0, none⟩)], .agg #[.int .i64 l[x].a, .int .i64 l[x].v], undef, undef, undef, undef, undef], defers := [] })
    (fun x a' _ X Y row hs hg hrw => by
      obtain ⟨Bx, h1, h2, h3⟩ := hs
      refine ⟨Bx, h1, (hg.block Bx (lt_of_block h2) (fun e => ?_)).trans h2, h3⟩
      obtain ⟨-, o, ho, hc⟩ := hrw Bx e.symm
      rw [h2] at ho
      cases ho
      cases hc) ?assign ?body ?done ?stop
  case assign =>
    rintro lp pre x W K hi hK
    obtain ⟨⟨u, hu, hrow, -⟩, hbel⟩ := hi
    have hlt := hu.lt
    gi_wp2
    exact hK _ _ ((KeepsOthers.alloc W _).from _) (keepV_below (n₀ := W.heap.size) (fun k hk => by have := HVL.out k hk; omega) ((Below.refl _ W).alloc (Nat.le_refl _) _))
      ⟨⟨u, hu.alloc _, hrow.alloc _, trivial⟩, hbel.alloc (by omega) _⟩ ⟨W.heap.size, hlt, heap_alloc_new W _, rfl⟩
  case body =>
    rintro lp pre x a' W hlp hrec hi2 ⟨Bx, hBx, hX, rfl⟩ hlt
    obtain ⟨⟨u, hu, hrow, -⟩, hbel⟩ := hi2
    have hlt2 := hu.lt
    have c0 := hu.cell
    obtain ⟨x0, x1, -, -⟩ := cells2 hX
    have hsnoc := came_snoc pre x
    have hlen : (pre ++ [x]).length = pre.length + 1 := by simp
    obtain ⟨xa, hxa⟩ : ∃ xa, xa = l[x].a := ⟨_, rfl⟩
    obtain ⟨xv, hxv⟩ : ∃ xv, xv = l[x].v := ⟨_, rfl⟩
    rw [← hxa, ← hxv] at hsnoc hX
    rw [← hxa] at x0 ⊢
    rw [← hxv] at x1 ⊢
    have HSN := Lib.hid hsnoc
    have HLE := Lib.hid hlen
    clear hsnoc hlen hxa hxv hrec hlp hbox hb0 hB0 hr0
    gi_wp2_with ((gi_at_builtin; refine wpListIn_append_own _ rfl _ _ 35 rfl C 31 i0 (.agg #[.int .i64 0, .int .i64 0]) 2 16 Try.underlying35 hi hz0 hz1 hz2 rfl (by decide) _ _ _ rfl (hrow.alloc _) ⟨W.heap.size, 0, none⟩ 1 1 [.int .i64 xa, .int .i64 xv] rfl rfl (two_new W xa xv) (by simp [Value.oneCell']) (by unfold maxLen; omega) (by omega) (by simp; omega) ?_; intro v' w1 hown' hgrow _; obtain ⟨g', cap', rfl⟩ := ownsRow_succ hown'; obtain ⟨hv1, hv2, hr2, hk2, hb2⟩ := hu.appended (by decide) hrow (by omega) (Nat.le_refl _) hown' hgrow; have hc1 := hv1.cell; have hf1 := hv1.frozen))
    exact ⟨hk2.from _, keepV_below HVL.out hb2, ⟨_, hv2, by rw [HSN.out, HLE.out]; exact hr2, trivial⟩, hbel.trans hb2⟩
  case done =>
    rintro D xs W hD rfl hi2 hK
    obtain ⟨⟨u, hu, hrow, -⟩, hbel⟩ := hi2
    have c0 := hu.cell
    have hlt2 := hu.lt
    rw [came_all] at hrow
    have HROW : Hid (PtRowB C W u l) := Lib.hid (by unfold PtRowB; simpa using hrow)
    clear hrow hbox hb0 hB0 hr0
    go_wp2_with fail
    refine ⟨by simp, .inl ⟨_, _, rfl, run_takeDeferred hK, ?_⟩⟩
    refine ⟨_, results_tmp rfl _ _ _, _, rfl, ?_, ?_⟩
    · rw [← HC.out]
      exact ownsRow_putObj HROW.out _ hK rfl
    · rw [← HC.out]
      exact hbel.grown (grownBy_putObj' W D _) (by rw [HC.out]; exact hbel.size) (fun k e => by cases e; omega)
  case stop =>
    rintro D c pre W _ _ h _
    exact h.elim
theorem ticollect_any {w : World} {B : Nat} {v : Value} {l : List Pt} (hB : w.heap[B]? = some (.cells #[v] 35 (0, 0))) (hr : PtRowB 0 w v l) (hl : l.length ≤ 1000000) :
    Calls Try.prog 50 #[.func (.func 76) #[] #[.pointer (some ⟨B, 0, none⟩)]] w fun e w' => ∃ v', e = .returned v' ∧ PtRowB w.heap.size w' v' l ∧ Below w.heap.size w w' := by
  have H := Lib.hid (tiapps_any hB hr hl)
  clear hB hr
  go_enter Try.func50, Try.ntmps50
  go_wp2_with fail
  refine H.out.mono ?_
  rintro e W2 ⟨v', rfl, h1, h2⟩
  have H1 := Lib.hid h1
  have H2 := Lib.hid h2
  clear h1 h2
  go_wp2
  go_ret
  exact ⟨_, rfl, H1.out, H2.out⟩
end Go.Proofs.Ytmpphidiofhnlaa
