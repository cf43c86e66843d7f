/- slices.AppendSeq and Collect, over maps.Values of the map of holds. -/
import Derived.Test.YthbdchleppbidaaGreatZHoSeq0
import Derived.RangeFuncNested
import Derived.RangeFuncBound
import Derived.RangeFuncCalls
import Derived.RangeFuncBox
import Derived.Maps.AppendAt
namespace Go.Proofs.YthbdchleppbidaaGreat
open Go.RowKit Go.Maps Go.Shelf

attribute [local go_sem] Oper.semAt_some

theorem infoHo : (Tryz.prog.info? 60).map (fun i => (i.zero, i.size, i.bytes)) = some (some (.agg #[.string ⟨#[]⟩, .string ⟨#[]⟩, .int .i64 0, .int .i64 0]), 4, 48) := by kernel_rfl
theorem infoHo_parts : ∃ i, Tryz.prog.info? 60 = some i ∧ i.zero = some (.agg #[.string ⟨#[]⟩, .string ⟨#[]⟩, .int .i64 0, .int .i64 0]) ∧ i.size = 4 ∧ i.bytes = 48 := by
  have h := infoHo
  cases hi : Tryz.prog.info? 60 with
  | none => rw [hi] at h; simp at h
  | some i => rw [hi] at h; simp at h; exact ⟨i, rfl, h.1, h.2.1, h.2.2⟩
/-- a row of one's own of holds -/
def HoRow (B : Nat) (w : World) (v : Value) (l : List Hld) : Prop := w.ownsRow B 60 4 v l.length (l.flatMap Hld.cells)
theorem HoRow.keep {B : Nat} {w w' : World} {v : Value} {l : List Hld} (h : HoRow B w v l) (hb : Below w.heap.size w w') : HoRow B w' v l := ownsRow_beyond h hb
theorem HoRow.nil (B : Nat) (w : World) : HoRow B w (.slice none 0 0) [] := World.ownsRow_nil _ _ _ _
theorem HoRow.base {B B' : Nat} {w : World} {v : Value} {l : List Hld} (h : HoRow B w v l) (hB : B' ≤ B) : HoRow B' w v l := row_base h hB
theorem HoRow.alloc {B : Nat} {w : World} {v : Value} {l : List Hld} (h : HoRow B w v l) (o : Obj) : HoRow B (w.alloc o) v l := own_alloc h o
theorem HoRow.lt {B : Nat} {w : World} {v : Value} {l : List Hld} (h : HoRow B w v l) : ∀ k, v.ownBlock = some k → B ≤ k ∧ k < w.heap.size := by
  intro k hk
  rcases h.2 with ⟨rfl, _⟩ | ⟨g, cap, cur, rfl, hB, hg, _⟩
  · simp [Value.ownBlock] at hk
  · injection hk with hk; subst hk; exact ⟨hB, lt_of_block hg⟩
/-- what the box holds between two rounds -/
def AppsH (n₀ C : Nat) (w : World) (pre : List Hld) (W : World) : Prop :=
  (∃ u, Boxed W C 23 u ∧ W.ownsRow n₀ 60 4 u pre.length (pre.flatMap Hld.cells) ∧ True) ∧ Below n₀ w W
theorem appsH_own {n₀ C B : Nat} {w : World} (h1 : n₀ ≤ w.heap.size) (h2 : n₀ ≤ B) : OwnFrom B (fun (pre : List Hld) W => AppsH n₀ C w pre W) :=
  OwnFrom.and (Own.from (holdsRow_own n₀ C 23 60 4 (fun pre : List Hld => pre.length) (fun pre => pre.flatMap Hld.cells) (fun _ _ => True)) _) (ownFrom_below h1 h2)
theorem four_ho (W : World) (n s : ByteArray) (a b : Int) : ∀ j u, [Value.string n, .string s, .int .i64 a, .int .i64 b][j]? = some u → (W.alloc (.cells #[.string n, .string s, .int .i64 a, .int .i64 b] 60)).cell? ((⟨W.heap.size, 0, none⟩ : Addr).add j) = some u := fun j u hj => by
  rw [add_at, Nat.zero_add]
  exact (show Arr (W.alloc (.cells #[.string n, .string s, .int .i64 a, .int .i64 b] 60)) W.heap.size 60 [.string n, .string s, .int .i64 a, .int .i64 b] from heap_alloc_new W _).cell hj
theorem cells_snoc (pre : List Hld) (n s : ByteArray) (a b : Int) : (pre ++ [(⟨n, s, a, b⟩ : Hld)]).flatMap Hld.cells = pre.flatMap Hld.cells ++ [.string n, .string s, .int .i64 a, .int .i64 b] := by
  rw [List.flatMap_append]; simp [Hld.cells]
set_option maxHeartbeats 16000000 in
set_option maxRecDepth 1000000 in
theorem hoapps_any {w : World} {Bm : Nat} {m : List Hld} (hl : m.length ≤ 1000000)
    (hseq : SeqStopsK Fence.wide 3 Tryz.prog 114 #[.pointer (some ⟨Bm, 0, none⟩)] (fun h : Hld => #[h.val]) KeepsWalks (fun xs => xs.Perm m) (fun _ => True) m.length w) :
    Calls Tryz.prog 131 #[.slice none 0 0, .func (.func 114) #[] #[.pointer (some ⟨Bm, 0, none⟩)]] w fun e w' => ∃ v' xs, e = .returned v' ∧ HoRow w.heap.size w' v' xs ∧ xs.Perm m ∧ Below w.heap.size w w' := by
  obtain ⟨i0, hi, hz0, hz1, hz2⟩ := infoHo_parts
  have HSQ := Lib.hid hseq
  clear hseq
  refine (callsIn_wide (n := 4)).1 ?_
  refine callsIn_of_wp_marks Tryz.func131 rfl trivial ?_ rfl
  simp only [Tryz.ntmps131, List.size_toArray, List.length_cons, List.length_nil, Nat.reduceAdd, Nat.reduceSub, Array.replicate_succ, Array.replicate_zero, List.push_toArray, List.append_toArray, List.nil_append, List.cons_append]
  refine wpIn_wide.2 ?_
  go_wp2_with fail
  refine wp_name fun W0 hW0 => ?_
  obtain ⟨C, hC⟩ : ∃ C, C = w.heap.size := ⟨_, rfl⟩
  have hb0 : Below C w W0 := by rw [hW0.out, hC]; exact (Below.refl _ _).alloc (Nat.le_refl _) _
  have hbox : Boxed W0 C 23 (.slice none 0 0) := by rw [hW0.out, hC]; exact Boxed.new w _ _
  have hsz : W0.heap.size = C + 1 := by rw [hW0.out, hC]; simp
  have HC := Lib.hid hC
  rw [← hC]
  clear hW0 hC
  refine (wpIn_wide (n := 4)).1 ?_
  refine wpIn_rangeFunc_ownH (α := Hld) rfl (by omega) (gf := 114) (lb := #[.pointer (some ⟨Bm, 0, none⟩)]) rfl trivial (enters_of Tryz.func114 (by kernel_rfl) rfl)
    HSQ.out walksK_t walksK_b (by rw [← HC.out]; exact hb0) (fun _ => rfl)
    (fun pre W => AppsH C C w pre W) (fun _ _ _ => False)
    (appsH_own (by rw [HC.out]; exact Nat.le_refl _) (by omega)) (fun _ _ _ _ _ hs _ _ => hs)
    ⟨⟨_, hbox, World.ownsRow_nil _ _ _ _, trivial⟩, hb0⟩
    (fun x a' W => ∃ Bx, C < Bx ∧ W.heap[Bx]? = some (.cells #[.string x.name, .string x.ser, .int .i64 x.a, .int .i64 x.b] 60 (0, 0)) ∧ a' = { tmps := #[.slice none 0 0, .func (.func 114) #[] #[.pointer (some ⟨Bm, 0, none⟩)], .pointer (some ⟨C, 0, none⟩), undef, .slice none 0 0, .pointer (some ⟨Bx, 0, none⟩), .func (.func 114) #[] #[.pointer (some ⟨Bm, 0, none⟩)], .agg #[.string x.name, .string x.ser, .int .i64 x.a, .int .i64 x.b], undef, undef, undef, undef, undef], defers := [] })
    (fun x a' _ X Y row hs hg hrw => by
      obtain ⟨Bx, h1, h2, h3⟩ := hs
      refine ⟨Bx, h1, (hg.block Bx (lt_of_block h2) (fun e => ?_)).trans h2, h3⟩
      obtain ⟨-, o, ho, hc⟩ := hrw Bx e.symm
      rw [h2] at ho
      cases ho
      cases hc) ?assign ?body ?done ?stop
  case assign =>
    rintro lp pre ⟨n, s, a, b⟩ W K hi hK
    unfold Hld.val
    dsimp only at hK ⊢
    obtain ⟨⟨u, hu, hrow, -⟩, hbel⟩ := hi
    have hlt := hu.lt
    gi_wp2
    exact hK _ _ ((KeepsOthers.alloc W _).from _) (KeepsWalks.alloc W _) ⟨⟨u, hu.alloc _, hrow.alloc _, trivial⟩, hbel.alloc (by omega) _⟩ ⟨W.heap.size, hlt, heap_alloc_new W _, rfl⟩
  case body =>
    rintro lp pre ⟨n, s, a, b⟩ a' W hlp hrec hi2 ⟨Bx, hBx, hX, rfl⟩ hlt
    obtain ⟨⟨u, hu, hrow, -⟩, hbel⟩ := hi2
    have hlt2 := hu.lt
    have c0 := hu.cell
    have X : Arr W Bx 60 [.string n, .string s, .int .i64 a, .int .i64 b] := hX
    have x0 := X.cell (i := 0) rfl
    have x1 := X.cell (i := 1) rfl
    have x2 := X.cell (i := 2) rfl
    have x3 := X.cell (i := 3) rfl
    have hlen : (pre ++ [(⟨n, s, a, b⟩ : Hld)]).length = pre.length + 1 := by simp
    have HSN := Lib.hid (cells_snoc pre n s a b)
    have HLE := Lib.hid hlen
    clear hlen hrec hlp hbox hb0 X
    dsimp only
    gi_wp2_with ((gi_at_builtin; refine wpListIn_append_own _ rfl _ _ 23 rfl C 60 i0 (.agg #[.string ⟨#[]⟩, .string ⟨#[]⟩, .int .i64 0, .int .i64 0]) 4 48 Tryz.underlying23 hi hz0 hz1 hz2 rfl (by decide) _ _ _ rfl (hrow.alloc _) ⟨W.heap.size, 0, none⟩ 1 1 [.string n, .string s, .int .i64 a, .int .i64 b] rfl rfl (four_ho W n s a b) (by simp [Value.oneCell']) (by unfold maxLen; omega) (by omega) (by simp; omega) ?_; intro v' w1 hown' hgrow _; obtain ⟨g', cap', rfl⟩ := ownsRow_succ hown'; obtain ⟨hv1, hv2, hr2, hk2, hb2⟩ := hu.appended (by decide) hrow (by omega) (Nat.le_refl _) hown' hgrow; have hc1 := hv1.cell; have hf1 := hv1.frozen))
    exact ⟨hk2.from _, hk2.walks, ⟨_, hv2, by rw [HSN.out, HLE.out]; exact hr2, trivial⟩, hbel.trans hb2⟩
  case done =>
    rintro D xs W hD hS hi2 hK
    obtain ⟨⟨u, hu, hrow, -⟩, hbel⟩ := hi2
    have c0 := hu.cell
    have hlt2 := hu.lt
    have HROW : Hid (HoRow C W u xs) := Lib.hid hrow
    have HSP := Lib.hid hS
    clear hrow hbox hb0 hS
    go_wp2_with fail
    refine ⟨by simp, .inl ⟨_, _, rfl, run_takeDeferred hK, ?_⟩⟩
    refine ⟨_, results_tmp rfl _ _ _, _, xs, rfl, ?_, HSP.out, ?_⟩
    · rw [← HC.out]
      exact ownsRow_putObj HROW.out _ hK rfl
    · rw [← HC.out]
      exact hbel.grown (grownBy_putObj' W D _) (by rw [HC.out]; exact hbel.size) (fun k e => by cases e; omega)
  case stop =>
    rintro D c pre W _ _ h _
    exact h.elim
theorem hocollect_any {w : World} {Bm : Nat} {m : List Hld} (hl : m.length ≤ 1000000)
    (hseq : SeqStopsK Fence.wide 3 Tryz.prog 114 #[.pointer (some ⟨Bm, 0, none⟩)] (fun h : Hld => #[h.val]) KeepsWalks (fun xs => xs.Perm m) (fun _ => True) m.length w) :
    Calls Tryz.prog 112 #[.func (.func 114) #[] #[.pointer (some ⟨Bm, 0, none⟩)]] w fun e w' => ∃ v' xs, e = .returned v' ∧ HoRow w.heap.size w' v' xs ∧ xs.Perm m ∧ Below w.heap.size w w' := by
  have H := Lib.hid (hoapps_any hl hseq)
  clear hseq
  go_enter Tryz.func112, Tryz.ntmps112
  go_wp2_with fail
  refine H.out.mono ?_
  rintro e W2 ⟨v', xs, rfl, h1, h2, h3⟩
  have H1 := Lib.hid h1
  have H2 := Lib.hid h2
  have H3 := Lib.hid h3
  clear h1 h2 h3
  go_wp2
  go_ret
  exact ⟨_, xs, rfl, H1.out, H2.out, H3.out⟩
end Go.Proofs.YthbdchleppbidaaGreat
