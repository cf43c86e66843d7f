/- SeAll, UpTo, SeSeq, TiCame: laid into one. -/
import Derived.Test.YthbdchleppbidaaGreatMS
import Derived.RangeFuncNested
import Derived.RangeFuncBound
import Derived.RangeFuncCalls
import Derived.RangeFuncLeaves
import Derived.RangeFuncFrom
import Derived.Shelf.Abstract
import Derived.OwnWalkIn
import Derived.TacticsInMore
import Derived.LoopNIn
import Derived.LoopIn
import Derived.Test.YthbdchleppbidaaGreatMA
import Derived.RangeFuncKeeps
import Derived.BigRegionIn
import Derived.Test.YthbdchleppbidaaGreatMB
/- Package series: All of a series that isn't there: a function that tells nothing. -/
namespace Go.Proofs.YthbdchleppbidaaGreat
open Go.RowKit Go.Shelf

attribute [local go_sem] Oper.semAt_some

theorem seclo_nil (w : World) : Calls Tryz.prog 68 #[.slice none 0 0] w fun e w' => e = .returned (.slice none 0 0) ∧ w' = w := by
  have hq := Lib.run_eql_slice_nil (P := Tryz.prog) w 44 47 none 0 0 0 0 Tryz.underlying44
  go_enter Tryz.func68, Tryz.ntmps68
  go_wp2
  go_ret
  exact ⟨rfl, rfl⟩
theorem seall_none (w : World) : Calls Tryz.prog 107 #[.pointer none] w fun e w' => e = .returned (.func (.func 124) #[] #[.pointer (some ⟨w.heap.size, 0, none⟩)]) ∧ w' = w.alloc (.cells #[.slice none 0 0] 44) := by
  have H := Lib.hid (seheld_none w)
  have HC := Lib.hid (seclo_nil w)
  go_enter Tryz.func107, Tryz.ntmps107
  go_wp2_with fail
  refine H.out.mono ?_
  rintro e w2 ⟨rfl, hw⟩
  replace hw := hw.symm
  subst hw
  go_wp2_with fail
  refine HC.out.mono ?_
  rintro e w2 ⟨rfl, hw⟩
  replace hw := hw.symm
  subst hw
  go_wp2
  go_ret
  exact ⟨rfl, rfl⟩
set_option maxHeartbeats 1000000 in
theorem all_stops (F : Fence) (n : Nat) (hF : F.fn 124) (hro : F.round = none) (B n₀ : Nat) (w : World) (hB : B < w.heap.size) (hc : w.cell? ⟨B, 0, none⟩ = some (.slice none 0 0)) :
    SeqStopsK F n Tryz.prog 124 #[.pointer (some ⟨B, 0, none⟩)] (fun x : Empty => x.elim) (Below n₀) (fun xs => xs = []) (fun _ => False) 0 w := fun l J Jx W hW _ _ _ h0 => by
  have hc' : W.cell? ⟨B, 0, none⟩ = some (.slice none 0 0) := (hW.cell (p := ⟨B, 0, none⟩) hB).trans hc
  refine callsIn_of_wp Tryz.func124 rfl hF ?_ hro
  simp only [Tryz.ntmps124, List.size_toArray, List.length_cons, List.length_nil, Nat.reduceAdd, Nat.reduceSub, Array.replicate_succ, Array.replicate_zero, List.push_toArray, List.append_toArray, List.nil_append, List.cons_append]
  gi_wp2
  gi_loopw [7] (fun i wr => i = .int .i64 0 ∧ wr = W) (fun _ _ => 0)
  case atStart => exact ⟨rfl, rfl⟩
  case round =>
    obtain ⟨rfl, rfl⟩ := hrel
    gi_wp2
    go_end0
    exact ⟨⟨_, rfl⟩, .inl ⟨[], rfl, h0⟩⟩
end Go.Proofs.YthbdchleppbidaaGreat
/- The first so many of N; what a round of a range over a row's holder must leave. No function of the program. -/
namespace Go.Proofs.YthbdchleppbidaaGreat
open Go.RowKit

/-- the first so many of N, in their order -/
def uptoN (N k : Nat) : List (Fin N) := (List.finRange N).take k
theorem uptoN_zero (N : Nat) : uptoN N 0 = [] := by simp [uptoN]
theorem uptoN_succ {N k : Nat} (h : k < N) : uptoN N (k + 1) = uptoN N k ++ [⟨k, h⟩] := by
  unfold uptoN
  rw [List.take_add_one]
  simp [h]
theorem uptoN_length {N k : Nat} (h : k ≤ N) : (uptoN N k).length = k := by unfold uptoN; simp; omega
theorem uptoN_all (N : Nat) : uptoN N N = List.finRange N := by unfold uptoN; rw [List.take_of_length_le]; simp
/-- what a round must leave: the row that is gone through -/
def KeepV (v : Value) (W W' : World) : Prop := ∀ k, v.ownBlock = some k → W'.heap[k]? = W.heap[k]?
theorem KeepV.trans {v : Value} {A B C : World} (h : KeepV v A B) (k : KeepV v B C) : KeepV v A C := fun j hj => (k j hj).trans (h j hj)
theorem keepV_b {w : World} {v : Value} (hv : ∀ k, v.ownBlock = some k → k < w.heap.size) (W : World) (i : Nat) (o o' : Obj) (hi : w.heap.size ≤ i) (_ : W.heap[i]? = some o) (_ : o.isCells = false) (_ : o.isWalk = false) : KeepV v W (W.putObj i o') := fun k hk => by
  have := hv k hk
  exact World.putObj_heap_other (by omega)
end Go.Proofs.YthbdchleppbidaaGreat
/- Package series: All of a series that is there: its points, one by one, as a range over a function is told them. -/
namespace Go.Proofs.YthbdchleppbidaaGreat
open Go.RowKit Go.Shelf

attribute [local go_sem] Oper.semAt_some

/-- All: a function over a list of its own -/
theorem seall_any {w : World} {s : Nat} {v : Value} {l : List Pt} (h : SerV w s v l) : Calls Tryz.prog 107 #[.pointer (some ⟨s, 0, none⟩)] w fun e w' => ∃ B v', e = .returned (.func (.func 124) #[] #[.pointer (some ⟨B, 0, none⟩)]) ∧ w'.heap[B]? = some (.cells #[v'] 44 (0, 0)) ∧ w.heap.size ≤ B ∧ PtRowB w.heap.size w' v' l ∧ Below w.heap.size w w' := by
  have HS := Lib.hid h
  have H := Lib.hid (seheld_any h)
  have HC := Lib.hid (seclo_any h.plies (by have := h.good.len; omega))
  clear h
  go_enter Tryz.func107, Tryz.ntmps107
  go_wp2_with fail
  refine H.out.mono ?_
  rintro e w2 ⟨rfl, hw⟩
  replace hw := hw.symm
  subst hw
  go_wp2_with fail
  refine HC.out.mono ?_
  rintro e W2 ⟨v2, rfl, hr, hb⟩
  have HR := Lib.hid hr
  have HB := Lib.hid hb
  obtain ⟨a2, c2, e2⟩ := own_slice hr
  obtain ⟨n, hn⟩ : ∃ n, n = l.length := ⟨_, rfl⟩
  rw [← hn] at e2
  subst e2
  clear hr hb hn
  go_wp2_with fail
  go_ret
  exact ⟨W2.heap.size, .slice a2 n c2, rfl, heap_alloc_new W2 _, HB.out.size, HR.out.alloc _, HB.out.trans (((Below.refl _ W2).alloc (Nat.le_refl _) _).mono HB.out.size)⟩
theorem KeepV.row {B : Nat} {v : Value} {W W' : World} {l : List Pt} (h : KeepV v W W') (hr : PtRowB B W v l) : PtRowB B W' v l := by
  refine ⟨hr.1, ?_⟩
  rcases hr.2 with h2 | ⟨g, cap, cur, hv, hg, hgg, rest⟩
  · exact .inl h2
  · exact .inr ⟨g, cap, cur, hv, hg, (h g (by rw [hv]; rfl)).trans hgg, rest⟩
set_option maxRecDepth 1000000 in
set_option maxHeartbeats 8000000 in
theorem all_seq (n B : Nat) (w : World) (v : Value) (l : List Pt) (hn : 2 ≤ n) (hB : w.heap[B]? = some (.cells #[v] 44 (0, 0))) (hr : PtRowB 0 w v l) (hl : l.length ≤ 1000000) :
    SeqStopsK Fence.wide n Tryz.prog 124 #[.pointer (some ⟨B, 0, none⟩)] (fun i : Fin l.length => #[.agg #[.int .i64 l[i].a, .int .i64 l[i].v]]) (KeepV v) (fun xs => xs = List.finRange l.length) (fun pre => ∃ k, k ≤ l.length ∧ pre = uptoN l.length k) l.length w := fun id J Jx W hW hJ hJx hY h0 => by
  have hBW : W.cell? ⟨B, 0, none⟩ = some v := (cells1 ((hW.block B (lt_of_block hB)).trans hB)).1
  have hrW : PtRowB 0 W v l := hr.keep hW
  obtain ⟨a2, c2, e2⟩ := own_slice hrW
  have HRW := Lib.hid hrW
  have HV := Lib.hid e2
  rw [e2] at hBW
  have HJ := Lib.hid hJ
  have HY := Lib.hid hY
  clear hB hr hJ hY hJx hrW e2
  refine callsIn_of_wp Tryz.func124 rfl trivial ?_ rfl
  simp only [Tryz.ntmps124, List.size_toArray, List.length_cons, List.length_nil, Nat.reduceAdd, Nat.reduceSub, Array.replicate_succ, Array.replicate_zero, List.push_toArray, List.append_toArray, List.nil_append, List.cons_append]
  gi_wp2
  gi_loopw [7] (fun i wr => ∃ k : Nat, k ≤ l.length ∧ i = .int .i64 (k : Int) ∧ J (uptoN l.length k) wr ∧ KeepV v W wr) (fun i _ => l.length - (intOf i).toNat)
  case atStart => exact ⟨0, Nat.zero_le _, rfl, by rw [uptoN_zero]; exact h0, fun _ _ => rfl⟩
  case round =>
    obtain ⟨k, hk, rfl, hJs, hnx⟩ := hrel
    have HNX := Lib.hid hnx
    have HJS := Lib.hid hJs
    clear hnx hJs
    by_cases hlt : k < l.length
    · have hpl := (HNX.out.row HRW.out).plies
      rw [HV.out] at hpl
      obtain ⟨b, off, ea, c0, c1⟩ := hpl.get (List.getElem?_eq_getElem hlt)
      subst ea
      obtain ⟨p, hp⟩ : ∃ p, p = l[k] := ⟨_, rfl⟩
      rw [← hp] at c0 c1
      have HP := Lib.hid hp
      have hmax : k < 9223372036854775807 := by omega
      obtain ⟨fn, tmps, assign, body, hy, hR⟩ := HY.out _ ⟨k, hlt⟩ (wr.alloc (.cells #[.int .i64 p.a, .int .i64 p.v] 47)) (HJ.out _ wr _ none HJS.out (World.grownBy_alloc _ _ _) (fun r e => by cases e)) (by rw [uptoN_length hk]; exact hlt)
      have hy' : Sem.run Tryz.prog (Instr.yield id #[.agg #[.int .i64 p.a, .int .i64 p.v]]) (wr.alloc (.cells #[.int .i64 p.a, .int .i64 p.v] 47)) = Result.ok (Next.round id fn tmps assign body) (wr.alloc (.cells #[.int .i64 p.a, .int .i64 p.v] 47)) := by
        rw [hp] at hy ⊢
        exact hy
      clear hpl hp hy
      gi_wp2_with fail
      refine ⟨fun _ => by omega, hR.mono ?_⟩
      rintro e W3 (⟨rfl, hJ3, hk3⟩ | ⟨rfl, hJx3⟩)
      · have HJ3 := Lib.hid hJ3
        have HK3 : Hid (KeepV v wr W3) := Lib.hid (KeepV.trans (fun j hj => Below.heap_alloc _ _ _ (by
          rw [HV.out] at hj
          injection hj with hj
          have h9 := cell_lt c0
          rw [← hj]; exact h9)) hk3)
        clear hJ3 hk3 c0 c1
        dsimp only
        gi_wp2_with fail
        go_roundw
        case rel => exact ⟨k + 1, by omega, by go_num, by rw [uptoN_succ hlt]; exact HJ3.out, HNX.out.trans HK3.out⟩
        case measure => simp [intOf]; omega
      · dsimp only
        gi_wp2
        refine bodyPost_ret (results_none rfl _ _ _) rfl ?_
        exact ⟨⟨_, rfl⟩, .inr ⟨_, ⟨k + 1, by omega, (uptoN_succ hlt).symm⟩, hJx3⟩⟩
    · obtain rfl : k = l.length := by omega
      gi_wp2
      go_end0
      exact ⟨⟨_, rfl⟩, .inl ⟨_, uptoN_all _, HJS.out⟩⟩
end Go.Proofs.YthbdchleppbidaaGreat
/- Points that came, one by one. No function of the program. -/
namespace Go.Proofs.YthbdchleppbidaaGreat
open Go.RowKit

/-- the points that came so far -/
def cameP {l : List Pt} (pre : List (Fin l.length)) : List Pt := pre.map fun i => l[i]
theorem came_all (l : List Pt) : cameP (List.finRange l.length) = l := by
  unfold cameP
  apply List.ext_getElem?
  intro i
  rw [List.getElem?_map]
  rcases Nat.lt_or_ge i l.length with h | h
  · rw [List.getElem?_eq_getElem (by simpa using h), List.getElem?_eq_getElem h]; simp
  · rw [List.getElem?_eq_none (by simpa using h), List.getElem?_eq_none h]; rfl
theorem came_snoc {l : List Pt} (pre : List (Fin l.length)) (x : Fin l.length) : (cameP (pre ++ [x])).flatMap Pt.cells = (cameP pre).flatMap Pt.cells ++ [.int .i64 l[x].a, .int .i64 l[x].v] := by
  unfold cameP
  rw [List.map_append, List.flatMap_append]
  simp [Pt.cells]
theorem came_len {l : List Pt} (pre : List (Fin l.length)) : (cameP pre).length = pre.length := by simp [cameP]
theorem keepV_below {n₀ : Nat} {v : Value} {W W' : World} (hv : ∀ k, v.ownBlock = some k → k < n₀) (h : Below n₀ W W') : KeepV v W W' := fun k hk => h.block k (hv k hk)
end Go.Proofs.YthbdchleppbidaaGreat
