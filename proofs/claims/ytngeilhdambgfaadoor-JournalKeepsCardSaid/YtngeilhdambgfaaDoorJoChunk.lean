/- slices.Chunk: the pieces of 64 bytes, one behind the other, as a range over a function is told them. -/
import Derived.Test.YtngeilhdambgfaaDoorJoNew
import Derived.RangeFuncNested
import Derived.RangeFuncBound
import Derived.RangeFuncCalls
import Derived.RangeFuncLeaves
import Derived.RangeFuncFrom
import Derived.Shelf.Abstract
import Derived.OwnWalkIn
import Derived.TacticsInMore
import Derived.LoopNIn
import Derived.LoopIn
import Derived.BigRegionIn
namespace Go.Proofs.YtngeilhdambgfaaDoor
open Go.RowKit Go.Shelf

attribute [local go_sem] Oper.semAt_some

theorem grown_drew10 (w : World) (row : Option Nat) : w.grownBy w.drew row := ⟨rfl, rfl, rfl, Nat.le_refl _, fun _ _ _ => rfl⟩
theorem keeps_drew10 (w : World) : KeepsOthers w w.drew := ⟨Nat.le_refl _, fun _ _ h _ => h⟩
/-- the first so many pieces, in their order -/
def uptoF (N k : Nat) : List (Fin N) := (List.finRange N).take k
theorem uptoF_zero (N : Nat) : uptoF N 0 = [] := by simp [uptoF]
theorem uptoF_succ {N k : Nat} (h : k < N) : uptoF N (k + 1) = uptoF N k ++ [⟨k, h⟩] := by
  unfold uptoF
  rw [List.take_add_one]
  simp [h]
theorem uptoF_length {N k : Nat} (h : k ≤ N) : (uptoF N k).length = k := by unfold uptoF; simp; omega
theorem uptoF_all (N : Nat) : uptoF N N = List.finRange N := by unfold uptoF; rw [List.take_of_length_le]; simp
/-- a piece, as it is told -/
def pieceC (b off : Nat) {N : Nat} (i : Fin N) : Value := .slice (some ⟨b, off + i.val * 64, none⟩) 64 64

set_option maxHeartbeats 1000000 in
theorem chunk_any (w : World) (a : Option Addr) (m c : Nat) : Calls Tryd.prog 39 #[.slice a m c, .int .i64 64] w fun e w' =>
    e = .returned (.func (.func 50) #[] #[.pointer (some ⟨w.heap.size, 0, none⟩), .pointer (some ⟨w.heap.size + 1, 0, none⟩)]) ∧ w' = (w.alloc (.cells #[.slice a m c] 33)).alloc (.cells #[.int .i64 64] 3) := by
  go_enter Tryd.func39, Tryd.ntmps39
  go_wp2
  go_ret
  exact ⟨rfl, rfl⟩
/-- what a round must leave: the two variables that the iterator has captured -/
def KeepC (Bs Bn : Nat) (W W' : World) : Prop := W'.heap[Bs]? = W.heap[Bs]? ∧ W'.heap[Bn]? = W.heap[Bn]?
theorem KeepC.trans {Bs Bn : Nat} {A B C : World} (h : KeepC Bs Bn A B) (k : KeepC Bs Bn B C) : KeepC Bs Bn A C := ⟨k.1.trans h.1, k.2.trans h.2⟩
theorem KeepC.put {Bs Bn : Nat} (W : World) (l : Nat) (o : Obj) (h1 : Bs < l) (h2 : Bn < l) : KeepC Bs Bn W (W.putObj l o) := ⟨World.putObj_heap_other (by omega), World.putObj_heap_other (by omega)⟩
set_option maxRecDepth 1000000 in
set_option maxHeartbeats 8000000 in
theorem chunk_stops (n Bs Bn b off N c : Nat) (w : World) (hn : 2 ≤ n) (hBs : Bs < w.heap.size) (hBn : Bn < w.heap.size) (hN : N ≤ 8192) (hc : N * 64 ≤ c)
    (cs : w.cell? ⟨Bs, 0, none⟩ = some (.slice (some ⟨b, off, none⟩) (N * 64) c)) (cn : w.cell? ⟨Bn, 0, none⟩ = some (.int .i64 64)) :
    SeqStopsK Fence.wide n Tryd.prog 50 #[.pointer (some ⟨Bs, 0, none⟩), .pointer (some ⟨Bn, 0, none⟩)] (fun i : Fin N => #[pieceC b off i]) (KeepC Bs Bn) (fun xs => xs = List.finRange N) (fun pre => ∃ k, k ≤ N ∧ pre = uptoF N k) N w := fun l J Jx W hW hJ hJx hY h0 => by
  have cs' := (hW.cell (p := ⟨Bs, 0, none⟩) hBs).trans cs
  have cn' := (hW.cell (p := ⟨Bn, 0, none⟩) hBn).trans cn
  obtain ⟨M, hM⟩ : ∃ M, M = N * 64 := ⟨_, rfl⟩
  rw [← hM] at cs' hc
  have HM := Lib.hid hM
  have HJ := Lib.hid hJ
  have HY := Lib.hid hY
  clear cs cn hM hJ hY hJx
  refine callsIn_of_wp Tryd.func50 rfl trivial ?_ rfl
  simp only [Tryd.ntmps50, List.size_toArray, List.length_cons, List.length_nil, Nat.reduceAdd, Nat.reduceSub, Array.replicate_succ, Array.replicate_zero, List.push_toArray, List.append_toArray, List.nil_append, List.cons_append]
  gi_wp2
  gi_loopw [4] (fun i wr => ∃ k : Nat, k ≤ N ∧ i = .int .i64 ((k * 64 : Nat) : Int) ∧ J (uptoF N k) wr ∧ KeepC Bs Bn W wr) (fun i _ => M - (intOf i).toNat)
  case atStart => exact ⟨0, Nat.zero_le _, by simp, by rw [uptoF_zero]; exact h0, ⟨rfl, rfl⟩⟩
  case round =>
    obtain ⟨k, hk, rfl, hJs, hnx⟩ := hrel
    have c1 : wr.cell? ⟨Bs, 0, none⟩ = some (.slice (some ⟨b, off, none⟩) M c) := (World.cell?_of_block (a := ⟨Bs, 0, none⟩) hnx.1).trans cs'
    have c2 : wr.cell? ⟨Bn, 0, none⟩ = some (.int .i64 64) := (World.cell?_of_block (a := ⟨Bn, 0, none⟩) hnx.2).trans cn'
    have HNX := Lib.hid hnx
    have HJS := Lib.hid hJs
    clear hnx hJs
    obtain ⟨p, hp⟩ : ∃ p, p = k * 64 := ⟨_, rfl⟩
    rw [← hp]
    have HP := Lib.hid hp
    by_cases hlt : k < N
    · have hpM : p + 64 ≤ M := by rw [hp, HM.out]; omega
      obtain ⟨fn, tmps, assign, body, hy, hR⟩ := HY.out _ ⟨k, hlt⟩ wr.drew (HJ.out _ wr wr.drew none HJS.out (grown_drew10 _ _) (fun r e => by cases e)) (by rw [uptoF_length hk]; exact hlt)
      have t1 : (p : Int) < (M : Int) := by omega
      have t2 : p < M := by omega
      have t3 : decide ((p : Int) < (M : Int)) = true := by simp; omega
      have t4 : p ≤ M := by omega
      have e1 : min (64 : Int) ((M - p : Nat) : Int) = 64 := by omega
      have e2 : IntKind.i64.wrap ((p : Int) + 64) = ((p + 64 : Nat) : Int) := by rw [IntKind.wrap_i64]; omega
      have e3 : p + 64 - p = 64 := by omega
      have hpc : p + 64 ≤ c := by omega
      have d1 : wr.drew.cell? ⟨Bs, 0, none⟩ = some (.slice (some ⟨b, off, none⟩) M c) := c1
      have d2 : wr.drew.cell? ⟨Bn, 0, none⟩ = some (.int .i64 64) := c2
      have hy' : Sem.run Tryd.prog (Instr.yield l #[.slice (some ⟨b, off + p, none⟩) 64 64]) wr.drew = Result.ok (Next.round l fn tmps assign body) wr.drew := by
        rw [← hy]; simp only [pieceC, HP.out]
      clear hp hy
      gi_wp2_with fail
      gi_region
      gi_wp2_with fail
      refine ⟨fun _ => by omega, hR.mono ?_⟩
      rintro e W3 (⟨rfl, hJ3, hk3⟩ | ⟨rfl, hJx3⟩)
      · have HJ3 := Lib.hid hJ3
        have HK3 := Lib.hid hk3
        have d3 : W3.cell? ⟨Bn, 0, none⟩ = some (.int .i64 64) := (World.cell?_of_block (a := ⟨Bn, 0, none⟩) hk3.2).trans d2
        have hk64 : ((p + 64 : Nat) : Int) = (((k + 1) * 64 : Nat) : Int) := by rw [HP.out]; congr 1; omega
        have HK64 := Lib.hid hk64
        clear hJ3 hk3 hk64 d1 d2 c1 c2
        dsimp only
        gi_wp2_with fail
        go_roundw
        case rel => exact ⟨k + 1, by omega, by rw [← HK64.out]; simp, by rw [uptoF_succ hlt]; exact HJ3.out, (HNX.out.trans (show KeepC Bs Bn wr wr.drew from ⟨rfl, rfl⟩)).trans HK3.out⟩
        case measure => simp [intOf]; omega
      · dsimp only
        gi_wp2
        refine bodyPost_ret (results_none rfl _ _ _) rfl ?_
        exact ⟨⟨_, rfl⟩, .inr ⟨_, ⟨k + 1, by omega, (uptoF_succ hlt).symm⟩, hJx3⟩⟩
    · obtain rfl : k = N := by omega
      have hpm : p = M := by rw [HP.out, HM.out]
      subst hpm
      clear hp
      gi_wp2
      go_end0
      exact ⟨⟨_, rfl⟩, .inl ⟨_, uptoF_all k, HJS.out⟩⟩
end Go.Proofs.YtngeilhdambgfaaDoor
