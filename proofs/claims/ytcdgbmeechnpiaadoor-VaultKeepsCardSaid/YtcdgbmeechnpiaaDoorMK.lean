/- JoChunk, JoPlaced, JoRecs, JoRead: laid into one. -/
import Derived.Test.YtcdgbmeechnpiaaDoorMJ
import Derived.RangeFuncNested
import Derived.RangeFuncBound
import Derived.RangeFuncCalls
import Derived.RangeFuncLeaves
import Derived.RangeFuncFrom
import Derived.Shelf.Abstract
import Derived.OwnWalkIn
import Derived.TacticsInMore
import Derived.LoopNIn
import Derived.LoopIn
import Derived.BigRegionIn
import Derived.Test.YtcdgbmeechnpiaaDoorMS
import Derived.Maps.OwnIn
import Derived.Test.YtcdgbmeechnpiaaDoorMD
/- slices.Chunk: the pieces of 64 bytes, one behind the other, as a range over a function is told them. -/
namespace Go.Proofs.YtcdgbmeechnpiaaDoor
open Go.RowKit Go.Shelf

attribute [local go_sem] Oper.semAt_some

theorem grown_drew10 (w : World) (row : Option Nat) : w.grownBy w.drew row := ⟨rfl, rfl, rfl, Nat.le_refl _, fun _ _ _ => rfl⟩
theorem keeps_drew10 (w : World) : KeepsOthers w w.drew := ⟨Nat.le_refl _, fun _ _ h _ => h⟩
/-- the first so many pieces, in their order -/
def uptoF (N k : Nat) : List (Fin N) := (List.finRange N).take k
theorem uptoF_zero (N : Nat) : uptoF N 0 = [] := by simp [uptoF]
theorem uptoF_succ {N k : Nat} (h : k < N) : uptoF N (k + 1) = uptoF N k ++ [⟨k, h⟩] := by
  unfold uptoF
  rw [List.take_add_one]
  simp [h]
theorem uptoF_length {N k : Nat} (h : k ≤ N) : (uptoF N k).length = k := by unfold uptoF; simp; omega
theorem uptoF_all (N : Nat) : uptoF N N = List.finRange N := by unfold uptoF; rw [List.take_of_length_le]; simp
/-- a piece, as it is told -/
def pieceC (b off : Nat) {N : Nat} (i : Fin N) : Value := .slice (some ⟨b, off + i.val * 64, none⟩) 64 64

set_option maxHeartbeats 1000000 in
theorem chunk_any (w : World) (a : Option Addr) (m c : Nat) : Calls Tryd.prog 34 #[.slice a m c, .int .i64 64] w fun e w' =>
    e = .returned (.func (.func 47) #[] #[.pointer (some ⟨w.heap.size, 0, none⟩), .pointer (some ⟨w.heap.size + 1, 0, none⟩)]) ∧ w' = (w.alloc (.cells #[.slice a m c] 31)).alloc (.cells #[.int .i64 64] 3) := by
  go_enter Tryd.func34, Tryd.ntmps34
  go_wp2
  go_ret
  exact ⟨rfl, rfl⟩
/-- what a round must leave: the two variables that the iterator has captured -/
def KeepC (Bs Bn : Nat) (W W' : World) : Prop := W'.heap[Bs]? = W.heap[Bs]? ∧ W'.heap[Bn]? = W.heap[Bn]?
theorem KeepC.trans {Bs Bn : Nat} {A B C : World} (h : KeepC Bs Bn A B) (k : KeepC Bs Bn B C) : KeepC Bs Bn A C := ⟨k.1.trans h.1, k.2.trans h.2⟩
theorem KeepC.put {Bs Bn : Nat} (W : World) (l : Nat) (o : Obj) (h1 : Bs < l) (h2 : Bn < l) : KeepC Bs Bn W (W.putObj l o) := ⟨World.putObj_heap_other (by omega), World.putObj_heap_other (by omega)⟩
set_option maxRecDepth 1000000 in
set_option maxHeartbeats 8000000 in
theorem chunk_stops (n Bs Bn b off N c : Nat) (w : World) (hn : 2 ≤ n) (hBs : Bs < w.heap.size) (hBn : Bn < w.heap.size) (hN : N ≤ 8192) (hc : N * 64 ≤ c)
    (cs : w.cell? ⟨Bs, 0, none⟩ = some (.slice (some ⟨b, off, none⟩) (N * 64) c)) (cn : w.cell? ⟨Bn, 0, none⟩ = some (.int .i64 64)) :
    SeqStopsK Fence.wide n Tryd.prog 47 #[.pointer (some ⟨Bs, 0, none⟩), .pointer (some ⟨Bn, 0, none⟩)] (fun i : Fin N => #[pieceC b off i]) (KeepC Bs Bn) (fun xs => xs = List.finRange N) (fun pre => ∃ k, k ≤ N ∧ pre = uptoF N k) N w := fun l J Jx W hW hJ hJx hY h0 => by
  have cs' := (hW.cell (p := ⟨Bs, 0, none⟩) hBs).trans cs
  have cn' := (hW.cell (p := ⟨Bn, 0, none⟩) hBn).trans cn
  obtain ⟨M, hM⟩ : ∃ M, M = N * 64 := ⟨_, rfl⟩
  rw [← hM] at cs' hc
  have HM := Lib.hid hM
  have HJ := Lib.hid hJ
  have HY := Lib.hid hY
  clear cs cn hM hJ hY hJx
  refine callsIn_of_wp Tryd.func47 rfl trivial ?_ rfl
  simp only [Tryd.ntmps47, List.size_toArray, List.length_cons, List.length_nil, Nat.reduceAdd, Nat.reduceSub, Array.replicate_succ, Array.replicate_zero, List.push_toArray, List.append_toArray, List.nil_append, List.cons_append]
  gi_wp2
  gi_loopw [4] (fun i wr => ∃ k : Nat, k ≤ N ∧ i = .int .i64 ((k * 64 : Nat) : Int) ∧ J (uptoF N k) wr ∧ KeepC Bs Bn W wr) (fun i _ => M - (intOf i).toNat)
  case atStart => exact ⟨0, Nat.zero_le _, by simp, by rw [uptoF_zero]; exact h0, ⟨rfl, rfl⟩⟩
  case round =>
    obtain ⟨k, hk, rfl, hJs, hnx⟩ := hrel
    have c1 : wr.cell? ⟨Bs, 0, none⟩ = some (.slice (some ⟨b, off, none⟩) M c) := (World.cell?_of_block (a := ⟨Bs, 0, none⟩) hnx.1).trans cs'
    have c2 : wr.cell? ⟨Bn, 0, none⟩ = some (.int .i64 64) := (World.cell?_of_block (a := ⟨Bn, 0, none⟩) hnx.2).trans cn'
    have HNX := Lib.hid hnx
    have HJS := Lib.hid hJs
    clear hnx hJs
    obtain ⟨p, hp⟩ : ∃ p, p = k * 64 := ⟨_, rfl⟩
    rw [← hp]
    have HP := Lib.hid hp
    by_cases hlt : k < N
    · have hpM : p + 64 ≤ M := by rw [hp, HM.out]; omega
      obtain ⟨fn, tmps, assign, body, hy, hR⟩ := HY.out _ ⟨k, hlt⟩ wr.drew (HJ.out _ wr wr.drew none HJS.out (grown_drew10 _ _) (fun r e => by cases e)) (by rw [uptoF_length hk]; exact hlt)
      have t1 : (p : Int) < (M : Int) := by omega
      have t2 : p < M := by omega
      have t3 : decide ((p : Int) < (M : Int)) = true := by simp; omega
      have t4 : p ≤ M := by omega
      have e1 : min (64 : Int) ((M - p : Nat) : Int) = 64 := by omega
      have e2 : IntKind.i64.wrap ((p : Int) + 64) = ((p + 64 : Nat) : Int) := by rw [IntKind.wrap_i64]; omega
      have e3 : p + 64 - p = 64 := by omega
      have hpc : p + 64 ≤ c := by omega
      have d1 : wr.drew.cell? ⟨Bs, 0, none⟩ = some (.slice (some ⟨b, off, none⟩) M c) := c1
      have d2 : wr.drew.cell? ⟨Bn, 0, none⟩ = some (.int .i64 64) := c2
      have hy' : Sem.run Tryd.prog (Instr.yield l #[.slice (some ⟨b, off + p, none⟩) 64 64]) wr.drew = Result.ok (Next.round l fn tmps assign body) wr.drew := by
        rw [← hy]; simp only [pieceC, HP.out]
      clear hp hy
      gi_wp2_with fail
      gi_region
      gi_wp2_with fail
      refine ⟨fun _ => by omega, hR.mono ?_⟩
      rintro e W3 (⟨rfl, hJ3, hk3⟩ | ⟨rfl, hJx3⟩)
      · have HJ3 := Lib.hid hJ3
        have HK3 := Lib.hid hk3
        have d3 : W3.cell? ⟨Bn, 0, none⟩ = some (.int .i64 64) := (World.cell?_of_block (a := ⟨Bn, 0, none⟩) hk3.2).trans d2
        have hk64 : ((p + 64 : Nat) : Int) = (((k + 1) * 64 : Nat) : Int) := by rw [HP.out]; congr 1; omega
        have HK64 := Lib.hid hk64
        clear hJ3 hk3 hk64 d1 d2 c1 c2
        dsimp only
        gi_wp2_with fail
        go_roundw
        case rel => exact ⟨k + 1, by omega, by rw [← HK64.out]; simp, by rw [uptoF_succ hlt]; exact HJ3.out, (HNX.out.trans (show KeepC Bs Bn wr wr.drew from ⟨rfl, rfl⟩)).trans HK3.out⟩
        case measure => simp [intOf]; omega
      · dsimp only
        gi_wp2
        refine bodyPost_ret (results_none rfl _ _ _) rfl ?_
        exact ⟨⟨_, rfl⟩, .inr ⟨_, ⟨k + 1, by omega, (uptoF_succ hlt).symm⟩, hJx3⟩⟩
    · obtain rfl : k = N := by omega
      have hpm : p = M := by rw [HP.out, HM.out]
      subst hpm
      clear hp
      gi_wp2
      go_end0
      exact ⟨⟨_, rfl⟩, .inl ⟨_, uptoF_all k, HJS.out⟩⟩
end Go.Proofs.YtcdgbmeechnpiaaDoor
/- The sectors of a turn, each at its place, up to the first that isn't one: a range over slices.Chunk. -/
namespace Go.Proofs.YtcdgbmeechnpiaaDoor
open Go.RowKit Go.Shelf

attribute [local go_sem] Oper.semAt_some

/-- of sectors: those of the turn, each at its place -/
def placedL (t : Nat) : Nat → List (List Nat) → List Sec
  | _, [] => []
  | k, b :: L => if accB t k b = true then stOf b :: placedL t (k + 1) L else []
theorem placedL_take (t : Nat) (L : List (List Nat)) : ∀ s k, k ≤ L.length → (∀ j, j < k → accB t (s + j) (L.getD j []) = true) → (k = L.length ∨ accB t (s + k) (L.getD k []) = false) → placedL t s L = (L.take k).map stOf := by
  induction L with
  | nil => intro s k _ _ _; simp [placedL]
  | cons b L ih =>
    intro s k hk hj he
    unfold placedL
    cases k with
    | zero =>
      rcases he with he | he
      · simp at he
      · have he : accB t s b = false := he
        rw [if_neg (by rw [he]; decide)]; rfl
    | succ k =>
      have h0 : accB t s b = true := hj 0 (by omega)
      rw [if_pos h0, ih (s + 1) k (by simp at hk; omega) (fun j hjk => by have := hj (j + 1) (by omega); rwa [show s + 1 + j = s + (j + 1) by omega]) (by
        rcases he with he | he
        · exact .inl (by simpa using he)
        · exact .inr (by rw [show s + 1 + k = s + (k + 1) by omega]; exact he))]
      rfl
/-- what is told in a round -/
def secAt (L : List (List Nat)) {N : Nat} (i : Fin N) : List Nat := L.getD i.val []
theorem upto_secs (L : List (List Nat)) {N k : Nat} (hN : L.length = N) (hk : k ≤ N) : (uptoF N k).map (fun i => stOf (secAt L i)) = (L.take k).map stOf := by
  unfold uptoF secAt
  refine List.ext_getElem (by simp [hN]) fun i h1 h2 => ?_
  have hi : i < L.length := by simp at h2; omega
  simp [List.getD, hi]
theorem upto_acc {t : Nat} (L : List (List Nat)) {N k : Nat} (hk : k ≤ N) (h : ∀ j x, (uptoF N k)[j]? = some x → accB t j (secAt L x) = true) : ∀ j, j < k → accB t (0 + j) (L.getD j []) = true := fun j hj => by
  have h1 : (uptoF N k)[j]? = some ⟨j, by omega⟩ := by
    unfold uptoF
    rw [List.getElem?_take_of_lt hj, List.getElem?_eq_getElem (by simp; omega)]
    simp
  rw [Nat.zero_add]
  exact h j _ h1
theorem LiesFrom.only2 {B : Nat} {w w' : World} {v : Value} {bs : List Nat} {S : Nat → Prop} (h : LiesFrom B w v bs) (ho : Only S w w') (hS : ∀ k, B ≤ k → v.ownBlock = some k → bs ≠ [] → ¬ S k) : LiesFrom B w' v bs := by
  rcases h with h | h | ⟨b, off, cap, h, hl, hB, hc, hb⟩
  · exact .inl h
  · exact .inr (.inl h)
  · refine .inr (.inr ⟨b, off, cap, h, hl, hB, fun j hj => ?_, hb⟩)
    have h1 := hc j hj
    rw [← h1]
    exact World.cell?_of_block (w := w) (ho.block b (by have := cell_lt h1; exact this) (hS b hB (by rw [h]; rfl) hb))
theorem LiesFrom.block {B k : Nat} {w : World} {v : Value} {bs : List Nat} (h : LiesFrom B w v bs) (hk : v.ownBlock = some k) (hb : bs ≠ []) : B ≤ k ∧ k < w.heap.size := by
  rcases h with h | ⟨_, _, _, h⟩ | ⟨b, off, cap, h, hl, hB, hc, _⟩
  · exact absurd h.2 hb
  · exact absurd h hb
  · rw [h] at hk
    cases hk
    exact ⟨hB, by have := hc 0 (List.length_pos_iff.2 hb); exact cell_lt this⟩
/-- a sector's data, apart from the row of the sectors -/
def DataAt (B : Nat) (own : Option Nat) (W : World) (u : Value) (D : List Nat) : Prop := LiesFrom B W u D ∧ ∀ k, u.ownBlock = some k → D ≠ [] → own ≠ some k
/-- between two rounds -/
structure PlacedI (t : Nat) (L : List (List Nat)) {N : Nat} (W0 : World) (B5 : Nat) (pre : List (Fin N)) (v : Value) (r : List (Sec × Value)) (W : World) : Prop where
  box : Arr W B5 99 [v]
  row : W.ownsRow W0.heap.size 94 4 v pre.length (rowC r)
  secs : r.map Prod.fst = pre.map (fun i => stOf (secAt L i))
  acc : ∀ j x, pre[j]? = some x → accB t j (secAt L x) = true
  data : ∀ x ∈ r, DataAt W0.heap.size v.ownBlock W x.2 x.1.data
  only : Only (fun k => k = B5) W0 W
theorem grown_others {W : World} {row : Option Nat} {B5 : Nat} (hr : ∀ r, row = some r → B5 ≤ r ∧ ∃ o : Obj, W.heap[r]? = some o ∧ o.isCells = false) {a : Addr} {u : Value} (hc : W.cell? a = some u) : ¬ row = some a.block := fun e => by
  obtain ⟨_, o, ho, hcc⟩ := hr _ e
  obtain ⟨o2, ho2, hc2⟩ := cells_of_cell hc
  rw [ho] at ho2
  cases ho2
  rw [hcc] at hc2; cases hc2
theorem PlacedI.grown {t : Nat} {L : List (List Nat)} {N : Nat} {W0 W W' : World} {B5 : Nat} {pre : List (Fin N)} {v : Value} {r : List (Sec × Value)} {row : Option Nat} (h : PlacedI t L W0 B5 pre v r W) (hg : W.grownBy W' row) (hr : ∀ q, row = some q → W0.heap.size ≤ q ∧ ∃ o : Obj, W.heap[q]? = some o ∧ o.isCells = false) : PlacedI t L W0 B5 pre v r W' := by
  have ho := Only.grown hg
  refine ⟨h.box.only ho (grown_others hr (h.box.cell (i := 0) rfl)), row_only h.row ho (fun k hk e => ?_), h.secs, h.acc, fun x hx => ⟨(h.data x hx).1.only ho (fun b off j z _ hc => grown_others hr hc), (h.data x hx).2⟩, h.only.trans ho (fun i hi e => by have := (hr i e).1; omega)⟩
  rcases h.row.2 with ⟨hv, _⟩ | ⟨g, cap, cur, hv, hgb, hgg, _⟩
  · rw [hv] at hk; cases hk
  · rw [hv] at hk
    cases hk
    obtain ⟨_, o, ho, hcc⟩ := hr g e
    rw [hgg] at ho
    cases ho
    cases hcc
theorem others_below {W W' : World} (h : Below W.heap.size W W') : KeepsOthers W W' := ⟨h.size, fun k _ hk _ => (h.block k (Array.getElem?_eq_some_iff.1 hk).1).trans hk⟩
theorem PlacedI.step {t m : Nat} {L : List (List Nat)} {N B5 : Nat} {W0 W w3 w5 w6 : World} {pre : List (Fin N)} {av : Option Addr} {cv g' cap' : Nat} {r : List (Sec × Value)} {x : Fin N} {s : Sec} {u : Value} (h : PlacedI t L W0 B5 pre (.slice av m cv) r W) (hB5 : B5 < W0.heap.size) (h3 : Below W.heap.size W w3) (h5 : Below w3.heap.size w3 w5)
    (hu : LiesFrom W.heap.size w3 u s.data) (hs : s = stOf (secAt L x)) (ha : accB t pre.length (secAt L x) = true) (hm : m = pre.length) (hg : w5.grownBy w6 (Value.slice av m cv).ownBlock) (hown : w6.ownsRow W0.heap.size 94 4 (.slice (some ⟨g', 0, none⟩) (m + 1) cap') (m + 1) (rowC r ++ secC (s, u)))
    (hat : (Value.slice (some ⟨g', 0, none⟩) (m + 1) cap').ownBlock = (Value.slice av m cv).ownBlock ∨ (Value.slice (some ⟨g', 0, none⟩) (m + 1) cap').ownBlock = some w5.heap.size) :
    KeepsOthers W (w6.setCell ⟨B5, 0, none⟩ (.slice (some ⟨g', 0, none⟩) (m + 1) cap')) ∧ PlacedI t L W0 B5 (pre ++ [x]) (.slice (some ⟨g', 0, none⟩) (m + 1) cap') (r ++ [(s, u)]) (w6.setCell ⟨B5, 0, none⟩ (.slice (some ⟨g', 0, none⟩) (m + 1) cap')) := by
  have hb5 : Below W.heap.size W w5 := h3.trans (h5.mono h3.size)
  have ho5 : Only (fun _ => False) W w5 := only_beyond hb5
  have ho6 := Only.grown hg
  have hlt : ∀ k, (Value.slice av m cv).ownBlock = some k → W0.heap.size ≤ k ∧ k < W.heap.size := fun k hk => h.row.lt k hk
  have hg' : W0.heap.size ≤ g' := (hown.lt g' rfl).1
  have hW : W0.heap.size ≤ W.heap.size := h.only.size
  have ho7 : Only (fun k => k = B5) w6 (w6.setCell ⟨B5, 0, none⟩ (.slice (some ⟨g', 0, none⟩) (m + 1) cap')) := Only.setCell (S := fun k => k = B5) _ (p := ⟨B5, 0, none⟩) rfl _
  have hbox : Arr w6 B5 99 [.slice av m cv] := (h.box.only ho5 (fun e => e)).only ho6 (fun e => by have := (hlt _ e).1; omega)
  have hrl : r.length = m := by have := congrArg List.length h.secs; rw [List.length_map, List.length_map] at this; omega
  refine ⟨((others_below hb5).trans (KeepsOthers.of_grownBy hg (fun j o hj ho => ?_))).trans (KeepsOthers.setCell _ _ _), Arr.set hbox 0 _, ?_, by rw [List.map_append, List.map_append, h.secs, hs]; rfl, fun j y hy => ?_, fun y hy => ?_, ((h.only.trans ho5 (fun _ _ hf => hf.elim)).trans ho6 (fun i hi e => by have := (hlt i e).1; omega)).trans ho7 (fun _ _ e => e)⟩
  · rcases h.row.2 with ⟨hv, _⟩ | ⟨g, cap, cur, hv, hgb, hgg, _⟩
    · rw [hv] at hj; cases hj
    · rw [hv] at hj
      cases hj
      rw [(ho5.block g (lt_of_block hgg) (fun e => e)).trans hgg] at ho
      cases ho; rfl
  · rw [List.length_append, List.length_singleton, ← hm, rowC_append]
    refine row_only (xs := rowC r ++ rowC [(s, u)]) ?_ ho7 (fun k hk e => by cases hk; have e : g' = B5 := e; omega)
    have e : rowC [(s, u)] = secC (s, u) := by simp [rowC]
    rw [e]; exact hown
  · by_cases hj : j < pre.length
    · rw [List.getElem?_append_left hj] at hy; exact h.acc j y hy
    · have hj2 : j = pre.length := by have := (List.getElem?_eq_some_iff.1 hy).1; simp at this; omega
      subst hj2
      rw [List.getElem?_append_right (Nat.le_refl _), Nat.sub_self] at hy
      cases hy
      exact ha
  · rcases List.mem_append.1 hy with hy | hy
    · obtain ⟨h1, h2⟩ := h.data y hy
      refine ⟨((h1.only2 ho5 (fun _ _ _ _ e => e)).only2 ho6 (fun k _ hk hne e => h2 k hk hne e)).only2 ho7 (fun k hB _ _ e => by omega), fun k hk hne e => ?_⟩
      rcases hat with ha1 | ha1
      · rw [ha1] at e; exact h2 k hk hne e
      · rw [ha1] at e
        cases e
        have := (h1.block hk hne).2
        have := hb5.size
        omega
    · rw [List.mem_singleton.1 hy]
      have h1 : LiesFrom W.heap.size w5 u s.data := hu.only2 (only_beyond (S := fun _ => False) h5) (fun _ _ _ _ e => e)
      refine ⟨((LiesFrom.only2 h1 ho6 (fun k hB _ _ e => by have := (hlt k e).2; omega)).only2 ho7 (fun k hB _ _ e => by omega)).mono hW, fun k hk hne e => ?_⟩
      have hkb := hu.block hk hne
      have h5s := h5.size
      rcases hat with ha1 | ha1
      · rw [ha1] at e; have := (hlt k e).2; omega
      · rw [ha1] at e
        cases e
        omega
theorem PlacedI.on {t : Nat} {L : List (List Nat)} {N B5 : Nat} {W0 W W' : World} {pre : List (Fin N)} {v : Value} {r : List (Sec × Value)} (h : PlacedI t L W0 B5 pre v r W) (hb : Below W.heap.size W W') : PlacedI t L W0 B5 pre v r W' := by
  have ho : Only (fun _ => False) W W' := only_beyond hb
  exact ⟨h.box.only ho (fun e => e), row_only h.row ho (fun _ _ e => e), h.secs, h.acc, fun x hx => ⟨(h.data x hx).1.only2 ho (fun _ _ _ _ e => e), (h.data x hx).2⟩, h.only.trans ho (fun _ _ e => e.elim)⟩
theorem box_grown {t m : Nat} {L : List (List Nat)} {N B5 : Nat} {W0 W w5 w6 : World} {pre : List (Fin N)} {av : Option Addr} {cv : Nat} {r : List (Sec × Value)} (h : PlacedI t L W0 B5 pre (.slice av m cv) r W) (h5 : Below W.heap.size W w5) (hB5 : B5 < W0.heap.size) (hg : w5.grownBy w6 (Value.slice av m cv).ownBlock) : Arr w6 B5 99 [.slice av m cv] :=
  (h.box.only (only_beyond (S := fun _ => False) h5) (fun e => e)).only (Only.grown hg) (fun e => by have := (h.row.lt _ e).1; omega)
theorem placed_end {t : Nat} {L : List (List Nat)} {N B5 k : Nat} {W0 W : World} {v : Value} {r : List (Sec × Value)} (h : PlacedI t L W0 B5 (uptoF N k) v r W) (hN : L.length = N) (hk : k ≤ N) (he : k = N ∨ accB t k (L.getD k []) = false) : r.map Prod.fst = placedL t 0 L := by
  rw [h.secs, upto_secs L hN hk, placedL_take t L 0 k (by omega) (upto_acc L hk h.acc)]
  rcases he with he | he
  · exact .inl (by omega)
  · exact .inr (by rw [Nat.zero_add]; exact he)
/-- what is told in the end -/
theorem placed_told {t : Nat} {L : List (List Nat)} {N B5 D : Nat} {w W0 W : World} {pre : List (Fin N)} {v : Value} {r : List (Sec × Value)} {o : Obj} (h : PlacedI t L W0 B5 pre v r W) (hw : Below w.heap.size w W0) (hB5 : w.heap.size ≤ B5) (hD : W0.heap.size ≤ D) (hK : W.heap[D]? = some o) (hc : o.isCells = false) (o' : Obj) :
    (W.putObj D o').ownsRow w.heap.size 94 4 v r.length (rowC r) ∧ (∀ x ∈ r, LiesFrom w.heap.size (W.putObj D o') x.2 x.1.data) ∧ Below w.heap.size w (W.putObj D o') := by
  have h' := h.grown (grownBy_putObj' W D o') (fun q e => by cases e; exact ⟨hD, o, hK, hc⟩)
  have hrl : r.length = pre.length := by have := congrArg List.length h.secs; rwa [List.length_map, List.length_map] at this
  refine ⟨by rw [hrl]; exact ⟨h'.row.1, h'.row.2.elim .inl (fun ⟨g, cap, cur, a, b, c⟩ => .inr ⟨g, cap, cur, a, Nat.le_trans hw.size b, c⟩)⟩, fun x hx => (h'.data x hx).1.mono hw.size, hw.trans (h'.only.below hw.size (fun k e => by omega))⟩
theorem wpListIn_runs {F : Fence} {n : Nat} {P : Program} {ops : Array Oper} {rest : List Oper} {o : Oper} {a : Act} {w w' : World} {v : Value} {Q : Exit → Act → World → Prop} (d : Option Tmp) (hgd : o.guard = none) (hd : o.dst = d) (hdf : ∀ c, o.op ≠ .defer c) (hab : o.about P w a.eval = none)
    (hr : (execOp a.eval o).run P w = .ok (.value v) w') (h : wpListIn F n P ops Q rest (a.put d v) w') : wpListIn F n P ops Q (o :: rest) a w := by
  subst hd
  refine wpListIn_plain hgd fun K hK => ?_
  unfold Oper.wpIn
  refine ⟨fun f hf => (by rw [hab] at hf; cases hf), ?_⟩
  rw [Oper.semAt_plain F _ _ hdf, hr]
  exact hK _ _ h

theorem four_new (w : World) (o1 o2 o3 o4 : Obj) : ((((w.alloc o1).alloc o2).alloc o3).alloc o4).heap[w.heap.size]? = some o1 ∧ ((((w.alloc o1).alloc o2).alloc o3).alloc o4).heap[w.heap.size + 1]? = some o2 ∧ ((((w.alloc o1).alloc o2).alloc o3).alloc o4).heap[w.heap.size + 1 + 1]? = some o3 ∧
    ((((w.alloc o1).alloc o2).alloc o3).alloc o4).heap[w.heap.size + 1 + 1 + 1]? = some o4 ∧ ((((w.alloc o1).alloc o2).alloc o3).alloc o4).heap.size = w.heap.size + 4 ∧ Below w.heap.size w ((((w.alloc o1).alloc o2).alloc o3).alloc o4) := by
  have h1 := World.alloc_heap_new w o1
  have h2 := World.alloc_heap_new (w.alloc o1) o2
  have h3 := World.alloc_heap_new ((w.alloc o1).alloc o2) o3
  have h4 := World.alloc_heap_new (((w.alloc o1).alloc o2).alloc o3) o4
  simp only [World.size_alloc] at h2 h3 h4
  refine ⟨?_, ?_, ?_, h4, by simp only [World.size_alloc], ((((Below.refl _ w).alloc (Nat.le_refl _) _).alloc (by simp only [World.size_alloc]; omega) _).alloc (by simp only [World.size_alloc]; omega) _).alloc (by simp only [World.size_alloc]; omega) _⟩
  · rw [Below.heap_alloc _ _ _ (by simp only [World.size_alloc]; omega), Below.heap_alloc _ _ _ (by simp only [World.size_alloc]; omega), Below.heap_alloc _ _ _ (by simp only [World.size_alloc]; omega)]; exact h1
  · rw [Below.heap_alloc _ _ _ (by simp only [World.size_alloc]; omega), Below.heap_alloc _ _ _ (by simp only [World.size_alloc]; omega)]; exact h2
  · rw [Below.heap_alloc _ _ _ (by simp only [World.size_alloc]; omega)]; exact h3
theorem keepC_only {Bs Bn B5 : Nat} {W0 W W' : World} (h : Only (fun k => k = B5) W0 W) (h' : Only (fun k => k = B5) W0 W') (h1 : Bs < W0.heap.size) (h2 : Bn < W0.heap.size) (e1 : Bs ≠ B5) (e2 : Bn ≠ B5) : KeepC Bs Bn W W' :=
  ⟨(h'.block Bs h1 e1).trans (h.block Bs h1 e1).symm, (h'.block Bn h2 e2).trans (h.block Bn h2 e2).symm⟩

theorem two_new (w : World) {a : Addr} {u : Value} (h : w.cell? a = some u) : (∀ o, (w.alloc o).cell? a = some u) ∧ ∀ o o', ((w.alloc o).alloc o').cell? a = some u := by
  have h1 : ∀ o, (w.alloc o).cell? a = some u := fun o => by rw [World.cell?_of_block (w := w) (Below.heap_alloc _ _ _ (cell_lt h))]; exact h
  exact ⟨h1, fun o o' => by rw [World.cell?_of_block (w := w.alloc o) (Below.heap_alloc _ _ _ (cell_lt (h1 o)))]; exact h1 o⟩
theorem three_new (w : World) (o1 o2 : Obj) (l : List Value) (t : TypeId) : ∀ j u, l[j]? = some u → (((w.alloc o1).alloc o2).alloc (.cells l.toArray t)).cell? ((⟨w.heap.size + 1 + 1, 0, none⟩ : Addr).add j) = some u := fun j u hu => by
  have h := arr_new ((w.alloc o1).alloc o2) t l
  rw [World.size_alloc, World.size_alloc] at h
  rw [add_at, Nat.zero_add]
  exact h.cell hu
theorem two_cells (w : World) (x y z u p q : Value) (t s : TypeId) : (∀ i v, #[x, y, z, u][i]? = some v → ((w.alloc (.cells #[x, y, z, u] t)).alloc (.cells #[p, q] s)).cell? ⟨w.heap.size, i, none⟩ = some v) ∧ (∀ i v, #[p, q][i]? = some v → ((w.alloc (.cells #[x, y, z, u] t)).alloc (.cells #[p, q] s)).cell? ⟨w.heap.size + 1, i, none⟩ = some v) := by
  have h1 : Arr (w.alloc (.cells #[x, y, z, u] t)) w.heap.size t [x, y, z, u] := arr_new w t _
  have h2 : Arr ((w.alloc (.cells #[x, y, z, u] t)).alloc (.cells #[p, q] s)) (w.heap.size + 1) s [p, q] := by
    have := arr_new (w.alloc (.cells #[x, y, z, u] t)) s [p, q]
    rwa [World.size_alloc] at this
  exact ⟨fun i v hv => (h1.alloc _).cell (by simpa using hv), fun i v hv => h2.cell (by simpa using hv)⟩

set_option maxRecDepth 1000000 in
set_option maxHeartbeats 8000000 in
theorem placed_any {w : World} {b off c N t : Nat} {L : List (List Nat)} (hL : Sect L) (hNl : L.length = N) (hN : N ≤ 8192) (hs : ∀ s ∈ L, ∀ x ∈ s, x < 256) (hat : BytesAt w b off L.flatten) (hbw : b < w.heap.size) (hc : N * 64 ≤ c) :
    Calls Tryd.prog 56 #[.slice (some ⟨b, off, none⟩) (N * 64 : Nat) c, .int .u32 (t : Int)] w fun e w' => ∃ v r, e = .returned v ∧ w'.ownsRow w.heap.size 94 4 v r.length (rowC r) ∧ r.map Prod.fst = placedL t 0 L ∧ (∀ x ∈ r, LiesFrom w.heap.size w' x.2 x.1.data) ∧ Below w.heap.size w w' := by
  obtain ⟨M, hM⟩ : ∃ M, M = N * 64 := ⟨_, rfl⟩
  have HM := Lib.hid hM
  rw [← hM]
  refine (callsIn_wide (n := 6)).1 ?_
  refine callsIn_of_wp_marks Tryd.func56 rfl trivial ?_ rfl
  simp only [Tryd.ntmps56, List.size_toArray, List.length_cons, List.length_nil, Nat.reduceAdd, Nat.reduceSub, Array.replicate_succ, Array.replicate_zero, List.push_toArray, List.append_toArray, List.nil_append, List.cons_append]
  clear hM
  gi_wp2_with (first | (refine ⟨trivial, ?_⟩; gi_at_call 34; refine (callsIn_wide.2 (chunk_any _ _ _ _)).mono ?_; rintro e w2 ⟨rfl, hw2⟩))
  obtain ⟨B3, hB3⟩ : ∃ B, B = w.heap.size := ⟨_, rfl⟩
  obtain ⟨B5, hB5⟩ : ∃ B, B = w.heap.size + 1 := ⟨_, rfl⟩
  obtain ⟨Bs, hBs⟩ : ∃ B, B = w.heap.size + 1 + 1 := ⟨_, rfl⟩
  obtain ⟨Bn, hBn⟩ : ∃ B, B = w.heap.size + 1 + 1 + 1 := ⟨_, rfl⟩
  obtain ⟨k3, k5, ks, kn, hsz, hbl⟩ := four_new w (.cells #[.int .u32 (t : Int)] 38) (.cells #[.slice none 0 0] 99) (.cells #[.slice (some ⟨b, off, none⟩) M c] 31) (.cells #[.int .i64 64] 3)
  rw [← hBn, ← hBs, ← hB5, ← hB3]
  rw [← hw2]
  rw [← hw2, ← hB3] at k3
  rw [← hw2, ← hB5] at k5
  rw [← hw2, ← hBs] at ks
  rw [← hw2, ← hBn] at kn
  rw [← hw2] at hsz hbl
  have HK3 : Hid (Arr w2 B3 38 [.int .u32 (t : Int)]) := Lib.hid k3
  have HK5 : Hid (Arr w2 B5 99 [.slice none 0 0]) := Lib.hid k5
  have HKs : Hid (Arr w2 Bs 31 [.slice (some ⟨b, off, none⟩) M c]) := Lib.hid ks
  have HKn : Hid (Arr w2 Bn 3 [.int .i64 64]) := Lib.hid kn
  have HBL := Lib.hid hbl
  have HBB : Hid (B3 = w.heap.size ∧ B5 = w.heap.size + 1 ∧ Bs = w.heap.size + 2 ∧ Bn = w.heap.size + 3 ∧ w2.heap.size = w.heap.size + 4) := Lib.hid ⟨hB3, hB5, hBs, hBn, hsz⟩
  have HAT := Lib.hid hat
  have HS := Lib.hid hs
  clear hw2 hB3 hB5 hBs hBn k3 k5 ks kn hbl hsz hat hs
  refine wpIn_rangeFunc_ownF (α := Fin N) rfl (by omega) (gf := 47) (lb := #[.pointer (some ⟨Bs, 0, none⟩), .pointer (some ⟨Bn, 0, none⟩)]) rfl trivial (enters_of Tryd.func47 (by kernel_rfl) rfl)
    (chunk_stops 5 Bs Bn b off N c w2 (by omega) (by have := HBB.out; omega) (by have := HBB.out; omega) hN (by omega) (by rw [← HM.out]; exact HKs.out.cell rfl) (HKn.out.cell rfl)) (fun h k => h.trans k) (fun W l o o' hl _ _ _ => KeepC.put W l o' (by have := HBB.out; omega) (by have := HBB.out; omega)) (Below.refl _ _) (fun _ => rfl)
    (fun pre W => ∃ v r, PlacedI t L w2 B5 pre v r W)
    (fun cd pre W => cd = .exit 0 ∧ ∃ pre' x v r, pre = pre' ++ [x] ∧ accB t pre'.length (secAt L x) = false ∧ PlacedI t L w2 B5 pre' v r W)
    (fun pre W W' row ⟨v, r, h⟩ hg hr => ⟨v, r, h.grown hg hr⟩)
    (fun cd pre W W' row ⟨e, pre', x, v, r, e1, e2, h⟩ hg hr => ⟨e, pre', x, v, r, e1, e2, h.grown hg hr⟩)
    ⟨_, [], HK5.out, World.ownsRow_nil _ _ _ _, rfl, fun j x h => by simp at h, fun x h => by simp at h, Only.refl _ _⟩
    (fun x => { tmps := #[.slice (some ⟨b, off, none⟩) M c, .int .u32 (t : Int), undef, .pointer (some ⟨B3, 0, none⟩), .slice none 0 0, .pointer (some ⟨B5, 0, none⟩), pieceC b off x, undef, undef, undef, .slice (some ⟨b, off, none⟩) M c, .func (.func 47) #[] #[.pointer (some ⟨Bs, 0, none⟩), .pointer (some ⟨Bn, 0, none⟩)], pieceC b off x, undef, undef, undef, undef, undef, undef, undef, undef, undef, undef, undef, undef, undef, undef, undef, undef, undef, undef, undef, undef, undef, undef, undef], defers := [] }) ?assign ?body ?done ?stop
  case assign =>
    intro l x W K hK
    gi_wp2
    exact hK
  case body =>
    rintro l pre x W ⟨v, r, hI⟩ hlt
    obtain ⟨sb, hsb⟩ : ∃ s, s = secAt L x := ⟨_, rfl⟩
    have hxL : x.val < L.length := by rw [hNl]; exact x.isLt
    have hget : L[x.val]? = some sb := by rw [hsb]; unfold secAt; simp [List.getD, hxL]
    have hsl : sb.length = 64 := hL.get hget
    have hsm : ∀ y ∈ sb, y < 256 := HS.out sb (List.mem_of_getElem? hget)
    have hbW : W.heap[b]? = w.heap[b]? := (hI.only.block b (by have := HBB.out; omega) (by have := HBB.out; omega)).trans (HBL.out.block b hbw)
    have hlies : Lies W (pieceC b off x) sb := .inr (.inr ⟨b, off + x.val * 64, 64, by rw [hsl]; rfl, fun j hj => by
      have h1 := HAT.out (x.val * 64 + j) (by rw [flat_length hL]; omega)
      rw [World.cell?_of_block (a := ⟨b, off + x.val * 64 + j, none⟩) hbW, Nat.add_assoc, h1]
      have h2 := flat_get hL hget (show j < 64 by omega)
      simp only [List.getD, h2]⟩)
    have hun := unpack_any hlies hsm
    unfold Unpacked secV at hun
    obtain ⟨st, hst⟩ : ∃ s, s = stOf sb := ⟨_, rfl⟩
    obtain ⟨E, hE⟩ : ∃ E, E = unpackE sb := ⟨_, rfl⟩
    rw [← hst, ← hE] at hun
    obtain ⟨T, PL, LB, D⟩ := st
    have HUN := Lib.hid hun
    have HST := Lib.hid hst
    have HEE := Lib.hid hE
    have HI := Lib.hid hI
    have HSB := Lib.hid hsb
    obtain ⟨m, hm⟩ : ∃ m, m = pre.length := ⟨_, rfl⟩
    have hrow := hI.row
    rw [← hm] at hrow
    obtain ⟨av, cv, hv⟩ := own_slice hI.row
    rw [← hm] at hv hlt
    subst hv
    have q3 : ∀ W', Below W.heap.size W W' → W'.cell? ⟨B3, 0, none⟩ = some (.int .u32 (t : Int)) := fun W' hW' => by
      have h1 : W.cell? ⟨B3, 0, none⟩ = some (.int .u32 (t : Int)) := (HK3.out.only HI.out.only (by have := HBB.out; omega)).cell rfl
      exact (hW'.cell (p := ⟨B3, 0, none⟩) (cell_lt h1)).trans h1
    have q5 : ∀ W', Below W.heap.size W W' → W'.cell? ⟨B5, 0, none⟩ = some (.slice av m cv) := fun W' hW' => by
      have h1 : W.cell? ⟨B5, 0, none⟩ = some (.slice av m cv) := HI.out.box.cell rfl
      exact (hW'.cell (p := ⟨B5, 0, none⟩) (cell_lt h1)).trans h1
    have Q3 := Lib.hid q3
    have Q5 := Lib.hid q5
    have hm8 : m < 8192 := by omega
    have e1 : IntKind.u32.wrap (m : Int) = (m : Int) := by rw [IntKind.wrap_u32]; omega
    have HM2 := Lib.hid hm
    have HROW := Lib.hid hrow
    clear hsb hxL hget hsl hsm hbW hlies hun hst hE hI hm hrow q3 q5
    by_cases hE0 : E = 0
    · by_cases hT : T = t
      · by_cases hP : PL = m
        · have hac : accB t pre.length (secAt L x) = true := by
            unfold accB
            rw [← HSB.out, ← HEE.out, ← HST.out, ← HM2.out]
            simp [hE0, hT, hP]
          have HAC := Lib.hid hac
          have HDT := HST.out
          rw [HSB.out] at HDT
          have HDT := Lib.hid HDT
          obtain rfl := hT.symm
          obtain rfl := hP.symm
          subst hE0
          clear hac
          have hB5 : Hid (B5 < w2.heap.size) := Lib.hid (by have := HBB.out; omega)
          obtain ⟨i0, hi1, hi2, hi3, hi4⟩ := info_parts infoSec
          have HIN := Lib.hid (And.intro hi1 (And.intro hi2 (And.intro hi3 hi4)))
          clear hi1 hi2 hi3 hi4
          gi_wp2_with (first | (refine ⟨trivial, ?_⟩; gi_at_call 49; refine (CallsIn.inRound l (callsIn_wide.2 HUN.out)).mono ?_; rintro e w3 ⟨u, rfl, hu, hfu, hb3⟩; have HU3 := Lib.hid hu; have HB3 := Lib.hid hb3; have HB8 : Hid (∀ o o' o'', Below W.heap.size W (((w3.alloc o).alloc o').alloc o'')) := Lib.hid (fun o o' o'' => ((hb3.alloc hb3.size o).alloc (by rw [World.size_alloc]; have := hb3.size; omega) o').alloc (by rw [World.size_alloc, World.size_alloc]; have := hb3.size; omega) o''); have cell6 : Hid (∀ o o' o'' w6, World.grownBy (((w3.alloc o).alloc o').alloc o'') w6 (Value.slice av m cv).ownBlock → w6.cell? ⟨B5, 0, none⟩ = some (.slice av m cv)) := Lib.hid (fun o o' o'' w6 hg => (box_grown HI.out (HB8.out _ _ _) hB5.out hg).cell (i := 0) rfl); have free6 : Hid (∀ o o' o'' w6, World.grownBy (((w3.alloc o).alloc o').alloc o'') w6 (Value.slice av m cv).ownBlock → w6.frozen? ⟨B5, 0, none⟩ = false) := Lib.hid (fun o o' o'' w6 hg => (box_grown HI.out (HB8.out _ _ _) hB5.out hg).free 0); have c3 := (two_new w3 (Q3.out w3 hb3)).1; obtain ⟨c5, c6⟩ := two_new w3 (Q5.out w3 hb3); obtain ⟨au, cu, hu4⟩ := lies_len hu.lies; obtain ⟨nu, hnu⟩ : ∃ q, q = (⟨t, m, LB, D⟩ : Sec).data.length := ⟨_, rfl⟩; rw [← hnu] at hu4; subst hu4; obtain ⟨n1, n2⟩ := two_cells w3 (.int .u32 (t : Int)) (.int .u32 (m : Int)) (.bool LB) (.slice au nu cu) (.int .u32 (t : Int)) (.int .u32 (m : Int)) 94 92; have n10 := n1 0 _ rfl; have n11 := n1 1 _ rfl; have n12 := n1 2 _ rfl; have n13 := n1 3 _ rfl; have n20 := n2 0 _ rfl; have n21 := n2 1 _ rfl; clear hu hfu hb3 hnu n1 n2; dsimp only) | (gi_at_builtin; refine wpListIn_append_own_at _ rfl (.tmp 31) (.tmp 33) 99 rfl w2.heap.size 94 i0 _ 4 40 Tryd.underlying99 HIN.out.1 HIN.out.2.1 HIN.out.2.2.1 HIN.out.2.2.2 rfl (by omega) _ m _ rfl (row_only HROW.out (only_beyond (S := fun _ => False) (HB8.out _ _ _)) (fun _ _ e => e)) ⟨w3.heap.size + 1 + 1, 0, none⟩ 1 1 (secC (⟨t, m, LB, D⟩, .slice au nu cu)) rfl rfl (three_new _ _ _ _ _) (secC_one _ rfl) (by unfold maxLen; omega) (by omega) (Nat.le_trans HI.out.only.size (HB8.out _ _ _).size) ?_; intro v' w6 hown' hgrow _ hat; have HOWN := Lib.hid hown'; have HGR := Lib.hid hgrow; have HATT := Lib.hid hat; obtain ⟨g', cap', rfl⟩ := ownsRow_succ hown'; have c7 := cell6.out _ _ _ _ hgrow; have f7 := free6.out _ _ _ _ hgrow; clear hown' hgrow hat))
          have hstep := PlacedI.step (s := ⟨t, m, LB, D⟩) HI.out hB5.out HB3.out ((((Below.refl w3.heap.size w3).alloc (Nat.le_refl _) _).alloc (by rw [World.size_alloc]; omega) _).alloc (by rw [World.size_alloc, World.size_alloc]; omega) _) HU3.out HDT.out HAC.out HM2.out HGR.out HOWN.out HATT.out
          exact ⟨hstep.1, keepC_only HI.out.only hstep.2.only (by have := HBB.out; omega) (by have := HBB.out; omega) (by have := HBB.out; omega) (by have := HBB.out; omega), _, _, hstep.2⟩
        · have hf : ((PL : Int) == (m : Int)) = false := by simp; omega
          have hac : accB t pre.length (secAt L x) = false := by
            unfold accB
            rw [← HSB.out, ← HEE.out, ← HST.out, ← HM2.out]
            simp [hP]
          have HAC := Lib.hid hac
          obtain rfl := hT.symm
          subst hE0
          clear hac hP
          gi_wp2_with (refine ⟨trivial, ?_⟩; gi_at_call 49; refine (CallsIn.inRound l (callsIn_wide.2 HUN.out)).mono ?_; rintro e w3 ⟨u, rfl, hu, hfu, hb3⟩; have HU3 := Lib.hid hu; have HB3 := Lib.hid hb3; have c3 := (two_new w3 (Q3.out w3 hb3)).1; obtain ⟨c5, c6⟩ := two_new w3 (Q5.out w3 hb3); obtain ⟨au, cu, hu4⟩ := lies_len hu.lies; obtain ⟨nu, hnu⟩ : ∃ q, q = (⟨t, PL, LB, D⟩ : Sec).data.length := ⟨_, rfl⟩; rw [← hnu] at hu4; subst hu4; obtain ⟨n1, n2⟩ := two_cells w3 (.int .u32 (t : Int)) (.int .u32 (PL : Int)) (.bool LB) (.slice au nu cu) (.int .u32 (t : Int)) (.int .u32 (m : Int)) 94 92; have n10 := n1 0 _ rfl; have n11 := n1 1 _ rfl; have n12 := n1 2 _ rfl; have n13 := n1 3 _ rfl; have n20 := n2 0 _ rfl; have n21 := n2 1 _ rfl; clear hu hfu hb3 hnu n1 n2; dsimp only)
          have hbe := fun o o' => (((HB3.out).alloc HB3.out.size _).alloc (by simp; have := HB3.out.size; omega) _ : Below W.heap.size W ((w3.alloc o).alloc o'))
          exact ⟨others_below (hbe _ _), rfl, pre, x, rfl, HAC.out, _, r, HI.out.on (hbe _ _)⟩
      · have hf : ((T : Int) == (t : Int)) = false := by simp; omega
        have hac : accB t pre.length (secAt L x) = false := by
          unfold accB
          rw [← HSB.out, ← HEE.out, ← HST.out, ← HM2.out]
          simp [hT]
        have HAC := Lib.hid hac
        subst hE0
        clear hac hT
        gi_wp2_with (refine ⟨trivial, ?_⟩; gi_at_call 49; refine (CallsIn.inRound l (callsIn_wide.2 HUN.out)).mono ?_; rintro e w3 ⟨u, rfl, hu, hfu, hb3⟩; have HU3 := Lib.hid hu; have HB3 := Lib.hid hb3; have c3 := (two_new w3 (Q3.out w3 hb3)).1; obtain ⟨c5, c6⟩ := two_new w3 (Q5.out w3 hb3); obtain ⟨au, cu, hu4⟩ := lies_len hu.lies; obtain ⟨nu, hnu⟩ : ∃ q, q = (⟨T, PL, LB, D⟩ : Sec).data.length := ⟨_, rfl⟩; rw [← hnu] at hu4; subst hu4; obtain ⟨n1, n2⟩ := two_cells w3 (.int .u32 (T : Int)) (.int .u32 (PL : Int)) (.bool LB) (.slice au nu cu) (.int .u32 (t : Int)) (.int .u32 (m : Int)) 94 92; have n10 := n1 0 _ rfl; have n11 := n1 1 _ rfl; have n12 := n1 2 _ rfl; have n13 := n1 3 _ rfl; have n20 := n2 0 _ rfl; have n21 := n2 1 _ rfl; clear hu hfu hb3 hnu n1 n2; dsimp only)
        have hbe := fun o o' => (((HB3.out).alloc HB3.out.size _).alloc (by simp; have := HB3.out.size; omega) _ : Below W.heap.size W ((w3.alloc o).alloc o'))
        exact ⟨others_below (hbe _ _), rfl, pre, x, rfl, HAC.out, _, r, HI.out.on (hbe _ _)⟩
    · have hf : (E == 0) = false := by simpa using hE0
      have hac : accB t pre.length (secAt L x) = false := by
        unfold accB
        rw [← HSB.out, ← HEE.out]
        simp [hE0]
      have HAC := Lib.hid hac
      clear hac
      gi_wp2_with (refine ⟨trivial, ?_⟩; gi_at_call 49; refine (CallsIn.inRound l (callsIn_wide.2 HUN.out)).mono ?_; rintro e w3 ⟨u, rfl, hu, hfu, hb3⟩; have HU3 := Lib.hid hu; have HB3 := Lib.hid hb3; have c3 := (two_new w3 (Q3.out w3 hb3)).1; obtain ⟨c5, c6⟩ := two_new w3 (Q5.out w3 hb3); obtain ⟨au, cu, hu4⟩ := lies_len hu.lies; obtain ⟨nu, hnu⟩ : ∃ q, q = (⟨T, PL, LB, D⟩ : Sec).data.length := ⟨_, rfl⟩; rw [← hnu] at hu4; subst hu4; obtain ⟨n1, n2⟩ := two_cells w3 (.int .u32 (T : Int)) (.int .u32 (PL : Int)) (.bool LB) (.slice au nu cu) (.int .u32 (t : Int)) (.int .u32 (m : Int)) 94 92; have n10 := n1 0 _ rfl; have n11 := n1 1 _ rfl; have n12 := n1 2 _ rfl; have n13 := n1 3 _ rfl; have n20 := n2 0 _ rfl; have n21 := n2 1 _ rfl; clear hu hfu hb3 hnu n1 n2; dsimp only)
      have hbe := fun o o' => (((HB3.out).alloc HB3.out.size _).alloc (by simp; have := HB3.out.size; omega) _ : Below W.heap.size W ((w3.alloc o).alloc o'))
      exact ⟨others_below (hbe _ _), rfl, pre, x, rfl, HAC.out, _, r, HI.out.on (hbe _ _)⟩
  case done =>
    rintro D ys W hD rfl ⟨v, r, hI⟩ hK
    obtain ⟨av, cv, hv⟩ := own_slice hI.row
    rw [List.length_finRange] at hv
    have hu : PlacedI t L w2 B5 (uptoF N N) v r W := by rw [uptoF_all]; exact hI
    have HE := Lib.hid (placed_end hu hNl (Nat.le_refl _) (.inl rfl))
    have HT := Lib.hid (placed_told (w := w) hI HBL.out (by have := HBB.out; omega) hD hK rfl (.deferred none))
    have c5 : W.cell? ⟨B5, 0, none⟩ = some v := hI.box.cell rfl
    rw [hv] at c5
    subst hv
    clear hu hI
    gi_wp2
    refine ⟨by simp, .inl ⟨_, _, rfl, run_takeDeferred hK, ?_⟩⟩
    refine ⟨_, results_tmp rfl _ _ _, ?_⟩
    exact ⟨_, r, rfl, HT.out.1, HE.out, HT.out.2.1, HT.out.2.2⟩
  case stop =>
    rintro D cd pre W hD ⟨k, hk, rfl⟩ ⟨rfl, pre', x, v, r, hpre, hacc, hI⟩ hK
    obtain ⟨av, cv, hv⟩ := own_slice hI.row
    have hE : r.map Prod.fst = placedL t 0 L := by
      cases k with
      | zero => rw [uptoF_zero] at hpre; simp at hpre
      | succ k =>
        rw [uptoF_succ (show k < N by omega)] at hpre
        obtain ⟨h1, h2⟩ := List.append_inj' hpre rfl
        cases h2
        rw [← h1] at hacc hI
        exact placed_end hI hNl (by omega) (.inr (by rw [uptoF_length (by omega)] at hacc; exact hacc))
    have HE := Lib.hid hE
    have HT := Lib.hid (placed_told (w := w) hI HBL.out (by have := HBB.out; omega) hD hK rfl (.deferred none))
    have c5 : W.cell? ⟨B5, 0, none⟩ = some v := hI.box.cell rfl
    rw [hv] at c5
    subst hv
    clear hpre hacc hI hE
    gi_wp2
    refine ⟨by simp, .inl ⟨_, _, rfl, run_takeDeferred hK, ?_⟩⟩
    refine ⟨_, results_tmp rfl _ _ _, ?_⟩
    exact ⟨_, r, rfl, HT.out.1, HE.out, HT.out.2.1, HT.out.2.2⟩
end Go.Proofs.YtcdgbmeechnpiaaDoor
/- The records that sectors make, one behind the other. -/
namespace Go.Proofs.YtcdgbmeechnpiaaDoor
open Go.RowKit

/-- the records of sectors, these bytes of one of them ahead -/
def recsL : List Nat → List Sec → List (List Nat)
  | _, [] => []
  | acc, s :: l => if s.last = true then (acc ++ s.data) :: recsL [] l else recsL (acc ++ s.data) l
theorem readJ_recs (t : Nat) (L : List (List Nat)) : ∀ k acc, readJ t k acc L = recsL acc (placedL t k L) := by
  induction L with
  | nil => intro k acc; rfl
  | cons b L ih =>
    intro k acc
    rw [readJ_cons]
    unfold placedL
    by_cases h : accB t k b = true
    · rw [if_pos h, if_pos h]
      unfold recsL
      rw [ih, ih]
    · rw [if_neg h, if_neg h]; rfl
theorem stOf_data (b : List Nat) : (stOf b).data.length ≤ 47 := by
  unfold stOf
  split
  · simp only [stRowOf, List.length_take]; omega
  · simp [Sec.none]
theorem placedL_run (t : Nat) (L : List (List Nat)) : ∀ k i x, (placedL t k L)[i]? = some x → x.turn = t ∧ x.place = k + i ∧ x.data.length ≤ 47 := by
  induction L with
  | nil => intro k i x h; simp [placedL] at h
  | cons b L ih =>
    intro k i x h
    unfold placedL at h
    by_cases hb : accB t k b = true
    · rw [if_pos hb] at h
      cases i with
      | zero =>
        rw [List.getElem?_cons_zero] at h
        cases h
        unfold accB at hb
        simp only [Bool.and_eq_true, decide_eq_true_eq] at hb
        exact ⟨hb.1.2, by rw [hb.2]; rfl, stOf_data b⟩
      | succ i =>
        rw [List.getElem?_cons_succ] at h
        obtain ⟨h1, h2, h3⟩ := ih (k + 1) i x h
        exact ⟨h1, by omega, h3⟩
    · rw [if_neg hb] at h; simp at h
theorem dataL_len {l : List Sec} (h : ∀ s ∈ l, s.data.length ≤ 47) : (dataL l).length ≤ 47 * l.length := by
  induction l with
  | nil => simp [dataL]
  | cons s l ih =>
    have h1 := h s List.mem_cons_self
    have h2 := ih (fun x hx => h x (List.mem_cons_of_mem _ hx))
    unfold dataL at h2 ⊢
    rw [List.flatMap_cons, List.length_append, List.length_cons]
    omega
/-- the sectors since the last one that was marked -/
def sinceL (l : List Sec) (p i : Nat) : List Sec := (l.drop p).take (i - p)
theorem since_next {l : List Sec} {p i : Nat} {s : Sec} (hp : p ≤ i) (hs : l[i]? = some s) : sinceL l p (i + 1) = sinceL l p i ++ [s] := by
  unfold sinceL
  rw [show i + 1 - p = (i - p) + 1 by omega]
  exact take_more (by rw [List.getElem?_drop, show p + (i - p) = i by omega]; exact hs)
theorem since_get {l : List Sec} {p i j : Nat} (hj : j < i - p) : (sinceL l p i)[j]? = l[p + j]? := by
  unfold sinceL
  rw [List.getElem?_take_of_lt hj, List.getElem?_drop]
theorem since_length {l : List Sec} {p i : Nat} (hi : i ≤ l.length) : (sinceL l p i).length = i - p := by
  unfold sinceL
  rw [List.length_take, List.length_drop]
  omega
/-- they are a record's -/
theorem since_ok {l : List Sec} {t p i : Nat} {s : Sec} (hp : p ≤ i) (hi : i < l.length) (hl : l.length ≤ 8192) (hrun : ∀ (j : Nat) (x : Sec), l[j]? = some x → x.turn = t ∧ x.place = j ∧ x.data.length ≤ 47) (hno : ∀ (j : Nat) (x : Sec), p ≤ j → j < i → l[j]? = some x → x.last = false) (hs : l[i]? = some s) (hlast : s.last = true) : JoinOk (sinceL l p (i + 1)) := by
  have hlen := since_length (p := p) (show i + 1 ≤ l.length from hi)
  obtain ⟨s0, hs0⟩ : ∃ s0, l[p]? = some s0 := ⟨_, List.getElem?_eq_getElem (by omega)⟩
  have h0 := hrun p s0 hs0
  refine ⟨s0, by rw [since_get (by omega)]; exact hs0, by rw [hlen]; omega, fun j x hx => ?_⟩
  have hj : j < i + 1 - p := by have := (List.getElem?_eq_some_iff.1 hx).1; omega
  rw [since_get hj] at hx
  have h1 := hrun (p + j) x hx
  refine ⟨by rw [h1.1, h0.1], by rw [h1.2.1, h0.2.1], ?_⟩
  rw [hlen]
  by_cases he : p + j = i
  · rw [he, hs] at hx
    cases hx
    rw [hlast, decide_eq_true (by omega)]
  · rw [hno (p + j) x (by omega) (by omega) hx, decide_eq_false (by omega)]
theorem recs_more {l : List Sec} {p i : Nat} {s : Sec} (hp : p ≤ i) (hs : l[i]? = some s) (hl : s.last = false) : recsL (dataL (sinceL l p i)) (l.drop i) = recsL (dataL (sinceL l p (i + 1))) (l.drop (i + 1)) := by
  have hi := (List.getElem?_eq_some_iff.1 hs).1
  rw [List.drop_eq_getElem_cons hi, (List.getElem?_eq_some_iff.1 hs).2, since_next hp hs, dataL_append]
  conv => lhs; unfold recsL
  rw [if_neg (by rw [hl]; decide)]
  simp [dataL]
theorem recs_last {l : List Sec} {p i : Nat} {s : Sec} (hp : p ≤ i) (hs : l[i]? = some s) (hl : s.last = true) : recsL (dataL (sinceL l p i)) (l.drop i) = dataL (sinceL l p (i + 1)) :: recsL (dataL (sinceL l (i + 1) (i + 1))) (l.drop (i + 1)) := by
  have hi := (List.getElem?_eq_some_iff.1 hs).1
  rw [List.drop_eq_getElem_cons hi, (List.getElem?_eq_some_iff.1 hs).2, since_next hp hs, dataL_append]
  conv => lhs; unfold recsL
  rw [if_pos hl]
  simp [dataL, sinceL]
/-- a part of a row of sectors, as it lies -/
theorem part_secs {w : World} {g p i c : Nat} {r : List (Sec × Value)} (hc : ∀ j u, (rowC r)[j]? = some u → w.cell? ⟨g, j, none⟩ = some u) (hd : ∀ x ∈ r, Lies w x.2 x.1.data) (hp : p ≤ i) (hi : i ≤ r.length) : SecsAt w (.slice (some ⟨g, p * 4, none⟩) (i - p) c) ((r.drop p).take (i - p)) := by
  refine ⟨some ⟨g, p * 4, none⟩, c, by rw [List.length_take, List.length_drop]; congr 1; omega, fun _ => ⟨g, p * 4, rfl, fun j u hj => ?_⟩, fun x hx => hd x (List.mem_of_mem_drop (List.mem_of_mem_take hx))⟩
  have hjl : j < 4 * (i - p) := by
    have := (List.getElem?_eq_some_iff.1 hj).1
    rw [rowC_length, List.length_take, List.length_drop] at this
    omega
  have hj4 : j % 4 < 4 := Nat.mod_lt _ (by omega)
  obtain ⟨x, hx⟩ : ∃ x, ((r.drop p).take (i - p))[j / 4]? = some x := ⟨_, List.getElem?_eq_getElem (by rw [List.length_take, List.length_drop]; omega)⟩
  have h1 := rowC_get hx (j % 4) hj4
  rw [show 4 * (j / 4) + j % 4 = j by omega, hj] at h1
  rw [List.getElem?_take_of_lt (by omega), List.getElem?_drop] at hx
  have h2 := rowC_get hx (j % 4) hj4
  rw [← h1] at h2
  have := hc _ _ h2
  rwa [show 4 * (p + j / 4) + j % 4 = p * 4 + j by omega] at this
theorem part_fst (r : List (Sec × Value)) (p i : Nat) : ((r.drop p).take (i - p)).map Prod.fst = sinceL (r.map Prod.fst) p i := by unfold sinceL; rw [List.map_take, List.map_drop]

set_option maxRecDepth 1000000 in
set_option maxHeartbeats 8000000 in
theorem records_any {w : World} {B t : Nat} {v : Value} {r : List (Sec × Value)} (hrow : w.ownsRow B 94 4 v r.length (rowC r)) (hd : ∀ x ∈ r, Lies w x.2 x.1.data) (hrun : ∀ (i : Nat) (x : Sec), (r.map Prod.fst)[i]? = some x → x.turn = t ∧ x.place = i ∧ x.data.length ≤ 47) (hn : r.length ≤ 8192) :
    Calls Tryd.prog 55 #[v] w fun e w' => ∃ v' us, e = .returned v' ∧ RowsO w.heap.size w' v' us (recsL [] (r.map Prod.fst)) ∧ Below w.heap.size w w' := by
  obtain ⟨n, hnr⟩ : ∃ n, n = r.length := ⟨_, rfl⟩
  obtain ⟨l, hl⟩ : ∃ l, l = r.map Prod.fst := ⟨_, rfl⟩
  have hll : l.length = n := by rw [hl, List.length_map, hnr]
  rw [← hnr] at hn
  have hf : ∃ a c, v = .slice a n c ∧ n ≤ c ∧ c ≤ maxLen ∧ (n ≠ 0 → ∃ g, a = some ⟨g, 0, none⟩ ∧ g < w.heap.size ∧ ∀ j u, (rowC r)[j]? = some u → w.cell? ⟨g, j, none⟩ = some u) := by
    rcases hrow.2 with ⟨hv, h0⟩ | ⟨g, cap, cur, hv, hgb, hgg, hc1, hc2, _⟩
    · exact ⟨none, 0, by rw [hv, show n = 0 by omega], by omega, by unfold maxLen; omega, fun h => absurd (show n = 0 by omega) h⟩
    · refine ⟨_, cap, by rw [hv, hnr], by omega, hc2, fun _ => ⟨g, rfl, lt_of_block hgg, fun j u hj => ?_⟩⟩
      rw [hv] at hrow
      rw [hrow.cellAt j (by have := (List.getElem?_eq_some_iff.1 hj).1; rw [rowC_length] at this; omega), hj]
  obtain ⟨a, c, rfl, hnc, hcm, hfa⟩ := hf
  have HF := Lib.hid hfa
  have HD := Lib.hid hd
  have HR := Lib.hid hrun
  have HL := Lib.hid hl
  have HN := Lib.hid hnr
  have HC := Lib.hid hcm
  rw [← hl] at HR ⊢
  obtain ⟨i0, hi1, hi2, hi3, hi4⟩ := info_parts infoR
  have HIN := Lib.hid (And.intro hi1 (And.intro hi2 (And.intro hi3 hi4)))
  clear hrow hd hrun hl hnr hfa hi1 hi2 hi3 hi4 hcm
  go_enter Tryd.func55, Tryd.ntmps55
  go_wp2_with fail
  go_loopw [3, 4, 11] (fun va f x wr => ∃ (i p : Nat) (us : List Value) (Rd : List (List Nat)), i ≤ n ∧ p ≤ i ∧ f = .int .i64 (p : Int) ∧ x = .int .i64 (i : Int) ∧ RowsO w.heap.size wr va us Rd ∧ Rd.length ≤ i ∧ recsL [] l = Rd ++ recsL (dataL (sinceL l p i)) (l.drop i) ∧ (∀ (j : Nat) (s : Sec), p ≤ j → j < i → l[j]? = some s → s.last = false) ∧ Below w.heap.size w wr) (fun _ _ x _ => n - (intOf x).toNat)
  case atStart => exact ⟨0, 0, [], [], Nat.zero_le _, Nat.le_refl _, rfl, rfl, RowsO.nil _ _, Nat.le_refl _, by simp [sinceL, dataL], fun j s _ h => by omega, Below.refl _ _⟩
  case round =>
    obtain ⟨i, p, us, Rd, hi, hp, rfl, rfl, hro, hrl, hre, hno, hb⟩ := hrel
    have HRE := Lib.hid hre
    have HNO := Lib.hid hno
    have HB := Lib.hid hb
    obtain ⟨ma, ca, rfl⟩ := hro.slice
    obtain ⟨m, hm⟩ : ∃ m, m = Rd.length := ⟨_, rfl⟩
    rw [← hm] at hrl hro ⊢
    have HM := Lib.hid hm
    have HRO := Lib.hid hro
    clear hro hre hno hb hm
    by_cases hlt : i < n
    · obtain ⟨g, rfl, hgw, hcells⟩ := HF.out (by omega)
      obtain ⟨x, hx⟩ : ∃ x, r[i]? = some x := ⟨r[i]'(by have := HN.out; omega), List.getElem?_eq_getElem _⟩
      have hsl : l[i]? = some x.1 := by rw [HL.out, List.getElem?_map, hx]; rfl
      have HSL := Lib.hid hsl
      obtain ⟨y0, y1, y2, y3⟩ := strow_cells (w := wr) (off := 0) (fun j u hj => by rw [Nat.zero_add, ← hcells j u hj]; exact HB.out.cell (p := ⟨g, j, none⟩) hgw) hx
      have hlx := HD.out x (List.mem_of_getElem? hx)
      have hrn := HR.out i x.1 hsl
      obtain ⟨au, cu, hu⟩ := lies_len hlx
      obtain ⟨⟨tx, px, Lx, Dx⟩, ux⟩ := x
      obtain ⟨nx, hnx⟩ : ∃ q, q = Dx.length := ⟨_, rfl⟩
      simp only at y0 y1 y2 y3 hu
      rw [← hnx] at hu
      subst hu
      rw [Nat.zero_add] at y0 y1 y2 y3
      have HCE := Lib.hid hcells
      have HGW := Lib.hid hgw
      clear hx hsl hlx hrn hnx hcells
      cases Lx
      · go_wp2_with fail
        go_roundw
        case rel => exact ⟨i + 1, p, us, Rd, by omega, by omega, rfl, by simp, HRO.out.on ((Below.refl _ _).alloc (Nat.le_refl _) _), by rw [← HM.out]; omega, by rw [HRE.out, recs_more hp HSL.out rfl], fun j s h1 h2 h3 => by
          by_cases he : j = i
          · subst he; rw [HSL.out] at h3; cases h3; rfl
          · exact HNO.out j s h1 (by omega) h3, HB.out.trans (((Below.refl _ _).alloc (Nat.le_refl _) _).mono HB.out.size)⟩
        case measure => simp [intOf]; omega
      · have e1 : IntKind.i64.wrap ((i : Int) + 1) = ((i + 1 : Nat) : Int) := by rw [IntKind.wrap_i64]; omega
        have h1c : i + 1 ≤ c := by omega
        have hpi : p ≤ i + 1 := by omega
        go_wp2_with fail
        obtain ⟨W5, hW5⟩ : ∃ W, W = wr.alloc (.cells #[.int .u32 (tx : Int), .int .u32 (px : Int), .bool true, .slice au nx cu] 94) := ⟨_, rfl⟩
        rw [← hW5]
        have HB5 : Hid (Below wr.heap.size wr W5) := Lib.hid (by rw [hW5]; exact (Below.refl _ _).alloc (Nat.le_refl _) _)
        have HBW5 : Hid (Below w.heap.size w W5) := Lib.hid (HB.out.trans (HB5.out.mono HB.out.size))
        have hsecs : SecsAt W5 (.slice (some ⟨g, p * 4, none⟩) (i + 1 - p) (c - p)) ((r.drop p).take (i + 1 - p)) := part_secs (fun j u hj => by rw [← HCE.out j u hj]; exact HBW5.out.cell (p := ⟨g, j, none⟩) HGW.out) (fun x hx => lies_keep (HD.out x hx) HBW5.out) hpi (by rw [← HN.out]; omega)
        have hok : JoinOk (sinceL l p (i + 1)) := since_ok hp (by omega) (by omega) HR.out HNO.out HSL.out rfl
        have hpf := part_fst r p (i + 1)
        rw [← HL.out] at hpf
        have hmem : ∀ s ∈ sinceL l p (i + 1), s.data.length ≤ 47 ∧ s.place < 4294967296 := fun s hs => by
          obtain ⟨j, hj⟩ := List.mem_iff_getElem?.1 (List.mem_of_mem_drop (List.mem_of_mem_take hs))
          have := HR.out j s hj
          have := (List.getElem?_eq_some_iff.1 hj).1
          omega
        have hdl : (dataL (sinceL l p (i + 1))).length ≤ 1000000000 := by
          have h1 := dataL_len (fun s hs => (hmem s hs).1)
          rw [since_length (by omega)] at h1
          omega
        have hj := stjoin_any hsecs (fun x hx => (hmem x.1 (by rw [← hpf]; exact List.mem_map_of_mem hx)).2) (by rw [hpf]; exact hdl) (by rw [List.length_take, List.length_drop]; omega)
        rw [hpf] at hj
        have HJ := Lib.hid hj
        have HOK := Lib.hid hok
        have HDL := Lib.hid hdl
        obtain ⟨DL, hDL⟩ : ∃ D, D = dataL (sinceL l p (i + 1)) := ⟨_, rfl⟩
        have HDD := Lib.hid hDL
        clear hsecs hok hpf hmem hdl hj hW5 y0 y1 y2 y3 hDL
        refine HJ.out.mono ?_
        rintro e w6 (⟨_, vj, rfl, hown, hb6⟩ | ⟨hnot, _⟩)
        · rw [← HDD.out] at hown
          obtain ⟨aj, cj, rfl⟩ := own_slice hown
          obtain ⟨nj, hnj⟩ : ∃ q, q = DL.length := ⟨_, rfl⟩
          have HLJ : Hid (Lies w6 (.slice aj nj cj) DL) := Lib.hid (by rw [hnj]; exact ownsRow_lies hown)
          have HJB : Hid (∀ k, (Value.slice aj nj cj).ownBlock = some k → wr.heap.size ≤ k) := Lib.hid (fun k hk => Nat.le_trans HB5.out.size (hown.lt k (by rw [hnj] at hk; exact hk)).1)
          have HB6 : Hid (∀ o, Below wr.heap.size wr (w6.alloc o)) := Lib.hid (fun o => (HB5.out.trans (hb6.mono HB5.out.size)).alloc (Nat.le_trans HB5.out.size hb6.size) o)
          rw [← hnj]
          have HROW : Hid (wr.ownsRow w.heap.size 31 1 (.slice ma m ca) m us) := Lib.hid (by have := HRO.out.row; rwa [HRO.out.len, ← HM.out] at this)
          clear hown hb6 hnj
          dsimp only
          go_wp2_with (at_builtin; refine wpList_append_own_at _ rfl (.tmp 28) (.tmp 30) 32 rfl w.heap.size 31 i0 _ 1 24 Tryd.underlying32 HIN.out.1 HIN.out.2.1 HIN.out.2.2.1 HIN.out.2.2.2 rfl (by omega) _ m _ rfl (row_only HROW.out (only_beyond (S := fun _ => False) (HB6.out _)) (fun _ _ e => e)) ⟨w6.heap.size, 0, none⟩ 1 1 [.slice aj nj cj] rfl rfl (cell_one_new _ _ _) (by simp [Value.oneCell']) (by unfold maxLen; omega) (by omega) (Nat.le_trans HB.out.size (HB6.out _).size) ?_; intro v' w7 hown' hgrow _ hat; have HOWN := Lib.hid hown'; have HGR := Lib.hid hgrow; have HATT := Lib.hid hat; obtain ⟨g', cap', rfl⟩ := ownsRow_succ hown'; clear hown' hgrow hat)
          have hap := HRO.out.append (bs := DL) (m := m) (by rw [HRO.out.len, ← HM.out]) (HB6.out _) (lies_keep HLJ.out ((Below.refl _ _).alloc (Nat.le_refl _) _)) (fun k hk _ e => by have h1 := (HRO.out.lt e).2; have h2 := HJB.out k hk; omega) HGR.out HOWN.out HATT.out
          have HAP := Lib.hid hap
          have HB7 : Hid (Below w.heap.size w w7) := Lib.hid (by
            refine (HB.out.trans ((HB6.out _).mono HB.out.size)).grown HGR.out (Nat.le_trans HB.out.size (HB6.out _).size) (fun k hk => (HRO.out.lt hk).1))
          clear hap
          go_roundw
          case rel => exact ⟨i + 1, i + 1, us ++ [.slice aj nj cj], Rd ++ [DL], by omega, Nat.le_refl _, by simp, by simp, HAP.out, by rw [List.length_append, List.length_singleton, ← HM.out]; omega, by rw [HRE.out, recs_last hp HSL.out rfl, HDD.out, List.append_assoc]; rfl, fun j s h1 h2 => by omega, HB7.out⟩
          case measure => simp [intOf]; omega
        · exact absurd HOK.out hnot
    · obtain rfl : i = n := by omega
      go_wp2
      go_ret
      refine ⟨_, us, rfl, ?_, HB.out⟩
      have h1 := HRE.out
      rw [List.drop_of_length_le (show l.length ≤ i by omega)] at h1
      have h2 : recsL (dataL (sinceL l p i)) [] = [] := rfl
      rw [h2, List.append_nil] at h1
      rw [h1]
      exact HRO.out
end Go.Proofs.YtcdgbmeechnpiaaDoor
/- A journal read. -/
namespace Go.Proofs.YtcdgbmeechnpiaaDoor
open Go.RowKit

theorem placedL_len (t : Nat) (L : List (List Nat)) : ∀ k, (placedL t k L).length ≤ L.length := by
  induction L with
  | nil => intro k; simp [placedL]
  | cons b L ih =>
    intro k
    unfold placedL
    split
    · have := ih (k + 1); simp; exact this
    · simp
theorem ownsRow_less {w : World} {base base' : Nat} {e : TypeId} {size n : Nat} {v : Value} {xs : List Value} (h : w.ownsRow base e size v n xs) (hb : base' ≤ base) : w.ownsRow base' e size v n xs := ⟨h.1, h.2.elim .inl (fun ⟨g, cap, cur, a, b, c⟩ => .inr ⟨g, cap, cur, a, Nat.le_trans hb b, c⟩)⟩
set_option maxRecDepth 1000000 in
set_option maxHeartbeats 4000000 in
theorem joread_bad {w : World} {B P : Nat} {d : Dev} {f n : Int} (h : DevAt w B P d) (hf2 : f ≤ 9223372036854775807) (hb : decide (0 ≤ f ∧ 1 ≤ n ∧ n ≤ (d.lies.length : Int) - f) = false) :
    Calls Tryd.prog 46 #[.pointer (some ⟨P, 0, none⟩), .int .i64 f, .int .i64 n] w fun e w' => e = .returned (.tuple #[.slice none 0 0, .int .u32 0, .int .i64 1]) ∧ w' = w := by
  have HH := Lib.hid (johas_any (n := n) h hf2)
  have HE := Lib.hid hb
  clear h hb
  go_enter Tryd.func46, Tryd.ntmps46
  go_wp2_with (go_at_call 50; refine (HH.out).mono ?_; rw [HE.out]; rintro e w' ⟨rfl, rfl⟩)
  go_ret3
  exact ⟨rfl, rfl⟩
set_option maxRecDepth 1000000 in
set_option maxHeartbeats 8000000 in
theorem joread_ok {w : World} {B P frm n : Nat} {d : Dev} (h : DevAt w B P d) (hn : 1 ≤ n) (hr : frm + n ≤ d.lies.length) (hup : d.down = false) (hs : SmallD d) :
    Calls Tryd.prog 46 #[.pointer (some ⟨P, 0, none⟩), .int .i64 (frm : Int), .int .i64 (n : Int)] w fun e w' => ∃ v us, e = .returned (.tuple #[v, .int .u32 (turn0 ((d.told.drop frm).take n) : Int), .int .i64 0]) ∧ RowsO w.heap.size w' v us (readsJ ((d.told.drop frm).take n)) ∧ Below w.heap.size w w' := by
  have hN : d.lies.length ≤ 8192 := h.ok.size
  have HH := Lib.hid (johas_any (f := (frm : Int)) (n := (n : Int)) h (by omega))
  have HE : Hid (decide (0 ≤ (frm : Int) ∧ 1 ≤ (n : Int) ∧ (n : Int) ≤ (d.lies.length : Int) - (frm : Int)) = true) := Lib.hid (by simp; omega)
  have HRD := Lib.hid (read_ok (f := frm) (n := n) h hup hr)
  obtain ⟨L, hL⟩ : ∃ L, L = (d.told.drop frm).take n := ⟨_, rfl⟩
  have hS : Sect L := fun s hs => by rw [hL] at hs; exact h.ok.told s (List.mem_of_mem_drop (List.mem_of_mem_take hs))
  have hSm : ∀ s ∈ L, ∀ x ∈ s, x < 256 := fun x hx => by rw [hL] at hx; exact hs.told x (List.mem_of_mem_drop (List.mem_of_mem_take hx))
  have hLl : L.length = n := by rw [hL, List.length_take, List.length_drop, d.told_length]; omega
  obtain ⟨T, hT⟩ : ∃ T, T = turn0 L := ⟨_, rfl⟩
  have HTT := Lib.hid hT
  rw [← hL] at HRD ⊢
  rw [← hT]
  have HS := Lib.hid hS
  have HSM := Lib.hid hSm
  have hn8 : n ≤ 8192 := by omega
  clear h hs hL hS hSm hT
  go_enter Tryd.func46, Tryd.ntmps46
  go_wp2_with (go_at_call 50; refine (HH.out).mono ?_; rw [HE.out]; rintro e w1 ⟨rfl, rfl⟩)
  refine HRD.out.mono ?_
  rintro e w2 ⟨v', rfl, hown, hb2⟩
  obtain ⟨M, hM⟩ : ∃ M, M = n * 64 := ⟨_, rfl⟩
  rw [← hM] at hown
  have hfl : L.flatten.length = M := by rw [flat_length HS.out, hLl, hM]
  obtain ⟨g, cap, rfl, hcap, hgw⟩ : ∃ g cap, v' = .slice (some ⟨g, 0, none⟩) M cap ∧ M ≤ cap ∧ g < w2.heap.size := by
    rcases hown.2 with ⟨_, h0⟩ | ⟨g, cap, cur, hv, _, hgg, hc, _⟩
    · omega
    · exact ⟨g, cap, hv, hc, lt_of_block hgg⟩
  have hat : BytesAt w2 g 0 L.flatten := fun j hj => by rw [Nat.zero_add, hown.cellAt j (by omega), u8s_getD L.flatten j hj]
  obtain ⟨s0, hs0⟩ : ∃ s0, L[0]? = some s0 := ⟨_, List.getElem?_eq_getElem (by omega)⟩
  have hl0 : s0.length = 64 := HS.out.get hs0
  have hlies : Lies w2 (.slice (some ⟨g, 0, none⟩) 64 cap) s0 := .inr (.inr ⟨g, 0, cap, by rw [hl0], fun j hj => by
    have h1 := hat j (by omega)
    rw [h1]
    have h2 := flat_get HS.out hs0 (show j < 64 by omega)
    rw [Nat.zero_mul, Nat.zero_add] at h2
    simp only [List.getD, h2]⟩)
  have HTN := Lib.hid (turn_any hlies (HSM.out s0 (List.mem_of_getElem? hs0)))
  have hT := HTT.out
  have hT2 : (stOf s0).turn = T := by rw [hT]; unfold turn0; rw [List.getD, hs0]; rfl
  rw [hT2] at HTN
  have HAT := Lib.hid hat
  have HM := Lib.hid hM
  have HB2 := Lib.hid hb2
  have hc64 : 64 ≤ cap := by omega
  have HPL : Hid (∀ w3, Below w2.heap.size w2 w3 → _) := Lib.hid (fun w3 (hb3 : Below w2.heap.size w2 w3) => placed_any (w := w3) (b := g) (off := 0) (c := cap) (N := n) (t := T) HS.out hLl hn8 HSM.out (hat.below hb3 hgw) (Nat.lt_of_lt_of_le hgw hb3.size) (by rw [← hM]; exact hcap))
  rw [← hM] at HPL
  clear hown hfl hat hs0 hl0 hlies hT hT2 hM hb2
  dsimp only
  go_wp2_with (go_at_call 36; refine (HTN.out).mono ?_; rintro e w3 ⟨rfl, hb3⟩; have HB3 := Lib.hid hb3; clear hb3)
  refine (HPL.out w3 HB3.out).mono ?_
  rintro e w4 ⟨v4, r, rfl, hr4, hf4, hl4, hb4⟩
  have HRC := Lib.hid (records_any (t := T) hr4 (fun x hx => (hl4 x hx).lies) (fun i x hx => by rw [hf4] at hx; have := placedL_run T L 0 i x hx; rwa [Nat.zero_add] at this) (by
    have h1 := congrArg List.length hf4
    rw [List.length_map] at h1
    have h2 : (placedL T 0 L).length ≤ L.length := placedL_len T L 0
    omega))
  rw [hf4] at HRC
  obtain ⟨a4, c4, rfl⟩ := own_slice hr4
  have HB4 := Lib.hid hb4
  clear hr4 hf4 hl4 hb4
  dsimp only
  go_wp2_with (go_at_call 55; refine (HRC.out).mono ?_; rintro e w5 ⟨v5, us, rfl, hro, hb5⟩; have HRO := Lib.hid hro; have HB5 := Lib.hid hb5; clear hro hb5; dsimp only)
  go_ret3
  have hs3 := HB3.out.size
  have hs4 := HB4.out.size
  have hb : Below w1.heap.size w1 w4 := (HB2.out.trans (HB3.out.mono HB2.out.size)).trans (HB4.out.mono (Nat.le_trans HB2.out.size hs3))
  refine ⟨v5, us, rfl, ?_, hb.trans (HB5.out.mono hb.size)⟩
  have h1 := HRO.out
  unfold readsJ
  rw [← HTT.out, readJ_recs]
  exact ⟨ownsRow_less h1.row hb.size, h1.len, h1.data⟩
end Go.Proofs.YtcdgbmeechnpiaaDoor
