/- HoldPlays' pieces by their numbers. HoldPlays: what lies between two of the holds that All tells. Written by py/hold-plays.py. -/
import Derived.Test.YtphgkkdpdiiioaaHoNSt
namespace Go.Proofs.Ytphgkkdpdiiioaa
open Go.RowKit Go.Shelf

/-- a block of a code, by its number -/
def blkOf (n : Nat) : Code → Option Code
  | .block k c => if k = n then some (.block k c) else blkOf n c
  | .seq a b => (blkOf n a).orElse fun _ => blkOf n b
  | .loop c => blkOf n c
  | .scope c => blkOf n c
  | .cond _ a b => (blkOf n a).orElse fun _ => blkOf n b
  | _ => none
/-- a region of a code, by its number -/
def regOf (n : Nat) : Code → Option Code
  | .region k o d => if k = n then some (.region k o d) else none
  | .block _ c => regOf n c
  | .seq a b => (regOf n a).orElse fun _ => regOf n b
  | .loop c => regOf n c
  | .scope c => regOf n c
  | .cond _ a b => (regOf n a).orElse fun _ => regOf n b
  | .rangeFunc _ _ _ c => regOf n c
  | _ => none
noncomputable def hpBlk (n : Nat) : Code := (blkOf n (Try.f3.body.getD .skip)).getD .skip
noncomputable def hpReg (n : Nat) : Code := (regOf n (Try.f3.body.getD .skip)).getD .skip
/-- what lies aside of all that HoldPlays holds may change -/
theorem PSt.aside {S : Nat → Prop} {w W W' : World} {q7 q8 q10 p : Nat} {ra rb : Int} {b : Option Nat} {mr mt : List Hld} {v : Value} {ds : List Deferred} (h : PSt w q7 q8 q10 p ra rb b mr mt v ds W) (ho : Only S W W')
    (hS : ∀ k, S k → w.heap.size ≤ k ∧ ∃ cs t fr, W.heap[k]? = some (.cells cs t fr) ∧ t ≠ 24 ∧ t ≠ 4 ∧ t ≠ 28 ∧ t ≠ 52 ∧ t ≠ 30) : PSt w q7 q8 q10 p ra rb b mr mt v ds W' := by
  have hB : ∀ k, S k → w.heap.size ≤ k := fun k hk => (hS k hk).1
  have n7 : ¬ S q7 := fun hk => by obtain ⟨_, cs, t, fr, e, h1, _⟩ := hS _ hk; have := h.nst.rg; unfold RgAt at this; rw [e] at this; injection this with this; injection this with _ this; exact h1 this
  have n8 : ¬ S q8 := fun hk => by obtain ⟨_, cs, t, fr, e, _, h1, _⟩ := hS _ hk; have := h.nst.res; rw [e] at this; injection this with this; injection this with _ this; exact h1 this
  have n10 : ¬ S q10 := fun hk => by obtain ⟨_, cs, t, fr, e, _, _, h1, _⟩ := hS _ hk; have := h.box; rw [e] at this; injection this with this; injection this with _ this; exact h1 this
  refine ⟨h.nst.only ho n7 n8 hB, (ho.block q10 (lt_of_block h.box) n10).trans h.box, h.m10, row_only h.row ho (fun k hk hs => ?_), h.tst.only ho (fun k hk hs => ?_) hB, h.mks.only ho (fun J o hJ hs => ?_)⟩
  · obtain ⟨_, cs, t, fr, e, _, _, _, _, h1⟩ := hS _ hs
    exact row_ne e h.row h1 hk
  · obtain ⟨_, cs, t, fr, e, _, _, _, h1, _⟩ := hS _ hs
    exact h.tst.at_.off e h1 hk
  · obtain ⟨_, cs, t, fr, e, _⟩ := hS _ hs
    rw [hJ] at e; cases e
/-- what the two boxes hold between two of the holds -/
structure ASt (W0 : World) (q26 q27 : Nat) (xs : List Hld) (pre : List (Fin xs.length)) (W : World) : Prop where
  ex : ∃ l n, W.heap[q26]? = some (.cells #[.string l] 9 (0, 0)) ∧ W.heap[q27]? = some (.cells #[.int .i64 n] 3 (0, 0)) ∧ (∀ k, k ≤ xs.length → pre = uptoN xs.length k → n = (k : Int) ∧ (k = 0 → l = ⟨#[]⟩) ∧ ∀ j y, j + 1 = k → xs[j]? = some y → l = y.name)
  only : Only (fun k => k = q26 ∨ k = q27) W0 W
theorem ASt.own {W0 : World} {q26 q27 : Nat} {xs : List Hld} (h6 : q26 < W0.heap.size) (h7 : q27 < W0.heap.size) : OwnFrom W0.heap.size (fun pre W => ASt W0 q26 q27 xs pre W) := fun pre X Y row hs hg hr => by
  have hrow : ∀ k, k < W0.heap.size → some k ≠ row := fun k hk e => by have := (hr k e.symm).1; omega
  obtain ⟨⟨l, n, e1, e2, e3⟩, ho⟩ := hs
  exact ⟨⟨l, n, (hg.block q26 (Nat.lt_of_lt_of_le h6 ho.size) (hrow _ h6)).trans e1, (hg.block q27 (Nat.lt_of_lt_of_le h7 ho.size) (hrow _ h7)).trans e2, e3⟩, ho.trans (Only.grown hg) (fun i hi e => absurd e.symm (hrow i hi))⟩
theorem ASt.alloc {W0 W : World} {q26 q27 : Nat} {xs : List Hld} {pre : List (Fin xs.length)} (h : ASt W0 q26 q27 xs pre W) (o : Obj) : ASt W0 q26 q27 xs pre (W.alloc o) := by
  obtain ⟨⟨l, n, e1, e2, e3⟩, ho⟩ := h
  exact ⟨⟨l, n, (Below.heap_alloc _ _ _ (lt_of_block e1)).trans e1, (Below.heap_alloc _ _ _ (lt_of_block e2)).trans e2, e3⟩, ho.trans (Only.alloc (fun _ => False) _ _) (fun _ _ h => h.elim)⟩
theorem less_empty {n : ByteArray} (h : 1 ≤ n.size) : Op.bytesLess (⟨#[]⟩ : ByteArray).toList n.toList = true := by
  rw [ByteArray.toList_eq, ByteArray.toList_eq]
  obtain ⟨a⟩ := n
  obtain ⟨l⟩ := a
  cases l with
  | nil => exact absurd h (by decide)
  | cons x l => rfl
theorem uptoN_last {N k : Nat} {pre : List (Fin N)} {x : Fin N} (hk : k ≤ N) (h : pre ++ [x] = uptoN N k) : x.val + 1 = k ∧ pre = uptoN N x.val := by
  have hl := congrArg List.length h
  rw [uptoN_length hk] at hl
  simp at hl
  obtain ⟨j, rfl⟩ : ∃ j, k = j + 1 := ⟨k - 1, by omega⟩
  rw [uptoN_succ (by omega)] at h
  have h2 := List.append_inj' h rfl
  have h3 : x = ⟨j, by omega⟩ := by simpa using h2.2
  subst h3
  exact ⟨rfl, h2.1⟩
theorem PSt.afterAll {w W W' : World} {q7 q8 q10 p q26 q27 K : Nat} {ra rb : Int} {b : Option Nat} {m : List Hld} {v : Value} {ds : List Deferred} {xs : List Hld} (h : PSt w q7 q8 q10 p ra rb b m m v ds W) (hx : xs.Perm m) (h26 : w.heap.size ≤ q26) (h27 : w.heap.size ≤ q27)
    (e26 : ∃ l, W.heap[q26]? = some (.cells #[.string l] 9 (0, 0))) (e27 : ∃ n, W.heap[q27]? = some (.cells #[.int .i64 n] 3 (0, 0))) (ha : ASt W q26 q27 xs (List.finRange xs.length) W') (hK : W.heap.size ≤ K) (hk : W'.heap[K]? = some (.deferred (some []))) :
    PSt w q7 q8 q10 p ra rb b m m v (markOf K :: ds) W' ∧ W'.cell? ⟨q27, 0, none⟩ = some (.int .i64 (m.length : Int)) := by
  obtain ⟨l26, e26⟩ := e26
  obtain ⟨n27, e27⟩ := e27
  obtain ⟨⟨l, n, e1, e2, e3⟩, ho⟩ := ha
  have hp := h.aside ho (fun k hk => by
    rcases hk with rfl | rfl
    · exact ⟨h26, _, _, _, e26, by decide, by decide, by decide, by decide, by decide⟩
    · exact ⟨h27, _, _, _, e27, by decide, by decide, by decide, by decide, by decide⟩)
  refine ⟨⟨hp.nst, hp.box, hp.m10, hp.row, hp.tst, ?_⟩, ?_⟩
  · obtain ⟨Ks, rfl, h2, h3⟩ := hp.mks
    obtain ⟨Ks', f1, _, f3⟩ := h.mks
    have hinj : Ks = Ks' := by
      have hi : ∀ a b, markOf a = markOf b → a = b := fun a b e => by unfold markOf at e; injection e with e; injection e
      exact (List.map_inj_right hi).1 f1
    subst hinj
    refine ⟨K :: Ks, rfl, List.nodup_cons.2 ⟨fun hm => ?_, h2⟩, fun J hJ => ?_⟩
    · have := (Array.getElem?_eq_some_iff.1 (f3 K hm).2).1; omega
    · rcases List.mem_cons.1 hJ with rfl | hJ
      · exact ⟨by have := h.nst.bel.size; omega, hk⟩
      · exact h3 J hJ
  · have := (e3 xs.length (Nat.le_refl _) (uptoN_all _).symm).1
    rw [(cells1 e2).1, this, hx.length_eq]
end Go.Proofs.Ytphgkkdpdiiioaa
