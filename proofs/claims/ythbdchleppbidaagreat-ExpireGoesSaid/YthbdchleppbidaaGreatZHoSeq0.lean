/- maps.Values of the map of holds: what comes, in some order. -/
import Derived.Test.YthbdchleppbidaaGreatMI
import Derived.RangeFuncMany
import Derived.RangeFuncKeeps
import Derived.RangeFuncLeaves
import Derived.Sort.MapsRangeIn
import Derived.OwnWalkIn
import Derived.TacticsInMore
import Derived.LoopNIn
import Derived.LoopIn
import Derived.BigRegionIn
import Derived.Laws.IdiomRangeMap
import Derived.Shelf.Abstract
namespace Go.Proofs.YthbdchleppbidaaGreat
open Go.RowKit Go.Maps Go.Sort Go.Shelf

attribute [local go_sem] Oper.semAt_some

/-- which have come -/
def ComeH (m : List Hld) (left : Lit → Bool) (ps : List Hld) : Prop := ∃ rest, (ps ++ rest).Perm m ∧ (∀ h ∈ ps, left (litS h.name) = false) ∧ ∀ h ∈ rest, left (litS h.name) = true
theorem ComeH.start {es : List (Lit × DataW Hld)} {m : List Hld} (hp : es.Perm (m.map entH)) : ComeH m (Maps.has (.map es)) [] := ⟨m, .refl _, by simp, fun h hh => by rw [MapIs.has hp]; exact hasH_true.2 ⟨h, hh, rfl⟩⟩
theorem ComeH.done {m ps : List Hld} {left : Lit → Bool} (h : ComeH m left ps) (hl : ∀ k, left k = false) : ps.Perm m := by
  obtain ⟨rest, h1, h2, h3⟩ := h
  cases rest with
  | nil => simpa using h1
  | cons x r => have := h3 x (by simp); rw [hl] at this; cases this
theorem ComeH.step {m ps : List Hld} {left : Lit → Bool} {c : Hld} (t : TabM m) (h : ComeH m left ps) (hc : c ∈ m) (hl : left (litS c.name) = true) : ComeH m (fun z => left z && !z.sameKey (litS c.name)) (ps ++ [c]) := by
  obtain ⟨rest, h1, h2, h3⟩ := h
  have hr : c ∈ rest := by
    rcases List.mem_append.1 (h1.mem_iff.2 hc) with h | h
    · rw [h2 c h] at hl; cases hl
    · exact h
  obtain ⟨a, b, rfl⟩ := List.append_of_mem hr
  refine ⟨a ++ b, ?_, fun x hx => ?_, fun x hx => ?_⟩
  · refine List.Perm.trans ?_ h1
    rw [List.append_assoc]
    refine List.Perm.append_left ps ?_
    show (c :: (a ++ b)).Perm (a ++ c :: b)
    exact (List.perm_middle).symm
  · dsimp only
    rw [litS_same]
    rcases List.mem_append.1 hx with hx | hx
    · rw [h2 x hx]; rfl
    · simp at hx; subst hx; simp
  · dsimp only
    rw [litS_same]
    have hxr : x ∈ a ++ c :: b := by rcases List.mem_append.1 hx with h | h <;> simp [h]
    have hu : (ps ++ (a ++ c :: b)).Pairwise fun x y => x.name ≠ y.name := (h1.pairwise_iff (fun {x y} hxy => Ne.symm hxy)).2 t.uniq
    have hu2 := (List.pairwise_append.1 hu).2.1
    have hu3 := ((List.perm_middle (a := c) (l₁ := a) (l₂ := b)).pairwise_iff (fun {x y} (hxy : x.name ≠ y.name) => Ne.symm hxy)).1 hu2
    have hne := (List.pairwise_cons.1 hu3).1 x hx
    rw [h3 x hxr]
    simp [Ne.symm hne]
theorem ComeH.len {m ps : List Hld} {left : Lit → Bool} (h : ComeH m left ps) : ps.length ≤ m.length := by
  obtain ⟨rest, h1, _, _⟩ := h
  have := h1.length_eq
  simp at this; omega
set_option maxRecDepth 1000000 in
set_option maxHeartbeats 8000000 in
theorem vals_some (n Bm g : Nat) (w : World) (m : List Hld) (hn : 1 ≤ n) (hB : w.heap[Bm]? = some (.cells #[.map (some g)] 92 (0, 0))) (hm : MapIs w g m) (t : TabM m) :
    SeqStopsK Fence.wide n Tryz.prog 114 #[.pointer (some ⟨Bm, 0, none⟩)] (fun h : Hld => #[h.val]) KeepsWalks (fun xs => xs.Perm m) (fun _ => True) m.length w := fun id J Jx W hW hJ hJx hY h0 => by
  obtain ⟨es, hown, hp⟩ := hm.below hW
  have hBW : W.cell? ⟨Bm, 0, none⟩ = some (.map (some g)) := (cells1 ((hW.block Bm (lt_of_block hB)).trans hB)).1
  have HP := Lib.hid hp
  have HT := Lib.hid t
  have HJ := Lib.hid hJ
  have HY := Lib.hid hY
  clear hB hm hp t hJx hY
  refine callsIn_of_wp Tryz.func114 rfl trivial ?_ rfl
  simp only [Tryz.ntmps114, List.size_toArray, List.length_cons, List.length_nil, Nat.reduceAdd, Nat.reduceSub, Array.replicate_succ, Array.replicate_zero, List.push_toArray, List.append_toArray, List.nil_append, List.cons_append]
  gi_wp2_with (first
    | (gi_at_range; refine wpListIn_range_own _ rfl _ 92 rfl 9 60 keyS mapT readH g m.length _ rfl hown ?_; intro w0 hrg0 hg0 hs0)
    | gi_in)
  have hj0 : J [] w0 := hJ [] W w0 none h0 hg0 (fun r e => by cases e)
  have HJ0 := Lib.hid hj0
  have HR0 := Lib.hid hrg0
  clear hj0 hg0 hs0 h0 hJ
  try go_frame
  gi_loopw [4] (fun _ wr => ∃ (left : Lit → Bool) (cnt : Nat) (ps : List Hld), wr.ranges Tryz.prog 9 readH g W.heap.size m.length (.map es) left cnt ∧ ps.length + cnt ≤ m.length ∧ ComeH m left ps ∧ J ps wr) (fun _ wr => wr.rangeLeft g W.heap.size)
  case atStart => exact ⟨_, _, [], HR0.out, by rw [MapIs.size HP.out]; simp, ComeH.start HP.out, HJ0.out⟩
  case round =>
    obtain ⟨left, cnt, ps, hrg, hcs, hC, hJs⟩ := hrel
    have HC := Lib.hid hC
    have HJS := Lib.hid hJs
    have HRG := Lib.hid hrg
    clear hC hJs
    gi_wp2_with (first
      | (gi_at_next; refine wpListIn_next_ranges _ rfl _ rfl 9 keyS readH Value.string Hld.val (fun key kl hk => Maps.keyOf_string_inv Tryz.underlying9 hk) (fun v y hv => by obtain ⟨c, rfl, _⟩ := readH_inv hv; exact ⟨c, rfl⟩) g W.heap.size m.length _ _ _ rfl hrg ?_ ?_)
      | gi_in)
    · intro hc0 hl0
      have HL := Lib.hid hl0
      clear hrg hl0
      gi_wp2
      go_end0
      exact ⟨⟨_, rfl⟩, .inl ⟨ps, HC.out.done HL.out, HJS.out⟩⟩
    · intro x c kl yd yp w2 cnt2 hkey hlk hv hat hrg2 hlt hg2 hs2 hen
      obtain rfl := keyS_inv hkey
      obtain ⟨c', ec, ez⟩ := readH_inv hv
      obtain rfl : c = c' := Hld.val_inj ec
      obtain ⟨rfl, rfl⟩ := Prod.mk.inj ez
      obtain ⟨hcm, hcn⟩ := came_one HP.out hat
      have hJ2 : J ps w2 := HJ.out ps wr w2 (some W.heap.size) HJS.out hg2 (fun r e => by cases e; exact ⟨Nat.le_refl _, hrg.iter_walk⟩)
      have hJ3 : J ps (w2.alloc (.cells #[.string c.name, .string c.ser, .int .i64 c.a, .int .i64 c.b] 60)) := HJ.out ps w2 _ none hJ2 (World.grownBy_alloc _ _ _) (fun r e => by cases e)
      obtain ⟨fn, tmps, assign, body, hy, hR⟩ := HY.out ps c _ hJ3 (by omega)
      have HCS : Hid (ComeH m (fun z => left z && !z.sameKey (litS x)) (ps ++ [c])) := Lib.hid (by rw [← hcn]; exact HC.out.step HT.out hcm (by rw [hcn]; exact hlk))
      have HRG2 := Lib.hid hrg2
      have HLT := Lib.hid hlt
      have HCL : Hid ((ps ++ [c]).length + cnt2 ≤ m.length) := Lib.hid (by simp; omega)
      clear hkey hv hlk hat hrg2 hg2 hcm hcn hrg ez ec hs2 hJ2 hJ3 hcs
      obtain ⟨nm, se, a, b⟩ := c
      unfold Hld.val at *
      dsimp only at *
      gi_wp2
      refine hR.mono ?_
      rintro e W3 (⟨rfl, hJ3, hk3⟩ | ⟨rfl, hJx3⟩)
      · have HJ3 := Lib.hid hJ3
        have HK3 := Lib.hid hk3
        clear hJ3 hk3
        gi_wp2
        have hrg3 := (HRG2.out.alloc (.cells #[.string nm, .string se, .int .i64 a, .int .i64 b] 60)).of_walks HK3.out
        go_roundw
        case rel => exact ⟨_, cnt2, _, hrg3, HCL.out, HCS.out, HJ3.out⟩
        case measure => rw [hrg3.left_eq, HRG.out.left_eq]; exact HLT.out
      · gi_wp2
        refine bodyPost_ret (results_none rfl _ _ _) rfl ?_
        exact ⟨⟨_, rfl⟩, .inr ⟨_, trivial, hJx3⟩⟩
end Go.Proofs.YthbdchleppbidaaGreat
