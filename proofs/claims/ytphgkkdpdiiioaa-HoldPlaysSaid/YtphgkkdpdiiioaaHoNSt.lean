/- What the laws of layer 17 hold between two calls: a table of their own, boxes, a row, marks. -/
import Derived.Test.YtphgkkdpdiiioaaHoMarks
import Derived.Test.YtphgkkdpdiiioaaHoApp
import Derived.Test.YtphgkkdpdiiioaaRgAt
namespace Go.Proofs.Ytphgkkdpdiiioaa
open Go.RowKit Go.Shelf

/-- a table of one's own, and what lies behind -/
structure TSt (w : World) (p : Nat) (b : Option Nat) (m : List Hld) (W : World) : Prop where
  at_ : TabAt W p b m
  tab : TabM m
  mine : ∀ k, TFoot p b k → w.heap.size ≤ k
  bel : Below w.heap.size w W
theorem TSt.beyond {w W W' : World} {p : Nat} {b : Option Nat} {m : List Hld} (h : TSt w p b m W) (hb : Below W.heap.size W W') : TSt w p b m W' := ⟨h.at_.below hb, h.tab, h.mine, h.bel.trans (hb.mono h.bel.size)⟩
theorem TSt.only {S : Nat → Prop} {w W W' : World} {p : Nat} {b : Option Nat} {m : List Hld} (h : TSt w p b m W) (ho : Only S W W') (hS : ∀ k, TFoot p b k → ¬ S k) (hB : ∀ k, S k → w.heap.size ≤ k) : TSt w p b m W' := ⟨h.at_.only ho hS, h.tab, h.mine, h.bel.trans (ho.below h.bel.size hB)⟩
theorem TSt.turn {w W W' : World} {p : Nat} {b b' : Option Nat} {m m' : List Hld} (h : TSt w p b m W) (ht : TabAt W' p b' m') (hm : TabM m') (ho : Only (TFoot p b) W W') (hb : b' = b ∨ b = none ∧ ∀ g, b' = some g → W.heap.size ≤ g) : TSt w p b' m' W' := by
  refine ⟨ht, hm, fun k hk => ?_, h.bel.trans (ho.below h.bel.size h.mine)⟩
  rcases hk with rfl | hk
  · exact h.mine _ (.inl rfl)
  · rcases hb with rfl | ⟨rfl, hb⟩
    · exact h.mine _ (.inr hk)
    · have := hb k hk; have := h.bel.size; omega
/-- the law's two boxes -/
structure NSt (w : World) (q d : Nat) (ra rb : Int) (y : Bool) (W : World) : Prop where
  rg : RgAt W q ra rb
  res : W.heap[d]? = some (.cells #[.bool y] 4 (0, 0))
  bel : Below w.heap.size w W
  mq : w.heap.size ≤ q
  md : w.heap.size ≤ d
theorem NSt.ne {w W : World} {q d : Nat} {ra rb : Int} {y : Bool} (h : NSt w q d ra rb y W) : q ≠ d := fun e => by
  have h1 := h.rg
  unfold RgAt at h1
  rw [e, h.res] at h1
  cases h1
theorem NSt.only {S : Nat → Prop} {w W W' : World} {q d : Nat} {ra rb : Int} {y : Bool} (h : NSt w q d ra rb y W) (ho : Only S W W') (hq : ¬ S q) (hd : ¬ S d) (hb : ∀ k, S k → w.heap.size ≤ k) : NSt w q d ra rb y W' :=
  ⟨h.rg.only ho hq, (ho.block d (lt_of_block h.res) hd).trans h.res, h.bel.trans (ho.below h.bel.size hb), h.mq, h.md⟩
theorem NSt.beyond {w W W' : World} {q d : Nat} {ra rb : Int} {y : Bool} (h : NSt w q d ra rb y W) (hb : Below W.heap.size W W') : NSt w q d ra rb y W' :=
  ⟨h.rg.keep hb, (hb.block d (lt_of_block h.res)).trans h.res, h.bel.trans (hb.mono h.bel.size), h.mq, h.md⟩
theorem NSt.set {w W : World} {q d : Nat} {ra rb : Int} {y : Bool} (h : NSt w q d ra rb y W) (z : Bool) : NSt w q d ra rb z (W.setCell ⟨d, 0, none⟩ (.bool z)) := by
  have ho : Only (fun k => k = d) W (W.setCell ⟨d, 0, none⟩ (.bool z)) := Only.setCell (S := fun k => k = d) _ rfl _
  exact ⟨h.rg.only ho h.ne, by rw [heap_setCell_same W d 0 _ _ _ h.res]; simp, h.bel.trans (ho.below h.bel.size (fun k hk => by rw [hk]; exact h.md)), h.mq, h.md⟩
theorem NSt.cells {w W : World} {q d : Nat} {ra rb : Int} {y : Bool} (h : NSt w q d ra rb y W) : W.cell? ⟨q, 0, none⟩ = some (.int .i64 ra) ∧ W.cell? ⟨q, 1, none⟩ = some (.int .i64 rb) ∧ W.cell? ⟨d, 0, none⟩ = some (.bool y) ∧ W.frozen? ⟨d, 0, none⟩ = false := ⟨h.rg.cells.1, h.rg.cells.2.1, (cells1 h.res).1, (cells1 h.res).2⟩
theorem NSt.toff {w W : World} {q d p : Nat} {b : Option Nat} {m : List Hld} {ra rb : Int} {y : Bool} (h : NSt w q d ra rb y W) (t : TabAt W p b m) : ¬ TFoot p b q ∧ ¬ TFoot p b d := ⟨t.off h.rg (by decide), t.off h.res (by decide)⟩
/-- what HoldPlays holds between two acts -/
structure PSt (w : World) (q7 q8 q10 p : Nat) (ra rb : Int) (b : Option Nat) (mr mt : List Hld) (v : Value) (ds : List Deferred) (W : World) : Prop where
  nst : NSt w q7 q8 ra rb false W
  box : W.heap[q10]? = some (.cells #[v] 28 (0, 0))
  m10 : w.heap.size ≤ q10
  row : HoRow w.heap.size W v mr
  tst : TSt w p b mt W
  mks : MarksAt w.heap.size ds W
theorem PSt.beyond {w W W' : World} {q7 q8 q10 p : Nat} {ra rb : Int} {b : Option Nat} {mr mt : List Hld} {v : Value} {ds : List Deferred} (h : PSt w q7 q8 q10 p ra rb b mr mt v ds W) (hb : Below W.heap.size W W') : PSt w q7 q8 q10 p ra rb b mr mt v ds W' :=
  ⟨h.nst.beyond hb, (hb.block _ (lt_of_block h.box)).trans h.box, h.m10, h.row.keep hb, h.tst.beyond hb, h.mks.below hb⟩
theorem PSt.cell {w W : World} {q7 q8 q10 p : Nat} {ra rb : Int} {b : Option Nat} {mr mt : List Hld} {v : Value} {ds : List Deferred} (h : PSt w q7 q8 q10 p ra rb b mr mt v ds W) : W.cell? ⟨q10, 0, none⟩ = some v ∧ W.frozen? ⟨q10, 0, none⟩ = false := cells1 h.box
theorem PSt.turn {w W W' : World} {q7 q8 q10 p : Nat} {ra rb : Int} {b b' : Option Nat} {mr mt mt' : List Hld} {v : Value} {ds : List Deferred} (h : PSt w q7 q8 q10 p ra rb b mr mt v ds W) (ht : TabAt W' p b' mt') (hm : TabM mt') (ho : Only (TFoot p b) W W') (hb : b' = b ∨ b = none ∧ ∀ g, b' = some g → W.heap.size ≤ g) :
    PSt w q7 q8 q10 p ra rb b' mr mt' v ds W' := by
  obtain ⟨o1, o2⟩ := h.nst.toff h.tst.at_
  refine ⟨h.nst.only ho o1 o2 h.tst.mine, (ho.block q10 (lt_of_block h.box) (h.tst.at_.off h.box (by decide))).trans h.box, h.m10, row_only h.row ho (foot_row h.tst.at_ h.row (by decide)), h.tst.turn ht hm ho hb, h.mks.only ho fun J o hJ hf => ?_⟩
  rcases hf with rfl | hf
  · have := h.tst.at_.blk; rw [hJ] at this; cases this
  · obtain ⟨es, c, hc⟩ := (h.tst.at_.own J hf).obj; rw [hJ] at hc; cases hc
/-- the row, and what lies in its box, turned -/
theorem PSt.stored {S : Nat → Prop} {w W W' : World} {q7 q8 q10 p : Nat} {ra rb : Int} {b : Option Nat} {mr mr' mt : List Hld} {v v' : Value} {ds : List Deferred} (h : PSt w q7 q8 q10 p ra rb b mr mt v ds W) (hr : HoRow w.heap.size W' v' mr') (ho : Only S W W') (hS : ∀ k, k < W.heap.size → S k → v.ownBlock = some k) :
    PSt w q7 q8 q10 p ra rb b mr' mt v' ds (W'.setCell ⟨q10, 0, none⟩ v') := by
  have hrow : ∀ {k cs t fr}, W.heap[k]? = some (.cells cs t fr) → t ≠ 30 → ¬ S k := fun hk ht hs => row_ne hk h.row ht (hS _ (lt_of_block hk) hs)
  have o1 : Only (fun k => v.ownBlock = some k) W W' := ho.mono hS
  have hvB : ∀ k, v.ownBlock = some k → w.heap.size ≤ k := fun k hk => (h.row.lt k hk).1
  have hn := h.nst.only o1 (row_ne h.nst.rg h.row (by decide)) (row_ne h.nst.res h.row (by decide)) hvB
  have hbx : W'.heap[q10]? = _ := (o1.block q10 (lt_of_block h.box) (row_ne h.box h.row (by decide))).trans h.box
  have ht : TSt w p b mt W' := h.tst.only o1 (fun k hk hv => foot_row h.tst.at_ h.row (by decide) k hv hk) hvB
  have hm := h.mks.only o1 (fun J o hJ hv => by
    rcases h.row.opened with ⟨rfl, _⟩ | ⟨g, cap, R, rfl, _, hg, _⟩
    · simp [Value.ownBlock] at hv
    · injection hv with hv
      subst hv
      have : W.heap[g]? = _ := hg
      rw [hJ] at this; cases this)
  have o2 : Only (fun k => k = q10) W' (W'.setCell ⟨q10, 0, none⟩ v') := Only.setCell (S := fun k => k = q10) _ rfl _
  have n7 : ¬ q7 = q10 := fun e => by have := hn.rg; unfold RgAt at this; rw [e, hbx] at this; cases this
  have n8 : ¬ q8 = q10 := fun e => by have := hn.res; rw [e, hbx] at this; cases this
  refine ⟨hn.only o2 n7 n8 (fun k hk => by rw [hk]; exact h.m10), by rw [heap_setCell_same W' q10 0 _ _ _ hbx]; simp, h.m10, row_only hr o2 (fun k hk e => by rw [e] at hk; exact row_ne hbx hr (by decide) hk), ht.only o2 (fun k hk e => ht.at_.off hbx (by decide) (e ▸ hk)) (fun k hk => by rw [hk]; exact h.m10), hm.only o2 (fun J o hJ e => by rw [e, hbx] at hJ; cases hJ)⟩
end Go.Proofs.Ytphgkkdpdiiioaa
