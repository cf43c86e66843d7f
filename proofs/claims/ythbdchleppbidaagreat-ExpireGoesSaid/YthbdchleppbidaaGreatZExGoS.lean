/- What lies between the calls of ExpireGoes. -/
import Derived.Test.YthbdchleppbidaaGreatMX
import Derived.Test.YthbdchleppbidaaGreatMP
import Derived.Test.YthbdchleppbidaaGreatMH
import Derived.Test.YthbdchleppbidaaGreatMC
namespace Go.Proofs.YthbdchleppbidaaGreat
open Go.RowKit

/-- two stocks and a table, apart from one another, and a policy -/
structure GoP (D : TierD) (w W : World) (p : Nat) (s' : Stk) (u : Nat) (s : Stk) (P : Nat) (a b c : Int) (q : Nat) (g : Option Nat) (m : List Hld) : Prop where
  now : D.sit W p s'
  was : D.sit W u s
  apart : ∀ k, D.own W p k → ¬ D.own W u k
  pol : PolAt W P a b c
  tab : TabAt W q g m
  tok : TabM m
  offT : ∀ k, TFoot q g k → ¬ D.own W p k
  offP : ¬ D.own W p P
  new : ∀ k, D.own W p k → w.heap.size ≤ k
  bel : Below w.heap.size w W
theorem GoP.keep {D : TierD} {w W W' : World} {p u P q : Nat} {s' s : Stk} {a b c : Int} {g : Option Nat} {m : List Hld} (x : GoP D w W p s' u s P a b c q g m) (hb : Below W.heap.size W W') : GoP D w W' p s' u s P a b c q g m := by
  obtain ⟨h1, h2⟩ := D.keep x.now (only_beyond (S := fun _ => False) hb) (fun _ _ h => h)
  obtain ⟨k1, k2⟩ := D.keep x.was (only_beyond (S := fun _ => False) hb) (fun _ _ h => h)
  exact ⟨h1, k1, fun k hk hk' => x.apart k (h2 k hk) (k2 k hk'), x.pol.keep hb, x.tab.below hb, x.tok, fun k hk hk' => x.offT k hk (h2 k hk'), fun hk => x.offP (h2 _ hk), fun k hk => x.new k (h2 k hk), x.bel.trans (hb.mono x.bel.size)⟩
theorem GoP.drew {D : TierD} {w W : World} {p u P q : Nat} {s' s : Stk} {a b c : Int} {g : Option Nat} {m : List Hld} (x : GoP D w W p s' u s P a b c q g m) : GoP D w W.drew p s' u s P a b c q g m := x.keep ((Below.refl _ W).drew)
/-- what Series made of the first one -/
theorem GoP.step {D : TierD} {w W W' : World} {p u P q : Nat} {s' s t : Stk} {a b c : Int} {g : Option Nat} {m : List Hld} (x : GoP D w W p s' u s P a b c q g m) (h1 : D.sit W' p t) (h2 : ∀ k, D.own W' p k → D.own W p k ∨ W.heap.size ≤ k) (h3 : Only (D.own W p) W W') : GoP D w W' p t u s P a b c q g m := by
  obtain ⟨k1, k2⟩ := D.keep x.was h3 (fun k hk hk' => x.apart k hk' hk)
  have hP := lt_of_block x.pol
  refine ⟨h1, k1, fun k hk hk' => ?_, x.pol.only h3 x.offP, x.tab.only h3 x.offT, x.tok, fun k hk hk' => ?_, fun hk => ?_, fun k hk => ?_, x.bel.trans (h3.below x.bel.size x.new)⟩
  · rcases h2 k hk with h | h
    · exact x.apart k h (k2 k hk')
    · have := D.lt x.was (k2 k hk'); omega
  · rcases h2 k hk' with h | h
    · exact x.offT k hk h
    · have := x.tab.lt k hk; omega
  · rcases h2 _ hk with h | h
    · exact x.offP h
    · omega
  · rcases h2 k hk with h | h
    · exact x.new k h
    · exact Nat.le_trans x.bel.size h
theorem GoP.tabx {D : TierD} {w W : World} {p u P q : Nat} {s' s : Stk} {a b c : Int} {g : Option Nat} {m : List Hld} (x : GoP D w W p s' u s P a b c q g m) : TabX D W p (.pointer (some ⟨q, 0, none⟩)) m := .inr ⟨q, g, rfl, x.tab, x.tok, x.offT⟩
/-- three numbers in a block of their own -/
def CntAt (W : World) (P : Nat) (x y z : Int) : Prop := W.heap[P]? = some (.cells #[.int .i64 x, .int .i64 y, .int .i64 z] 35 (0, 0))
theorem CntAt.keep {W W' : World} {P : Nat} {x y z : Int} (h : CntAt W P x y z) (hb : Below W.heap.size W W') : CntAt W' P x y z := (hb.block P (lt_of_block h)).trans h
/-- and, behind Series: what was due, what went, all of time, what is counted -/
structure GoS (D : TierD) (w W : World) (p : Nat) (s' : Stk) (u : Nat) (s : Stk) (P : Nat) (a b c : Int) (q : Nat) (g : Option Nat) (m : List Hld) (A1 A2 R C : Nat) (x y z n0 n1 n2 : Int) : Prop where
  st : GoP D w W p s' u s P a b c q g m
  due : CntAt W A1 x y z
  got : CntAt W A2 x y z
  all : RgAt W R 0 1099511627777
  want : CntAt W C n0 n1 n2
  o1 : ¬ D.own W p C
  o2 : ¬ D.own W u C
  ne1 : A1 ≠ C
  ne2 : A2 ≠ C
  new : w.heap.size ≤ C
theorem GoS.keep {D : TierD} {w W W' : World} {p u P q A1 A2 R C : Nat} {s' s : Stk} {a b c x y z n0 n1 n2 : Int} {g : Option Nat} {m : List Hld} (h : GoS D w W p s' u s P a b c q g m A1 A2 R C x y z n0 n1 n2) (hb : Below W.heap.size W W') : GoS D w W' p s' u s P a b c q g m A1 A2 R C x y z n0 n1 n2 := by
  obtain ⟨-, h2⟩ := D.keep h.st.now (only_beyond (S := fun _ => False) hb) (fun _ _ h => h)
  obtain ⟨-, k2⟩ := D.keep h.st.was (only_beyond (S := fun _ => False) hb) (fun _ _ h => h)
  exact ⟨h.st.keep hb, h.due.keep hb, h.got.keep hb, h.all.keep hb, h.want.keep hb, fun hk => h.o1 (h2 _ hk), fun hk => h.o2 (k2 _ hk), h.ne1, h.ne2, h.new⟩
theorem GoS.drew {D : TierD} {w W : World} {p u P q A1 A2 R C : Nat} {s' s : Stk} {a b c x y z n0 n1 n2 : Int} {g : Option Nat} {m : List Hld} (h : GoS D w W p s' u s P a b c q g m A1 A2 R C x y z n0 n1 n2) : GoS D w W.drew p s' u s P a b c q g m A1 A2 R C x y z n0 n1 n2 := h.keep ((Below.refl _ W).drew)
theorem GoS.set {D : TierD} {w W W' : World} {p u P q A1 A2 R C : Nat} {s' s : Stk} {a b c x y z n0 n1 n2 m0 m1 m2 : Int} {g : Option Nat} {m : List Hld} {i : Nat} {v : Int} (h : GoS D w W p s' u s P a b c q g m A1 A2 R C x y z n0 n1 n2) (hW : W' = W.setCell ⟨C, i, none⟩ (.int .i64 v))
    (he : (#[Value.int .i64 n0, .int .i64 n1, .int .i64 n2] : Array Value).setIfInBounds i (.int .i64 v) = #[.int .i64 m0, .int .i64 m1, .int .i64 m2]) : GoS D w W' p s' u s P a b c q g m A1 A2 R C x y z m0 m1 m2 := by
  have ho : Only (fun k => k = C) W W' := by rw [hW]; exact Only.setCell (S := fun k => k = C) W rfl _
  have e := heap_setCell_same W C i _ _ (.int .i64 v) h.want
  have hc := h.want
  obtain ⟨h1, h2⟩ := D.keep h.st.now ho (fun k hk e => h.o1 (e ▸ hk))
  obtain ⟨k1, k2⟩ := D.keep h.st.was ho (fun k hk e => h.o2 (e ▸ hk))
  have hx := h.st
  have hT : ∀ k, TFoot q g k → ¬ k = C := fun k hk e => hx.tab.off hc (by decide) (e ▸ hk)
  have hne : ∀ {X : Nat} {cs : Array Value} {t : TypeId}, W.heap[X]? = some (.cells cs t (0, 0)) → t ≠ 35 → ¬ X = C := fun hX ht e => by
    subst e
    unfold CntAt at hc
    rw [hc] at hX
    injection hX with hX
    injection hX with _ hX
    exact ht hX.symm
  refine ⟨⟨h1, k1, fun k hk hk' => hx.apart k (h2 k hk) (k2 k hk'), hx.pol.only ho (hne hx.pol (by decide)), hx.tab.only ho hT, hx.tok, fun k hk hk' => hx.offT k hk (h2 k hk'), fun hk => hx.offP (h2 _ hk), fun k hk => hx.new k (h2 k hk), hx.bel.trans (ho.below hx.bel.size (fun k hk => by rw [hk]; exact h.new))⟩, (ho.block A1 (lt_of_block h.due) h.ne1).trans h.due, (ho.block A2 (lt_of_block h.got) h.ne2).trans h.got, h.all.only ho (hne h.all (by decide)), by unfold CntAt; rw [hW, e, he], fun hk => h.o1 (h2 _ hk), fun hk => h.o2 (k2 _ hk), h.ne1, h.ne2, h.new⟩
theorem GoS.other {D : TierD} {w W : World} {p u P q A1 A2 R C : Nat} {s' s : Stk} {a b c x y z n0 n1 n2 : Int} {g : Option Nat} {m : List Hld} (h : GoS D w W p s' u s P a b c q g m A1 A2 R C x y z n0 n1 n2) {X : Nat} {cs : Array Value} {t : TypeId} (hX : W.heap[X]? = some (.cells cs t (0, 0))) (ht : t ≠ 35) (i : Nat) (v : Value) : (W.setCell ⟨C, i, none⟩ v).heap[X]? = some (.cells cs t (0, 0)) := by
  refine ((Only.setCell (S := fun k => k = C) W (p := ⟨C, i, none⟩) rfl v).block X (lt_of_block hX) (fun e => ?_)).trans hX
  subst e
  have hc := h.want
  unfold CntAt at hc
  rw [hc] at hX
  injection hX with hX
  injection hX with _ hX
  exact ht hX.symm
theorem GoS.rows {D : TierD} {w W : World} {p u P q A1 A2 R C : Nat} {s' s : Stk} {a b c x y z n0 n1 n2 : Int} {g : Option Nat} {m : List Hld} (h : GoS D w W p s' u s P a b c q g m A1 A2 R C x y z n0 n1 n2) {v : Value} {l : List Pt} (hr : PtRowB 0 W v l) (i : Nat) (t : Value) : PtRowB 0 (W.setCell ⟨C, i, none⟩ t) v l :=
  row_only hr (Only.setCell (S := fun k => k = C) W (p := ⟨C, i, none⟩) rfl _) (fun k hk e => row_ne h.want hr (by decide) (e ▸ hk))
theorem GoS.arows {D : TierD} {w W : World} {p u P q A1 A2 R C : Nat} {s' s : Stk} {a b c x y z n0 n1 n2 : Int} {g : Option Nat} {m : List Hld} (h : GoS D w W p s' u s P a b c q g m A1 A2 R C x y z n0 n1 n2) {v : Value} {l : List Ag} (hr : AgRow 0 W v l) (i : Nat) (t : Value) : AgRow 0 (W.setCell ⟨C, i, none⟩ t) v l :=
  row_only hr (Only.setCell (S := fun k => k = C) W (p := ⟨C, i, none⟩) rfl _) (fun k hk e => row_ne h.want hr (by decide) (e ▸ hk))
end Go.Proofs.YthbdchleppbidaaGreat
