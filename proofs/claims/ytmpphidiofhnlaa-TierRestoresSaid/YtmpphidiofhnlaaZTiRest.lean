/- What else package tier does, for TierRestores: Restore, and a stock that isn't there; two stocks beside what lies fast. -/
import Derived.Test.YtmpphidiofhnlaaZTiDoes
namespace Go.Proofs.Ytmpphidiofhnlaa
open Go.RowKit

/-- may these be restored? -/
def goodAB (w m : Int) (l : List Ag) : Bool := l.all (fun t => rightA t && decide (0 ≤ t.at_) && decide (t.at_ % w = 0) && decide (t.at_ < m)) && upFrom (-1) (l.map Ag.at_) && decide (l.length ≤ 256)
def restOk (pts : List Pt) (mid long : List Ag) (m0 m1 m2 : Int) : Bool :=
  pts.all (fun p => decide (0 ≤ p.a) && decide (p.a ≤ 1099511627776)) && upFrom (-1) (pts.map Pt.a) && decide (pts.length ≤ 256) && goodAB 300 m1 mid && goodAB 3600 m2 long && decide (m0 = 0) && decide (0 ≤ m1) && decide (m1 ≤ 1099511631376) && decide (m1 % 300 = 0) && decide (0 ≤ m2) && decide (m2 ≤ m1) && decide (m2 % 3600 = 0)
theorem goodAB_iff {w m : Int} {l : List Ag} (h : GoodA w m l) (m' : Int) : goodAB w m' l = l.all fun t => decide (t.at_ < m') := by
  unfold goodAB
  rw [upFrom_of (List.pairwise_map.2 h.up) (fun x hx => by obtain ⟨t, ht, rfl⟩ := List.mem_map.1 hx; have := (h.beg t ht).1; omega), decide_eq_true h.len, Bool.and_true, Bool.and_true]
  have key : ∀ k : List Ag, (∀ t ∈ k, t ∈ l) → (k.all fun t => rightA t && decide (0 ≤ t.at_) && decide (t.at_ % w = 0) && decide (t.at_ < m')) = k.all fun t => decide (t.at_ < m') := fun k => by
    induction k with
    | nil => intro _; rfl
    | cons t r ih =>
      intro hk
      have ht := hk t (by simp)
      rw [List.all_cons, List.all_cons, ih fun u hu => hk u (List.mem_cons_of_mem _ hu), h.right t ht, decide_eq_true (h.beg t ht).1, decide_eq_true (h.beg t ht).2.1]
      rfl
  exact key l fun t ht => ht
/-- what a stock has, with another mark for Mid -/
theorem restOk_mark {s : Stk} (h : GoodT s) (m : Int) : restOk s.raw s.mid s.long 0 m s.ml = (decide (0 ≤ m) && decide (m ≤ 1099511631376) && decide (m % 300 = 0) && decide (s.ml ≤ m) && s.mid.all fun t => decide (t.at_ < m)) := by
  unfold restOk
  rw [goodAB_iff h.mid m, goodAB_iff h.long s.ml]
  have e1 : (s.raw.all fun p => decide (0 ≤ p.a) && decide (p.a ≤ 1099511627776)) = true := List.all_eq_true.2 fun p hp => by rw [decide_eq_true (h.tick p hp).1, decide_eq_true (h.tick p hp).2]; rfl
  have e2 : upFrom (-1) (s.raw.map Pt.a) = true := upFrom_of (List.pairwise_map.2 h.srt) (fun x hx => by obtain ⟨t, ht, rfl⟩ := List.mem_map.1 hx; have := (h.tick t ht).1; omega)
  have e3 : (s.long.all fun t => decide (t.at_ < s.ml)) = true := List.all_eq_true.2 fun t ht => decide_eq_true (h.long.beg t ht).2.2
  rw [e1, e2, e3, decide_eq_true h.plen, decide_eq_true (rfl : (0 : Int) = 0), decide_eq_true h.ml.1, decide_eq_true h.ml.2.2]
  generalize (s.mid.all fun t => decide (t.at_ < m)) = A
  generalize decide (0 ≤ m) = a
  generalize decide (m ≤ 1099511631376) = b
  generalize decide (m % 300 = 0) = c
  generalize decide (s.ml ≤ m) = d
  cases A <;> cases a <;> cases b <;> cases c <;> cases d <;> rfl
theorem restOk_own {s : Stk} (h : GoodT s) : restOk s.raw s.mid s.long 0 s.mm s.ml = true := by
  rw [restOk_mark h s.mm, decide_eq_true h.mm.1, decide_eq_true h.mm.2.1, decide_eq_true h.mm.2.2, decide_eq_true h.ml.2.1]
  exact List.all_eq_true.2 fun t ht => decide_eq_true (h.mid.beg t ht).2.2
/-- a stock that was played is rolled up to MaxTime at most -/
theorem roll_low {s : Stk} (h : GoodT s) {now : Int} (h0 : 0 ≤ now) (h1 : now ≤ 1099511627776) (hm : s.mm ≤ 1099511627776) : (rollS s now).mm ≤ 1099511627776 := by
  obtain ⟨_, g2⟩ := midG_facts h (now := now)
  have hmk := rollTo_mark (upTo_ge 300 s.mm now) (fun e he => (g2 e he).1) (256 - s.mid.length)
  have e : (rollS s now).mm = (rollTo (midG s now) (256 - s.mid.length) (upTo 300 s.mm now)).2 := rfl
  have hU : upTo 300 s.mm now ≤ 1099511627776 := by
    unfold upTo
    rcases Int.le_total s.mm (now - now % 300) with hh | hh
    · rw [Int.max_eq_right hh]; omega
    · rw [Int.max_eq_left hh]; exact hm
  rw [e]; omega
theorem play_low {L : List TActL} (hf : ∀ x ∈ L, ∀ p ∈ x.l, p.fits) : (playT L).mm ≤ 1099511627776 := by
  refine rev_ind (P := fun L => (∀ x ∈ L, ∀ p ∈ x.l, p.fits) → (playT L).mm ≤ 1099511627776) (fun _ => by decide) (fun l x ih hl => ?_) L hf
  have f1 := fun y hy => hl y (List.mem_append_left _ hy)
  have hi := ih f1
  have hg := playT_good f1
  rw [playT_snoc]
  unfold stepT
  split
  · unfold putT
    split <;> exact hi
  · split
    · unfold rollT
      split
      · rename_i hn
        exact roll_low hg hn.1 hn.2 hi
      · exact hi
    · split
      · unfold purgeT
        split <;> exact hi
      · exact hi
/-- what all of a stock tells -/
theorem all_points {s : Stk} (h : GoodT s) : getL s.raw 0 1099511627777 = s.raw := List.filter_eq_self.2 fun p hp => by
  have := h.tick p hp
  simp; omega
theorem all_mid {s : Stk} (h : GoodT s) (hm : s.mm ≤ 1099511627776) : aggsT s 1 0 1099511627777 = s.mid := by
  unfold aggsT
  rw [if_pos rfl]
  exact List.filter_eq_self.2 fun t ht => by
    have h1 := h.mid.beg t ht
    unfold metA
    simp; omega
theorem all_long {s : Stk} (h : GoodT s) (hm : s.mm ≤ 1099511627776) : aggsT s 2 0 1099511627777 = s.long := by
  unfold aggsT
  rw [if_neg (by decide), if_pos rfl]
  exact List.filter_eq_self.2 fun t ht => by
    have h1 := h.long.beg t ht
    have h2 := h.ml
    unfold metA
    simp; omega
structure TierR (D : TierD) : Prop where
  restore : ∀ {w : World} {vp vm vl : Value} {pts : List Pt} {mid long : List Ag} {m0 m1 m2 : Int}, PLies w vp pts → ALies w vm mid → ALies w vl long → (∀ p ∈ pts, p.fits) → (∀ t ∈ mid, t.fits) → (∀ t ∈ long, t.fits) → pts.length ≤ 1000000 → mid.length ≤ 1000000 → long.length ≤ 1000000 →
    -9223372036854775808 ≤ m0 → m0 ≤ 9223372036854775807 → -9223372036854775808 ≤ m1 → m1 ≤ 9223372036854775807 → -9223372036854775808 ≤ m2 → m2 ≤ 9223372036854775807 →
    Calls Try.prog 22 #[vp, vm, vl, .agg #[.int .i64 m0, .int .i64 m1, .int .i64 m2]] w fun e w' => Below w.heap.size w w' ∧ ((restOk pts mid long m0 m1 m2 = true ∧ ∃ p, e = .returned (.tuple #[.pointer (some ⟨p, 0, none⟩), .int .i64 0]) ∧ D.sit w' p ⟨pts, mid, long, m1, m2⟩ ∧ ∀ k, D.own w' p k → w.heap.size ≤ k) ∨ (restOk pts mid long m0 m1 m2 = false ∧ e = .returned (.tuple #[.pointer none, .int .i64 2])))
  put0 : ∀ w : World, Calls Try.prog 14 #[.pointer none, .slice none 0 0] w fun e w' => e = .returned (.tuple #[.int .i64 0, .int .i64 1]) ∧ Below w.heap.size w w'
  roll0 : ∀ w : World, Calls Try.prog 15 #[.pointer none, .int .i64 1] w fun e w' => e = .returned (.tuple #[.int .i64 0, .int .i64 1]) ∧ Below w.heap.size w w'
  bytes0 : ∀ w : World, Calls Try.prog 23 #[.pointer none] w fun e w' => e = .returned (.int .i64 0) ∧ Below w.heap.size w w'
  len0 : ∀ w : World, Calls Try.prog 24 #[.pointer none, .int .i64 0] w fun e w' => e = .returned (.int .i64 0) ∧ Below w.heap.size w w'
  purge0 : ∀ (w : World) (a b : Int), Calls Try.prog 13 #[.pointer none, .agg #[.int .i64 a, .int .i64 b]] w fun e w' => e = .returned (.int .i64 0) ∧ Below w.heap.size w w'
  points0 : ∀ (w : World) (a b : Int), Calls Try.prog 17 #[.pointer none, .agg #[.int .i64 a, .int .i64 b]] w fun e w' => (∃ ad c, e = .returned (.slice ad 0 c)) ∧ Below w.heap.size w w'
  aggs0 : ∀ (w : World) (a b : Int), Calls Try.prog 19 #[.pointer none, .int .i64 1, .agg #[.int .i64 a, .int .i64 b]] w fun e w' => (∃ ad c, e = .returned (.slice ad 0 c)) ∧ Below w.heap.size w w'
  copy0 : ∀ w : World, Calls Try.prog 25 #[.pointer none] w fun e w' => e = .returned (.pointer none) ∧ Below w.heap.size w w'
/-- two stocks, and all that was told between the one and the other -/
structure PairZ (D : TierD) (B Z0 Z1 : Nat) (W0 w : World) (p : Nat) (s : Stk) (q : Nat) (t : Stk) : Prop where
  two : TwoS D B w p s q t
  n1 : ∀ k, Z0 ≤ k → k < Z1 → ¬ D.own w p k
  n2 : ∀ k, Z0 ≤ k → k < Z1 → ¬ D.own w q k
  fix : Only (fun k => ¬ (Z0 ≤ k ∧ k < Z1)) W0 w
  low : Z1 ≤ W0.heap.size
theorem PairZ.turn {D : TierD} {B Z0 Z1 p q : Nat} {W0 w : World} {s t : Stk} (h : PairZ D B Z0 Z1 W0 w p s q t) : PairZ D B Z0 Z1 W0 w q t p s := ⟨h.two.turn, h.n2, h.n1, h.fix, h.low⟩
theorem PairZ.keep {D : TierD} {B Z0 Z1 p q : Nat} {W0 w w' : World} {s t : Stk} (h : PairZ D B Z0 Z1 W0 w p s q t) (hb : Below w.heap.size w w') : PairZ D B Z0 Z1 W0 w' p s q t := by
  obtain ⟨_, h2⟩ := D.keep h.two.fst.sit (only_beyond (S := fun _ => False) hb) (fun _ _ h => h)
  obtain ⟨_, k2⟩ := D.keep h.two.snd.sit (only_beyond (S := fun _ => False) hb) (fun _ _ h => h)
  exact ⟨h.two.keep hb, fun k a b hk => h.n1 k a b (h2 k hk), fun k a b hk => h.n2 k a b (k2 k hk), h.fix.trans (only_beyond (S := fun _ => False) hb) (fun _ _ h => h.elim), h.low⟩
theorem PairZ.step {D : TierD} {B Z0 Z1 p q : Nat} {W0 w w' : World} {s s' t : Stk} (h : PairZ D B Z0 Z1 W0 w p s q t) (hB : B ≤ w.heap.size) (h1 : D.sit w' p s') (h2 : ∀ k, D.own w' p k → D.own w p k ∨ w.heap.size ≤ k) (h3 : Only (D.own w p) w w') : PairZ D B Z0 Z1 W0 w' p s' q t ∧ Below B w w' := by
  obtain ⟨a1, a2⟩ := h.two.step hB h1 h2 h3
  obtain ⟨_, k2⟩ := D.keep h.two.snd.sit h3 (fun k hk hk' => h.two.apart k hk' hk)
  refine ⟨⟨a1, fun k a b hk => ?_, fun k a b hk => h.n2 k a b (k2 k hk), h.fix.trans h3 (fun k _ hk hz => h.n1 k hz.1 hz.2 hk), h.low⟩, a2⟩
  rcases h2 k hk with h4 | h4
  · exact h.n1 k a b h4
  · have := h.fix.size
    have := h.low
    omega
end Go.Proofs.Ytmpphidiofhnlaa
