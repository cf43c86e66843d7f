/- What package tier does, as a structure: the laws are walked over it. -/
import Derived.Test.YtmpphidiofhnlaaZTiAct
import Derived.Test.YtmpphidiofhnlaaME
import Derived.Test.YtmpphidiofhnlaaMC
namespace Go.Proofs.Ytmpphidiofhnlaa
open Go.RowKit

/-- what Put tells -/
def putR (s : Stk) (l : List Pt) : Int × Int := if l.any (fun p => decide (p.a < s.mm)) = true then (0, 14) else if l.any offT = true then (0, 3) else if 256 < (putL s.raw l).length then (0, 6) else (((putL s.raw l).length : Int) - s.raw.length, 0)
theorem putR_ok {s : Stk} {l : List Pt} : (putR s l).2 = 0 ↔ putBad s l = false := by
  unfold putR putBad
  by_cases h1 : l.any (fun p => decide (p.a < s.mm)) = true
  · rw [if_pos h1, h1]; simp
  · rw [if_neg h1]
    by_cases h2 : l.any offT = true
    · rw [if_pos h2, h2]; simp
    · rw [if_neg h2]
      by_cases h3 : 256 < (putL s.raw l).length
      · rw [if_pos h3, decide_eq_true h3]; simp
      · rw [if_neg h3, decide_eq_false h3]
        simp only [Bool.or_false, true_iff]
        rw [Bool.or_eq_false_iff]
        exact ⟨by simpa using h1, by simpa using h2⟩
/-- what Roll tells -/
def rollR (s : Stk) (now : Int) : Int × Int :=
  if 0 ≤ now ∧ now ≤ 1099511627776 then (((rollS s now).mid.length : Int) - s.mid.length + ((rollS s now).long.length - s.long.length), if 256 < s.mid.length + (midG s now).length ∨ 256 < s.long.length + (longR s now).length then 6 else 0) else (0, 3)
def goneR (s : Stk) (a b : Int) : Int := if rightT a b = true then goneT s a b else 0
/-- what Aggs tells -/
def aggsT (s : Stk) (t a b : Int) : List Ag := if t = 1 then s.mid.filter (fun x => decide (a < b) && metA 300 a b x.at_) else if t = 2 then s.long.filter (fun x => decide (a < b) && metA 3600 a b x.at_) else []
def markT (s : Stk) (t : Int) : Int := if t = 1 then s.mm else if t = 2 then s.ml else 0
structure TierD where
  sit : World → Nat → Stk → Prop
  own : World → Nat → Nat → Prop
  good : ∀ {w : World} {p : Nat} {s : Stk}, sit w p s → GoodT s
  lt : ∀ {w : World} {p : Nat} {s : Stk} {k : Nat}, sit w p s → own w p k → k < w.heap.size
  keep : ∀ {S : Nat → Prop} {w w' : World} {p : Nat} {s : Stk}, sit w p s → Only S w w' → (∀ k, own w p k → ¬ S k) → sit w' p s ∧ ∀ k, own w' p k → own w p k
  new_ : ∀ w : World, Calls Try.prog 26 #[] w fun e w' => ∃ p, e = .returned (.pointer (some ⟨p, 0, none⟩)) ∧ sit w' p newS ∧ (∀ k, own w' p k → w.heap.size ≤ k) ∧ Below w.heap.size w w'
  put : ∀ {w : World} {p : Nat} {s : Stk} {v : Value} {l : List Pt}, sit w p s → PLies w v l → (∀ x ∈ l, x.fits) → l.length ≤ 1000000 →
    Calls Try.prog 14 #[.pointer (some ⟨p, 0, none⟩), v] w fun e w' => e = .returned (.tuple #[.int .i64 (putR s l).1, .int .i64 (putR s l).2]) ∧ sit w' p (putT s l) ∧ (∀ k, own w' p k → own w p k ∨ w.heap.size ≤ k) ∧ Only (own w p) w w'
  roll : ∀ {w : World} {p : Nat} {s : Stk} {now : Int}, sit w p s → -9223372036854775808 ≤ now → now ≤ 9223372036854775807 →
    Calls Try.prog 15 #[.pointer (some ⟨p, 0, none⟩), .int .i64 now] w fun e w' => e = .returned (.tuple #[.int .i64 (rollR s now).1, .int .i64 (rollR s now).2]) ∧ sit w' p (rollT s now) ∧ (∀ k, own w' p k → own w p k ∨ w.heap.size ≤ k) ∧ Only (own w p) w w'
  purge : ∀ {w : World} {p : Nat} {s : Stk} {a b : Int}, sit w p s → -9223372036854775808 ≤ a → a ≤ 9223372036854775807 → -9223372036854775808 ≤ b → b ≤ 9223372036854775807 →
    Calls Try.prog 13 #[.pointer (some ⟨p, 0, none⟩), .agg #[.int .i64 a, .int .i64 b]] w fun e w' => e = .returned (.int .i64 (goneR s a b)) ∧ sit w' p (purgeT s a b) ∧ (∀ k, own w' p k → own w p k ∨ w.heap.size ≤ k) ∧ Only (own w p) w w'
  points : ∀ {w : World} {p : Nat} {s : Stk} {a b : Int}, sit w p s → -9223372036854775808 ≤ a → a ≤ 9223372036854775807 → -9223372036854775808 ≤ b → b ≤ 9223372036854775807 →
    Calls Try.prog 17 #[.pointer (some ⟨p, 0, none⟩), .agg #[.int .i64 a, .int .i64 b]] w fun e w' => ∃ v', e = .returned v' ∧ PtRowB w.heap.size w' v' (getL s.raw a b) ∧ Below w.heap.size w w'
  aggs : ∀ {w : World} {p : Nat} {s : Stk} {t a b : Int}, sit w p s → -9223372036854775808 ≤ t → t ≤ 9223372036854775807 → -9223372036854775808 ≤ a → a ≤ 9223372036854775807 → -9223372036854775808 ≤ b → b ≤ 9223372036854775807 →
    Calls Try.prog 19 #[.pointer (some ⟨p, 0, none⟩), .int .i64 t, .agg #[.int .i64 a, .int .i64 b]] w fun e w' => ∃ v', e = .returned v' ∧ AgRow w.heap.size w' v' (aggsT s t a b) ∧ Below w.heap.size w w'
  mark : ∀ {w : World} {p : Nat} {s : Stk} {t : Int}, sit w p s → -9223372036854775808 ≤ t → t ≤ 9223372036854775807 →
    Calls Try.prog 21 #[.pointer (some ⟨p, 0, none⟩), .int .i64 t] w fun e w' => e = .returned (.int .i64 (markT s t)) ∧ Below w.heap.size w w'
/-! ### One stock, and two of them, over calls -/
/-- a stock, all of whose blocks are at B or behind -/
structure OneS (D : TierD) (B : Nat) (w : World) (p : Nat) (s : Stk) : Prop where
  sit : D.sit w p s
  base : ∀ k, D.own w p k → B ≤ k
theorem OneS.keep {D : TierD} {B p : Nat} {w w' : World} {s : Stk} (h : OneS D B w p s) (hb : Below w.heap.size w w') : OneS D B w' p s := by
  obtain ⟨h1, h2⟩ := D.keep h.sit (only_beyond (S := fun _ => False) hb) (fun _ _ h => h)
  exact ⟨h1, fun k hk => h.base k (h2 k hk)⟩
theorem OneS.step {D : TierD} {B p : Nat} {w w' : World} {s s' : Stk} (h : OneS D B w p s) (hB : B ≤ w.heap.size) (h1 : D.sit w' p s') (h2 : ∀ k, D.own w' p k → D.own w p k ∨ w.heap.size ≤ k) (h3 : Only (D.own w p) w w') : OneS D B w' p s' ∧ Below B w w' :=
  ⟨⟨h1, fun k hk => by rcases h2 k hk with h4 | h4; exact h.base k h4; omega⟩, h3.below hB h.base⟩
structure TwoS (D : TierD) (B : Nat) (w : World) (p : Nat) (s : Stk) (q : Nat) (t : Stk) : Prop where
  fst : OneS D B w p s
  snd : OneS D B w q t
  apart : ∀ k, D.own w p k → ¬ D.own w q k
theorem TwoS.turn {D : TierD} {B p q : Nat} {w : World} {s t : Stk} (h : TwoS D B w p s q t) : TwoS D B w q t p s := ⟨h.snd, h.fst, fun k hk hk' => h.apart k hk' hk⟩
theorem TwoS.keep {D : TierD} {B p q : Nat} {w w' : World} {s t : Stk} (h : TwoS D B w p s q t) (hb : Below w.heap.size w w') : TwoS D B w' p s q t := by
  obtain ⟨h1, h2⟩ := D.keep h.fst.sit (only_beyond (S := fun _ => False) hb) (fun _ _ h => h)
  obtain ⟨k1, k2⟩ := D.keep h.snd.sit (only_beyond (S := fun _ => False) hb) (fun _ _ h => h)
  exact ⟨h.fst.keep hb, h.snd.keep hb, fun k hk hk' => h.apart k (h2 k hk) (k2 k hk')⟩
theorem TwoS.step {D : TierD} {B p q : Nat} {w w' : World} {s s' t : Stk} (h : TwoS D B w p s q t) (hB : B ≤ w.heap.size) (h1 : D.sit w' p s') (h2 : ∀ k, D.own w' p k → D.own w p k ∨ w.heap.size ≤ k) (h3 : Only (D.own w p) w w') : TwoS D B w' p s' q t ∧ Below B w w' := by
  obtain ⟨a1, a2⟩ := h.fst.step hB h1 h2 h3
  obtain ⟨k1, k2⟩ := D.keep h.snd.sit h3 (fun k hk hk' => h.apart k hk' hk)
  refine ⟨⟨a1, ⟨k1, fun k hk => h.snd.base k (k2 k hk)⟩, fun k hk hk' => ?_⟩, a2⟩
  have hq := k2 k hk'
  rcases h2 k hk with h4 | h4
  · exact h.apart k h4 hq
  · have := D.lt h.snd.sit hq; omega
theorem OneS.two {D : TierD} {B p q : Nat} {w w' : World} {s t : Stk} (h : OneS D B w p s) (hB : B ≤ w.heap.size) (hb : Below w.heap.size w w') (h1 : D.sit w' q t) (h2 : ∀ k, D.own w' q k → w.heap.size ≤ k) : TwoS D B w' p s q t := by
  obtain ⟨k1, k2⟩ := D.keep h.sit (only_beyond (S := fun _ => False) hb) (fun _ _ h => h)
  refine ⟨h.keep hb, ⟨h1, fun k hk => Nat.le_trans hB (h2 k hk)⟩, fun k hk hk' => ?_⟩
  have := D.lt h.sit (k2 k hk)
  have := h2 k hk'
  omega
/-- two stocks, and a range in a block of its own -/
structure PairS (D : TierD) (B : Nat) (w : World) (p : Nat) (s : Stk) (q : Nat) (t : Stk) (R : Nat) (a b : Int) : Prop where
  two : TwoS D B w p s q t
  all : RgAt w R a b
  n1 : ¬ D.own w p R
  n2 : ¬ D.own w q R
theorem PairS.turn {D : TierD} {B p q R : Nat} {w : World} {s t : Stk} {a b : Int} (h : PairS D B w p s q t R a b) : PairS D B w q t p s R a b := ⟨h.two.turn, h.all, h.n2, h.n1⟩
theorem PairS.keep {D : TierD} {B p q R : Nat} {w w' : World} {s t : Stk} {a b : Int} (h : PairS D B w p s q t R a b) (hb : Below w.heap.size w w') : PairS D B w' p s q t R a b := by
  obtain ⟨_, h2⟩ := D.keep h.two.fst.sit (only_beyond (S := fun _ => False) hb) (fun _ _ h => h)
  obtain ⟨_, k2⟩ := D.keep h.two.snd.sit (only_beyond (S := fun _ => False) hb) (fun _ _ h => h)
  exact ⟨h.two.keep hb, h.all.keep hb, fun hk => h.n1 (h2 R hk), fun hk => h.n2 (k2 R hk)⟩
theorem PairS.step {D : TierD} {B p q R : Nat} {w w' : World} {s s' t : Stk} {a b : Int} (h : PairS D B w p s q t R a b) (hB : B ≤ w.heap.size) (h1 : D.sit w' p s') (h2 : ∀ k, D.own w' p k → D.own w p k ∨ w.heap.size ≤ k) (h3 : Only (D.own w p) w w') : PairS D B w' p s' q t R a b ∧ Below B w w' := by
  obtain ⟨a1, a2⟩ := h.two.step hB h1 h2 h3
  obtain ⟨_, k2⟩ := D.keep h.two.snd.sit h3 (fun k hk hk' => h.two.apart k hk' hk)
  refine ⟨⟨a1, h.all.only h3 h.n1, fun hk => ?_, fun hk => h.n2 (k2 R hk)⟩, a2⟩
  rcases h2 R hk with h4 | h4
  · exact h.n1 h4
  · have : R < w.heap.size := lt_of_block h.all
    omega
/-- a range made beside two stocks -/
theorem PairS.new {D : TierD} {B p q : Nat} {w : World} {s t : Stk} (h : TwoS D B w p s q t) (a b : Int) {W : World} (hW : W = w.alloc (.cells #[.int .i64 a, .int .i64 b] 24)) : PairS D B W p s q t w.heap.size a b := by
  have hb : Below w.heap.size w W := by rw [hW]; exact (Below.refl _ _).alloc (Nat.le_refl _) _
  obtain ⟨_, h2⟩ := D.keep h.fst.sit (only_beyond (S := fun _ => False) hb) (fun _ _ h => h)
  obtain ⟨_, k2⟩ := D.keep h.snd.sit (only_beyond (S := fun _ => False) hb) (fun _ _ h => h)
  exact ⟨h.keep hb, by rw [hW]; exact RgAt.new w a b, fun hk => by have := D.lt h.fst.sit (h2 _ hk); omega, fun hk => by have := D.lt h.snd.sit (k2 _ hk); omega⟩
end Go.Proofs.Ytmpphidiofhnlaa
