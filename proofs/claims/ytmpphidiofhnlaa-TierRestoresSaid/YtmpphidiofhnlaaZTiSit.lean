/- A stock as it lies: its block, its series, the rows of its aggregates. -/
import Derived.Test.YtmpphidiofhnlaaME
import Derived.Test.YtmpphidiofhnlaaMS
import Derived.Test.YtmpphidiofhnlaaMC
namespace Go.Proofs.Ytmpphidiofhnlaa
open Go.RowKit

theorem GoodT.ser {s : Stk} (h : GoodT s) : GoodS s.raw := ⟨h.srt, h.tick, h.pfits, h.plen⟩
/-- a stock at p: its series at sp with the slice v, its Mid row vm, its Long row vl -/
structure TSit (w : World) (p sp : Nat) (v vm vl : Value) (s : Stk) : Prop where
  at_ : w.heap[p]? = some (.cells #[.pointer (some ⟨sp, 0, none⟩), .slice none 0 0, vm, vl, .int .i64 0, .int .i64 s.mm, .int .i64 s.ml] 63 (0, 0))
  ser : SerV w sp v s.raw
  mid : AgRow 0 w vm s.mid
  long : AgRow 0 w vl s.long
  two : ∀ k, vm.ownBlock = some k → vl.ownBlock ≠ some k
  good : GoodT s
/-- its blocks -/
def TBlk (p sp : Nat) (v vm vl : Value) (k : Nat) : Prop := k = p ∨ SBlk sp v k ∨ vm.ownBlock = some k ∨ vl.ownBlock = some k
theorem TSit.lt {w : World} {p sp : Nat} {v vm vl : Value} {s : Stk} (h : TSit w p sp v vm vl s) {k : Nat} (hk : TBlk p sp v vm vl k) : k < w.heap.size := by
  rcases hk with rfl | hk | hk | hk
  · exact lt_of_block h.at_
  · exact SBlk.lt h.ser hk
  · exact (h.mid.lt _ hk).2
  · exact (h.long.lt _ hk).2
theorem TSit.only {S : Nat → Prop} {w w' : World} {p sp : Nat} {v vm vl : Value} {s : Stk} (h : TSit w p sp v vm vl s) (ho : Only S w w') (hS : ∀ k, TBlk p sp v vm vl k → ¬ S k) : TSit w' p sp v vm vl s :=
  ⟨(ho.block p (lt_of_block h.at_) (hS p (.inl rfl))).trans h.at_, h.ser.only ho (fun k hk => hS k (.inr (.inl hk))), row_only h.mid ho (fun k hk => hS k (.inr (.inr (.inl hk)))), row_only h.long ho (fun k hk => hS k (.inr (.inr (.inr hk)))), h.two, h.good⟩
theorem TSit.keep {w w' : World} {p sp : Nat} {v vm vl : Value} {s : Stk} (h : TSit w p sp v vm vl s) (hb : Below w.heap.size w w') : TSit w' p sp v vm vl s := h.only (only_beyond (S := fun _ => False) hb) (fun _ _ h => h)
theorem TSit.drew {w : World} {p sp : Nat} {v vm vl : Value} {s : Stk} (h : TSit w p sp v vm vl s) : TSit w.drew p sp v vm vl s := h.keep ((Below.refl _ w).drew)
/-- the cells, as they are read -/
structure TCells (w : World) (p sp : Nat) (vm vl : Value) (s : Stk) : Prop where
  c0 : w.cell? ⟨p, 0, none⟩ = some (.pointer (some ⟨sp, 0, none⟩))
  c1 : w.cell? ⟨p, 1, none⟩ = some (.slice none 0 0)
  c2 : w.cell? ⟨p, 2, none⟩ = some vm
  c3 : w.cell? ⟨p, 3, none⟩ = some vl
  c4 : w.cell? ⟨p, 4, none⟩ = some (.int .i64 0)
  c5 : w.cell? ⟨p, 5, none⟩ = some (.int .i64 s.mm)
  c6 : w.cell? ⟨p, 6, none⟩ = some (.int .i64 s.ml)
theorem TSit.cells {w : World} {p sp : Nat} {v vm vl : Value} {s : Stk} (h : TSit w p sp v vm vl s) : TCells w p sp vm vl s := by
  have h0 := h.at_
  exact ⟨by simp [World.cell?, h0], by simp [World.cell?, h0], by simp [World.cell?, h0], by simp [World.cell?, h0], by simp [World.cell?, h0], by simp [World.cell?, h0], by simp [World.cell?, h0]⟩
theorem TSit.free {w : World} {p sp : Nat} {v vm vl : Value} {s : Stk} (h : TSit w p sp v vm vl s) (i : Nat) : w.frozen? ⟨p, i, none⟩ = false := by
  have h0 := h.at_
  simp [World.frozen?, h0]
theorem TSit.nsp {w : World} {p sp : Nat} {v vm vl : Value} {s : Stk} (h : TSit w p sp v vm vl s) : sp ≠ p := by
  rintro rfl
  have h1 := h.at_
  have h2 := h.ser.at_
  rw [h1] at h2
  injection h2 with h2
  injection h2 with h2 h3
  revert h3; decide
theorem TSit.nv {w : World} {p sp : Nat} {v vm vl : Value} {s : Stk} (h : TSit w p sp v vm vl s) : v.ownBlock ≠ some p := row_ne h.at_ h.ser.row (by decide)
theorem TSit.nm {w : World} {p sp : Nat} {v vm vl : Value} {s : Stk} (h : TSit w p sp v vm vl s) : vm.ownBlock ≠ some p := row_ne h.at_ h.mid (by decide)
theorem TSit.nl {w : World} {p sp : Nat} {v vm vl : Value} {s : Stk} (h : TSit w p sp v vm vl s) : vl.ownBlock ≠ some p := row_ne h.at_ h.long (by decide)
theorem TSit.np {w : World} {p sp : Nat} {v vm vl : Value} {s : Stk} (h : TSit w p sp v vm vl s) : ¬ SBlk sp v p := by
  rintro (e | e)
  · exact h.nsp e.symm
  · exact h.nv e
theorem TSit.nsm {w : World} {p sp : Nat} {v vm vl : Value} {s : Stk} (h : TSit w p sp v vm vl s) : ∀ k, vm.ownBlock = some k → ¬ SBlk sp v k := by
  rintro k hk (e | e)
  · exact row_ne h.ser.at_ h.mid (by decide) (e ▸ hk)
  · exact rows_apart h.ser.row h.mid (by decide) k e hk
theorem TSit.nsl {w : World} {p sp : Nat} {v vm vl : Value} {s : Stk} (h : TSit w p sp v vm vl s) : ∀ k, vl.ownBlock = some k → ¬ SBlk sp v k := by
  rintro k hk (e | e)
  · exact row_ne h.ser.at_ h.long (by decide) (e ▸ hk)
  · exact rows_apart h.ser.row h.long (by decide) k e hk
/-- a stock is at p -/
def tSit (w : World) (p : Nat) (s : Stk) : Prop := ∃ sp v vm vl, TSit w p sp v vm vl s
/-- the blocks of the stock at p, read off the world -/
def tOwn (w : World) (p k : Nat) : Prop := k = p ∨ ∃ sp v vm vl a b c d, w.heap[p]? = some (.cells #[.pointer (some ⟨sp, 0, none⟩), a, vm, vl, b, c, d] 63 (0, 0)) ∧ w.heap[sp]? = some (.cells #[v] 91 (0, 0)) ∧ (SBlk sp v k ∨ vm.ownBlock = some k ∨ vl.ownBlock = some k)
theorem TSit.own {w : World} {p sp : Nat} {v vm vl : Value} {s : Stk} (h : TSit w p sp v vm vl s) (k : Nat) : tOwn w p k ↔ TBlk p sp v vm vl k := by
  constructor
  · rintro (e | ⟨sp', v', vm', vl', a, b, c, d, h1, h2, h3⟩)
    · exact .inl e
    · have e1 := h.at_
      rw [h1] at e1
      injection e1 with e1
      injection e1 with e1
      simp only [Array.mk.injEq, List.cons.injEq, Value.pointer.injEq, Option.some.injEq, Addr.mk.injEq, and_true] at e1
      obtain ⟨rfl, _, rfl, rfl, _⟩ := e1
      have e2 := h.ser.at_
      rw [h2] at e2
      injection e2 with e2
      injection e2 with e2
      simp only [Array.mk.injEq, List.cons.injEq, and_true] at e2
      subst e2
      exact .inr h3
  · rintro (e | e)
    · exact .inl e
    · exact .inr ⟨sp, v, vm, vl, _, _, _, _, h.at_, h.ser.at_, e⟩
theorem tSit_lt {w : World} {p : Nat} {s : Stk} {k : Nat} (h : tSit w p s) (hk : tOwn w p k) : k < w.heap.size := by
  obtain ⟨sp, v, vm, vl, h⟩ := h
  exact h.lt ((h.own k).1 hk)
theorem tSit_keep {S : Nat → Prop} {w w' : World} {p : Nat} {s : Stk} (h : tSit w p s) (ho : Only S w w') (hS : ∀ k, tOwn w p k → ¬ S k) : tSit w' p s ∧ ∀ k, tOwn w' p k → tOwn w p k := by
  obtain ⟨sp, v, vm, vl, h⟩ := h
  have h' := h.only ho (fun k hk => hS k ((h.own k).2 hk))
  exact ⟨⟨sp, v, vm, vl, h'⟩, fun k hk => (h.own k).2 ((h'.own k).1 hk)⟩
/-- what a call made of a stock: its blocks are old ones of it, or new; nothing else was touched -/
def Turned (w w' : World) (p sp : Nat) (v vm vl : Value) (s' : Stk) : Prop :=
  ∃ v' vm' vl', TSit w' p sp v' vm' vl' s' ∧ (∀ k, TBlk p sp v' vm' vl' k → TBlk p sp v vm vl k ∨ w.heap.size ≤ k) ∧ Only (TBlk p sp v vm vl) w w'
theorem Turned.out {w w' : World} {p sp : Nat} {v vm vl : Value} {s s' : Stk} (h : TSit w p sp v vm vl s) (ht : Turned w w' p sp v vm vl s') : tSit w' p s' ∧ (∀ k, tOwn w' p k → tOwn w p k ∨ w.heap.size ≤ k) ∧ Only (tOwn w p) w w' := by
  obtain ⟨v', vm', vl', h1, h2, h3⟩ := ht
  refine ⟨⟨sp, v', vm', vl', h1⟩, fun k hk => ?_, h3.mono fun k _ hk => (h.own k).2 hk⟩
  rcases h2 k ((h1.own k).1 hk) with h4 | h4
  · exact .inl ((h.own k).2 h4)
  · exact .inr h4
/-- first made memory, and then turned -/
theorem Turned.from {w w1 w2 : World} {p sp : Nat} {v vm vl : Value} {s' : Stk} (hb : Below w.heap.size w w1) (ht : Turned w1 w2 p sp v vm vl s') : Turned w w2 p sp v vm vl s' := by
  obtain ⟨v', vm', vl', h1, h2, h3⟩ := ht
  exact ⟨v', vm', vl', h1, fun k hk => (h2 k hk).imp id (fun h => Nat.le_trans hb.size h), (only_beyond hb).trans h3 (fun _ _ h => h)⟩
/-- turned, and then made memory -/
theorem Turned.after {w w1 w2 : World} {p sp : Nat} {v vm vl : Value} {s' : Stk} (ht : Turned w w1 p sp v vm vl s') (hb : Below w1.heap.size w1 w2) : Turned w w2 p sp v vm vl s' := by
  obtain ⟨v', vm', vl', h1, h2, h3⟩ := ht
  exact ⟨v', vm', vl', h1.keep hb, h2, h3.trans (only_beyond (S := fun _ => False) hb) (fun _ _ h => h.elim)⟩
/-- two turns, one behind the other -/
theorem Turned.then {w w1 w2 : World} {p sp : Nat} {v vm vl v' vm' vl' : Value} {s1 s2 : Stk} (_h1 : TSit w1 p sp v' vm' vl' s1) (h2 : ∀ k, TBlk p sp v' vm' vl' k → TBlk p sp v vm vl k ∨ w.heap.size ≤ k) (h3 : Only (TBlk p sp v vm vl) w w1) (ht : Turned w1 w2 p sp v' vm' vl' s2) : Turned w w2 p sp v vm vl s2 := by
  obtain ⟨v'', vm'', vl'', k1, k2, k3⟩ := ht
  refine ⟨v'', vm'', vl'', k1, fun k hk => ?_, h3.trans k3 (fun i hi hk => ?_)⟩
  · rcases k2 k hk with h | h
    · exact h2 k h
    · exact .inr (Nat.le_trans h3.size h)
  · rcases h2 i hk with h | h
    · exact h
    · omega
theorem Turned.same {w w' : World} {p sp : Nat} {v vm vl : Value} {s : Stk} (h : TSit w p sp v vm vl s) (hb : Below w.heap.size w w') : Turned w w' p sp v vm vl s := ⟨v, vm, vl, h.keep hb, fun _ hk => .inl hk, only_beyond hb⟩
end Go.Proofs.Ytmpphidiofhnlaa
