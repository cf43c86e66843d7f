/- What package tier does, proved: the structure that the laws are walked over. -/
import Derived.Test.YtmpphidiofhnlaaZTiRoll
import Derived.Test.YtmpphidiofhnlaaZTiPurge
namespace Go.Proofs.Ytmpphidiofhnlaa
open Go.RowKit

theorem tSit_good {w : World} {p : Nat} {s : Stk} (h : tSit w p s) : GoodT s := by
  obtain ⟨sp, v, vm, vl, h⟩ := h
  exact h.good
def tierDoes : TierD where
  sit := tSit
  own := tOwn
  good := tSit_good
  lt := tSit_lt
  keep := tSit_keep
  new_ := fun w => (tinew_any w).mono fun e w' hh => by
    obtain ⟨p, sp, rfl, h1, h2, h3, h4⟩ := hh
    refine ⟨p, rfl, ⟨sp, _, _, _, h1⟩, fun k hk => ?_, h4⟩
    rcases (h1.own k).1 hk with e | (e | e) | e | e
    · omega
    · omega
    · cases e
    · cases e
    · cases e
  put := fun h hx hf hn => by
    obtain ⟨sp, v, vm, vl, h⟩ := h
    exact (tiput_any h hx hf hn).mono fun e w' hh => ⟨hh.1, Turned.out h hh.2⟩
  roll := fun h h0 h1 => by
    obtain ⟨sp, v, vm, vl, h⟩ := h
    exact (tiroll_any h h0 h1).mono fun e w' hh => ⟨hh.1, Turned.out h hh.2⟩
  purge := fun {_ _ _ a b} h _ _ _ _ => by
    obtain ⟨sp, v, vm, vl, h⟩ := h
    exact (tipurge_any h a b).mono fun e w' hh => ⟨hh.1, Turned.out h hh.2⟩
  points := fun {_ _ _ a b} h _ _ _ _ => by
    obtain ⟨sp, v, vm, vl, h⟩ := h
    exact tipoints_any h a b
  aggs := fun h h0 h1 _ _ _ _ => tiaggs_any h h0 h1
  mark := fun h h0 h1 => by
    obtain ⟨sp, v, vm, vl, h⟩ := h
    exact (timark_any h h0 h1).mono fun e w' hh => ⟨hh.1, by rw [hh.2]; exact Below.refl _ _⟩
end Go.Proofs.Ytmpphidiofhnlaa
