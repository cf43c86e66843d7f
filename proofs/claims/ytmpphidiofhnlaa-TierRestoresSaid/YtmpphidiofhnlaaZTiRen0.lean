/- Package tier: a stock with a new row. Written by py/ti-ren.py. -/
import Derived.Test.YtmpphidiofhnlaaZTiPur0
import Derived.Test.YtmpphidiofhnlaaZTiAdv0
namespace Go.Proofs.Ytmpphidiofhnlaa
open Go.RowKit

theorem TSit.ren_mid {w w1 w2 : World} {p sp B : Nat} {v vm vl v1 : Value} {s : Stk} {N : List Ag} (h : TSit w p sp v vm vl s) (hb : Below w.heap.size w w1) (hB : w.heap.size ≤ B) (h1 : AgRow B w1 v1 N) (h2 : w2 = w1.setCell ⟨p, 2, none⟩ v1) (hgd : GoodT ⟨s.raw, N, s.long, s.mm, s.ml⟩) : Turned w w2 p sp v vm vl ⟨s.raw, N, s.long, s.mm, s.ml⟩ := by
  have ho2 : Only (fun k => k = p) w1 w2 := by rw [h2]; exact Only.setCell (S := fun k => k = p) w1 rfl _
  have hw := h.keep hb
  have e2 := heap_setCell_same w1 p 2 _ _ v1 hw.at_
  have hp := lt_of_block h.at_
  have hnew : ∀ k, v1.ownBlock = some k → w.heap.size ≤ k := fun k hk => Nat.le_trans hB (h1.lt k hk).1
  refine ⟨v, v1, vl, ⟨?_, hw.ser.only ho2 (fun k hk e => h.np (e ▸ hk)), row_only (h1.base (Nat.zero_le _)) ho2 (fun k hk e => ?_), row_only hw.long ho2 (fun k hk e => h.nl (e ▸ hk)), fun k hk hl => ?_, hgd⟩, fun k hk => ?_, (only_beyond hb).trans ho2 (fun k _ hk => .inl hk)⟩
  · rw [h2, e2]; simp
  · have := hnew k hk; omega
  · have h3 := hnew k hk; have h4 := (h.long.lt k hl).2; omega
  · rcases hk with e | e | e | e
    · exact .inl (.inl e)
    · exact .inl (.inr (.inl e))
    · exact .inr (hnew k e)
    · exact .inl (.inr (.inr (.inr e)))
theorem TSit.ren_long {w w1 w2 : World} {p sp B : Nat} {v vm vl v1 : Value} {s : Stk} {N : List Ag} (h : TSit w p sp v vm vl s) (hb : Below w.heap.size w w1) (hB : w.heap.size ≤ B) (h1 : AgRow B w1 v1 N) (h2 : w2 = w1.setCell ⟨p, 3, none⟩ v1) (hgd : GoodT ⟨s.raw, s.mid, N, s.mm, s.ml⟩) : Turned w w2 p sp v vm vl ⟨s.raw, s.mid, N, s.mm, s.ml⟩ := by
  have ho2 : Only (fun k => k = p) w1 w2 := by rw [h2]; exact Only.setCell (S := fun k => k = p) w1 rfl _
  have hw := h.keep hb
  have e2 := heap_setCell_same w1 p 3 _ _ v1 hw.at_
  have hp := lt_of_block h.at_
  have hnew : ∀ k, v1.ownBlock = some k → w.heap.size ≤ k := fun k hk => Nat.le_trans hB (h1.lt k hk).1
  refine ⟨v, vm, v1, ⟨?_, hw.ser.only ho2 (fun k hk e => h.np (e ▸ hk)), row_only hw.mid ho2 (fun k hk e => h.nm (e ▸ hk)), row_only (h1.base (Nat.zero_le _)) ho2 (fun k hk e => ?_), fun k hk hl => ?_, hgd⟩, fun k hk => ?_, (only_beyond hb).trans ho2 (fun k _ hk => .inl hk)⟩
  · rw [h2, e2]; simp
  · have := hnew k hk; omega
  · have h3 := hnew k hl; have h4 := (h.mid.lt k hk).2; omega
  · rcases hk with e | e | e | e
    · exact .inl (.inl e)
    · exact .inl (.inr (.inl e))
    · exact .inl (.inr (.inr (.inl e)))
    · exact .inr (hnew k e)
end Go.Proofs.Ytmpphidiofhnlaa
