/- Package tier: what rolling a tier leaves. -/
import Derived.Test.YtmpphidiofhnlaaZTiAggs0
import Derived.Test.YtmpphidiofhnlaaZTiPut1
import Derived.Test.YtmpphidiofhnlaaMG
namespace Go.Proofs.Ytmpphidiofhnlaa
open Go.RowKit

theorem frozen_block {w w' : World} {p i : Nat} (h : w'.heap[p]? = w.heap[p]?) (hf : w.frozen? ⟨p, i, none⟩ = false) : w'.frozen? ⟨p, i, none⟩ = false := by
  unfold World.frozen? at hf ⊢
  rw [h]; exact hf
/-- where the tier's mark is then -/
def advE (n : Nat) (L : List Ag) (E : Int) : Int := match L[256 - n]? with | some x => x.at_ | none => E
/-- the stock behind: its block stored twice, behind an append -/
theorem TSit.adv_mid {w w1 w2 : World} {p sp : Nat} {v vm vl v1 : Value} {s : Stk} {G : List Ag} {m : Int} (h : TSit w p sp v vm vl s) (h1 : AgRow 0 w1 v1 (s.mid ++ G)) (hg : w.grownBy w1 vm.ownBlock) (hv : v1.ownBlock = vm.ownBlock ∨ v1.ownBlock = some w.heap.size)
    (h2 : w2 = (w1.setCell ⟨p, 2, none⟩ v1).setCell ⟨p, 5, none⟩ (.int .i64 m)) (hgd : GoodT ⟨s.raw, s.mid ++ G, s.long, m, s.ml⟩) : Turned w w2 p sp v vm vl ⟨s.raw, s.mid ++ G, s.long, m, s.ml⟩ := by
  have ho1 := Only.grown hg
  have ho2 : Only (fun k => k = p) w1 w2 := by rw [h2]; exact (Only.setCell (S := fun k => k = p) w1 rfl _).trans (Only.setCell (S := fun k => k = p) _ rfl _) (fun _ _ h => h)
  have ho : Only (fun k => k = p ∨ vm.ownBlock = some k) w w2 := (ho1.mono fun k _ hk => .inr hk).trans ho2 (fun k _ hk => .inl hk)
  have hp := lt_of_block h.at_
  have e1 : w1.heap[p]? = some (.cells #[.pointer (some ⟨sp, 0, none⟩), .slice none 0 0, vm, vl, .int .i64 0, .int .i64 s.mm, .int .i64 s.ml] 63 (0, 0)) := (ho1.block p hp h.nm).trans h.at_
  have e2 := heap_setCell_same w1 p 2 _ _ v1 e1
  have e3 := heap_setCell_same _ p 5 _ _ (.int .i64 m) e2
  refine ⟨v, v1, vl, ⟨?_, h.ser.only ho (fun k hk => ?_), row_only h1 ho2 (fun k hk => ?_), row_only h.long ho (fun k hk => ?_), fun k hk => ?_, hgd⟩, fun k hk => ?_, ho.mono fun k _ hk => ?_⟩
  · rw [h2, e3]; simp
  · rintro (e | e)
    · exact h.np (e ▸ hk)
    · exact h.nsm k e hk
  · rintro rfl
    rcases hv with e | e
    · rw [e] at hk; exact h.nm hk
    · rw [e] at hk; injection hk with hk; omega
  · rintro (e | e)
    · exact h.nl (e ▸ hk)
    · exact h.two k e hk
  · rcases hv with e | e
    · rw [e] at hk; exact h.two k hk
    · rw [e] at hk; injection hk with hk
      intro hl
      have := (h.long.lt k hl).2
      omega
  · rcases hk with e | e | e | e
    · exact .inl (.inl e)
    · exact .inl (.inr (.inl e))
    · rcases hv with e' | e'
      · exact .inl (.inr (.inr (.inl (by rw [← e']; exact e))))
      · rw [e'] at e; injection e with e; exact .inr (by omega)
    · exact .inl (.inr (.inr (.inr e)))
  · rcases hk with e | e
    · exact .inl e
    · exact .inr (.inr (.inl e))
theorem TSit.adv_long {w w1 w2 : World} {p sp : Nat} {v vm vl v1 : Value} {s : Stk} {G : List Ag} {m : Int} (h : TSit w p sp v vm vl s) (h1 : AgRow 0 w1 v1 (s.long ++ G)) (hg : w.grownBy w1 vl.ownBlock) (hv : v1.ownBlock = vl.ownBlock ∨ v1.ownBlock = some w.heap.size)
    (h2 : w2 = (w1.setCell ⟨p, 3, none⟩ v1).setCell ⟨p, 6, none⟩ (.int .i64 m)) (hgd : GoodT ⟨s.raw, s.mid, s.long ++ G, s.mm, m⟩) : Turned w w2 p sp v vm vl ⟨s.raw, s.mid, s.long ++ G, s.mm, m⟩ := by
  have ho1 := Only.grown hg
  have ho2 : Only (fun k => k = p) w1 w2 := by rw [h2]; exact (Only.setCell (S := fun k => k = p) w1 rfl _).trans (Only.setCell (S := fun k => k = p) _ rfl _) (fun _ _ h => h)
  have ho : Only (fun k => k = p ∨ vl.ownBlock = some k) w w2 := (ho1.mono fun k _ hk => .inr hk).trans ho2 (fun k _ hk => .inl hk)
  have hp := lt_of_block h.at_
  have e1 : w1.heap[p]? = some (.cells #[.pointer (some ⟨sp, 0, none⟩), .slice none 0 0, vm, vl, .int .i64 0, .int .i64 s.mm, .int .i64 s.ml] 63 (0, 0)) := (ho1.block p hp h.nl).trans h.at_
  have e2 := heap_setCell_same w1 p 3 _ _ v1 e1
  have e3 := heap_setCell_same _ p 6 _ _ (.int .i64 m) e2
  refine ⟨v, vm, v1, ⟨?_, h.ser.only ho (fun k hk => ?_), row_only h.mid ho (fun k hk => ?_), row_only h1 ho2 (fun k hk => ?_), fun k hk => ?_, hgd⟩, fun k hk => ?_, ho.mono fun k _ hk => ?_⟩
  · rw [h2, e3]; simp
  · rintro (e | e)
    · exact h.np (e ▸ hk)
    · exact h.nsl k e hk
  · rintro (e | e)
    · exact h.nm (e ▸ hk)
    · exact h.two k hk e
  · rintro rfl
    rcases hv with e | e
    · rw [e] at hk; exact h.nl hk
    · rw [e] at hk; injection hk with hk; omega
  · rcases hv with e | e
    · rw [e]; exact h.two k hk
    · rw [e]
      intro hl
      injection hl with hl
      have := (h.mid.lt k hk).2
      omega
  · rcases hk with e | e | e | e
    · exact .inl (.inl e)
    · exact .inl (.inr (.inl e))
    · exact .inl (.inr (.inr (.inl e)))
    · rcases hv with e' | e'
      · exact .inl (.inr (.inr (.inr (by rw [← e']; exact e))))
      · rw [e'] at e; injection e with e; exact .inr (by omega)
  · rcases hk with e | e
    · exact .inl e
    · exact .inr (.inr (.inr e))
end Go.Proofs.Ytmpphidiofhnlaa
