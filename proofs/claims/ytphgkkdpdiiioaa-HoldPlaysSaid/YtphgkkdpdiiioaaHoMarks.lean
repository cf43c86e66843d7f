/- The marks that ranges over functions leave, taken at a function's end: however many. -/
import Derived.Test.YtphgkkdpdiiioaaHoSeq
import Derived.RangeFuncLeaves
import Derived.Laws.ResultCell
namespace Go.Proofs.Ytphgkkdpdiiioaa
open Go.RowKit Go.Shelf

theorem ret_markb {fn : Func} {p : Tmp} (h : fn.results = #[.cell p 4]) {tmps : Array Value} {w : World} {Q : Nat} {b : Bool} (hp : tmps.getD p undef = .pointer (some ⟨Q, 0, none⟩)) (hq : w.cell? ⟨Q, 0, none⟩ = some (.bool b)) :
    (results fn tmps).run Try.prog w = .ok (.bool b) w := by
  rw [results_cell h, hp]
  go_simp
def markOf (K : Nat) : Deferred := { target := .collected K, args := #[] }
/-- marks, each on a block of its own that holds nothing deferred -/
def MarksAt (n₀ : Nat) (ds : List Deferred) (W : World) : Prop := ∃ Ks : List Nat, ds = Ks.map markOf ∧ Ks.Nodup ∧ ∀ K ∈ Ks, n₀ ≤ K ∧ W.heap[K]? = some (.deferred (some []))
theorem MarksAt.nil (n₀ : Nat) (W : World) : MarksAt n₀ [] W := ⟨[], rfl, .nil, by simp⟩
theorem MarksAt.lt {n₀ : Nat} {ds : List Deferred} {W : World} (h : MarksAt n₀ ds W) : ∃ Ks : List Nat, ds = Ks.map markOf ∧ ∀ K ∈ Ks, K < W.heap.size := by
  obtain ⟨Ks, h1, _, h3⟩ := h
  exact ⟨Ks, h1, fun K hK => (Array.getElem?_eq_some_iff.1 (h3 K hK).2).1⟩
theorem MarksAt.only {S : Nat → Prop} {n₀ : Nat} {ds : List Deferred} {W W' : World} (h : MarksAt n₀ ds W) (ho : Only S W W') (hS : ∀ K o, W.heap[K]? = some (.deferred o) → ¬ S K) : MarksAt n₀ ds W' := by
  obtain ⟨Ks, h1, h2, h3⟩ := h
  exact ⟨Ks, h1, h2, fun K hK => ⟨(h3 K hK).1, (ho.block K (Array.getElem?_eq_some_iff.1 (h3 K hK).2).1 (hS K _ (h3 K hK).2)).trans (h3 K hK).2⟩⟩
theorem MarksAt.below {n₀ : Nat} {ds : List Deferred} {W W' : World} (h : MarksAt n₀ ds W) (hb : Below W.heap.size W W') : MarksAt n₀ ds W' := by
  obtain ⟨Ks, h1, h2, h3⟩ := h
  exact ⟨Ks, h1, h2, fun K hK => ⟨(h3 K hK).1, (hb.block K (Array.getElem?_eq_some_iff.1 (h3 K hK).2).1).trans (h3 K hK).2⟩⟩
theorem MarksAt.cons {n₀ K : Nat} {ds : List Deferred} {W W' : World} (h : MarksAt n₀ ds W) (hb : Below W.heap.size W W') (hK : W.heap.size ≤ K) (hn : n₀ ≤ W.heap.size) (hg : W'.heap[K]? = some (.deferred (some []))) : MarksAt n₀ (markOf K :: ds) W' := by
  obtain ⟨Ks, rfl, h2, h3⟩ := h
  refine ⟨K :: Ks, rfl, List.nodup_cons.2 ⟨fun hm => ?_, h2⟩, fun J hJ => ?_⟩
  · have := (Array.getElem?_eq_some_iff.1 (h3 K hm).2).1; omega
  · rcases List.mem_cons.1 hJ with rfl | hJ
    · exact ⟨by omega, hg⟩
    · exact ⟨(h3 J hJ).1, (hb.block J (Array.getElem?_eq_some_iff.1 (h3 J hJ).2).1).trans (h3 J hJ).2⟩
theorem marks_leave {fn : Func} {p : Tmp} (hf : fn.results = #[.cell p 4]) {tmps : Array Value} {Q : Nat} {b : Bool} (hp : tmps.getD p undef = .pointer (some ⟨Q, 0, none⟩)) {w : World} {n₀ : Nat} :
    ∀ (Ks : List Nat) (W : World), Ks.Nodup → (∀ K ∈ Ks, n₀ ≤ K ∧ W.heap[K]? = some (.deferred (some []))) → W.heap[Q]? = some (.cells #[.bool b] 4 (0, 0)) → Below n₀ w W → n₀ ≤ W.heap.size →
      LeavesInM Fence.wide 4 Try.prog fn tmps (fun e w' => e = .returned (.bool b) ∧ Below n₀ w w') (Ks.map markOf) .returning W
  | [], W, _, _, hq, hb, _ => ⟨_, ret_markb hf hp (cells1 hq).1, rfl, hb⟩
  | K :: Ks, W, hnd, hK, hq, hb, hn => by
    have h1 := hK K (by simp)
    have hnd2 := List.nodup_cons.1 hnd
    refine ⟨by simp, .inl ⟨K, _, rfl, run_takeDeferred h1.2, ?_⟩⟩
    have hlt := (Array.getElem?_eq_some_iff.1 h1.2).1
    have hsz : (W.putObj K (.deferred none)).heap.size = W.heap.size := by simp [World.putObj]
    refine marks_leave hf hp Ks _ hnd2.2 (fun J hJ => ⟨(hK J (by simp [hJ])).1, ?_⟩) ?_ (hb.grown (grownBy_putObj' W K _) hn (fun k e => by cases e; exact h1.1)) (by omega)
    · have hne : J ≠ K := fun e => hnd2.1 (e ▸ hJ)
      exact (World.putObj_heap_other hne).trans (hK J (by simp [hJ])).2
    · have hne : Q ≠ K := fun e => by rw [e, h1.2] at hq; cases hq
      exact (World.putObj_heap_other hne).trans hq
/-- the end of a function behind marks, which tells what a variable of its own holds -/
theorem marks_end {fn : Func} {p : Tmp} (hf : fn.results = #[.cell p 4]) {a : Act} {Q : Nat} {b : Bool} {w W : World} {n₀ : Nat} (hp : a.tmps.getD p undef = .pointer (some ⟨Q, 0, none⟩)) (hm : MarksAt n₀ a.defers W)
    (hq : W.heap[Q]? = some (.cells #[.bool b] 4 (0, 0))) (hb : Below n₀ w W) (hn : n₀ ≤ W.heap.size) :
    bodyPostM Fence.wide 4 Try.prog fn (fun e w' => e = .returned (.bool b) ∧ Below n₀ w w') Exit.ret a W := by
  obtain ⟨Ks, h1, h2, h3⟩ := hm
  show LeavesInM Fence.wide 4 Try.prog fn a.tmps _ a.defers .returning W
  rw [h1]
  exact marks_leave hf hp Ks W h2 h3 hq hb hn
end Go.Proofs.Ytphgkkdpdiiioaa
