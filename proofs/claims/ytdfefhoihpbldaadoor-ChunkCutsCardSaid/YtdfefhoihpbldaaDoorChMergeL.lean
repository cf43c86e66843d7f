/- Two rising rows of points gone through together: what comes out is the points of both. Plain facts. -/
import Derived.Test.YtdfefhoihpbldaaDoorChMerge
namespace Go.Proofs.YtdfefhoihpbldaaDoor
open Go.RowKit

def mergeL : List Pt → List Pt → List Pt
  | [], b => b
  | p :: a, [] => p :: a
  | p :: a, q :: b => if p.a < q.a then p :: mergeL a (q :: b) else if q.a < p.a then q :: mergeL (p :: a) b else q :: mergeL a b
termination_by a b => a.length + b.length

theorem mergeL_mem : ∀ (a b : List Pt), Srt a → Srt b → ∀ t, t ∈ mergeL a b ↔ t ∈ b ∨ (t ∈ a ∧ ∀ q ∈ b, q.a ≠ t.a)
  | [], b, _, _, t => by simp [mergeL]
  | p :: a, [], _, _, t => by simp [mergeL]
  | p :: a, q :: b, ha, hb, t => by
    have ha' := List.pairwise_cons.1 ha
    have hb' := List.pairwise_cons.1 hb
    rw [mergeL]
    split
    · rename_i h
      have ih := mergeL_mem a (q :: b) ha'.2 hb t
      rw [List.mem_cons, ih, List.mem_cons (l := a)]
      constructor
      · rintro (rfl | h1 | ⟨h1, h2⟩)
        · refine .inr ⟨.inl rfl, fun u hu => ?_⟩
          rcases List.mem_cons.1 hu with rfl | hu
          · omega
          · have := hb'.1 u hu; omega
        · exact .inl h1
        · exact .inr ⟨.inr h1, h2⟩
      · rintro (h1 | ⟨rfl | h1, h2⟩)
        · exact .inr (.inl h1)
        · exact .inl rfl
        · exact .inr (.inr ⟨h1, h2⟩)
    · split
      · rename_i h1 h
        have ih := mergeL_mem (p :: a) b ha hb'.2 t
        rw [List.mem_cons, ih, List.mem_cons (l := b)]
        constructor
        · rintro (rfl | h2 | ⟨h2, h3⟩)
          · exact .inl (.inl rfl)
          · exact .inl (.inr h2)
          · refine .inr ⟨h2, fun u hu => ?_⟩
            rcases List.mem_cons.1 hu with rfl | hu
            · rcases List.mem_cons.1 h2 with rfl | h4
              · omega
              · have := ha'.1 t h4; omega
            · exact h3 u hu
        · rintro ((rfl | h2) | ⟨h2, h3⟩)
          · exact .inl rfl
          · exact .inr (.inl h2)
          · exact .inr (.inr ⟨h2, fun u hu => h3 u (List.mem_cons_of_mem _ hu)⟩)
      · rename_i h1 h2
        have ih := mergeL_mem a b ha'.2 hb'.2 t
        rw [List.mem_cons, ih, List.mem_cons (l := b), List.mem_cons (l := a)]
        constructor
        · rintro (rfl | h3 | ⟨h3, h4⟩)
          · exact .inl (.inl rfl)
          · exact .inl (.inr h3)
          · refine .inr ⟨.inr h3, fun u hu => ?_⟩
            rcases List.mem_cons.1 hu with rfl | hu
            · have := ha'.1 t h3; omega
            · exact h4 u hu
        · rintro ((rfl | h3) | ⟨rfl | h3, h4⟩)
          · exact .inl rfl
          · exact .inr (.inl h3)
          · exact absurd (show q.a = t.a by omega) (h4 q (by simp))
          · exact .inr (.inr ⟨h3, fun u hu => h4 u (List.mem_cons_of_mem _ hu)⟩)
termination_by a b => a.length + b.length

theorem mergeL_low {x : Int} (a b : List Pt) (hsa : Srt a) (hsb : Srt b) (ha : ∀ t ∈ a, x < t.a) (hb : ∀ t ∈ b, x < t.a) : ∀ t ∈ mergeL a b, x < t.a := fun t ht => by
  rcases (mergeL_mem a b hsa hsb t).1 ht with h | ⟨h, _⟩
  · exact hb t h
  · exact ha t h
theorem mergeL_srt : ∀ (a b : List Pt), Srt a → Srt b → Srt (mergeL a b)
  | [], b, _, hb => by simpa [mergeL] using hb
  | p :: a, [], ha, _ => by simpa [mergeL] using ha
  | p :: a, q :: b, ha, hb => by
    have ha' := List.pairwise_cons.1 ha
    have hb' := List.pairwise_cons.1 hb
    rw [mergeL]
    split
    · rename_i h
      refine List.pairwise_cons.2 ⟨mergeL_low a (q :: b) ha'.2 hb ha'.1 (fun t ht => ?_), mergeL_srt a (q :: b) ha'.2 hb⟩
      rcases List.mem_cons.1 ht with rfl | ht
      · exact h
      · have := hb'.1 t ht; omega
    · split
      · rename_i h1 h
        refine List.pairwise_cons.2 ⟨mergeL_low (p :: a) b ha hb'.2 (fun t ht => ?_) hb'.1, mergeL_srt (p :: a) b ha hb'.2⟩
        rcases List.mem_cons.1 ht with rfl | ht
        · exact h
        · have := ha'.1 t ht; omega
      · rename_i h1 h2
        exact List.pairwise_cons.2 ⟨mergeL_low a b ha'.2 hb'.2 (fun t ht => by have := ha'.1 t ht; omega) hb'.1, mergeL_srt a b ha'.2 hb'.2⟩
termination_by a b => a.length + b.length

theorem mergeL_merged {a b : List Pt} (ha : Rises a) (hb : Rises b) : Merged a b (mergeL a b) := by
  have hm := mergeL_mem a b (srt_of ha) (srt_of hb)
  refine ⟨rises_of (mergeL_srt a b (srt_of ha) (srt_of hb)) fun t ht => ?_, hm⟩
  rcases (hm t).1 ht with h | ⟨h, _⟩
  · exact hb.1 t h
  · exact ha.1 t h
theorem mergeL_le (a b : List Pt) : (mergeL a b).length ≤ a.length + b.length := by
  fun_induction mergeL a b <;> simp_all <;> omega
end Go.Proofs.YtdfefhoihpbldaaDoor
