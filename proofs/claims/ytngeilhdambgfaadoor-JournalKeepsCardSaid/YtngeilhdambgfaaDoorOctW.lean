/- A writer of bytes as it lies in memory; what Num refuses. -/
import Derived.Test.YtngeilhdambgfaaDoorClone
import Derived.Test.YtngeilhdambgfaaDoorNumWid
import Derived.Test.YtngeilhdambgfaaDoorApp
import Derived.Test.YtngeilhdambgfaaDoorOctN
namespace Go.Proofs.YtngeilhdambgfaaDoor
open Go.RowKit

/-- A writer at block P; its bytes lie in block g; these are written. -/
def OWriterAt (B : Nat) (w : World) (P : Nat) (g : Option Nat) (l : List Nat) : Prop :=
  B ≤ P ∧ ∃ v, v.ownBlock = g ∧ w.heap[P]? = some (.cells #[v] 98 (0, 0)) ∧ w.ownsRow B 5 1 v l.length (u8s l)
/-- From w0 on a writer at P, whose bytes lay in g, has been written to; it has the bytes l now. -/
def OWrote (B : Nat) (w0 : World) (P : Nat) (g : Option Nat) (l : List Nat) (w : World) : Prop :=
  (B ≤ P ∧ P < w0.heap.size) ∧ (∀ k, g = some k → B ≤ k ∧ k < w0.heap.size) ∧ Only (fun k => k = P ∨ g = some k) w0 w ∧ ∃ g', OWriterAt B w P g' l ∧ (g' = g ∨ ∃ k, g' = some k ∧ w0.heap.size ≤ k)
theorem OWrote.below {B : Nat} {w0 w : World} {P : Nat} {g : Option Nat} {l : List Nat} (h : OWrote B w0 P g l w) (hB : B ≤ w0.heap.size) : Below B w0 w :=
  h.2.2.1.below hB (fun k hk => by
    rcases hk with rfl | hk
    · exact h.1.1
    · exact (h.2.1 k hk).1)
theorem OWrote.start {B : Nat} {w : World} {P : Nat} {g : Option Nat} {l : List Nat} (h : OWriterAt B w P g l) : OWrote B w P g l w := by
  obtain ⟨hBP, v, hv, hP, hown⟩ := h
  exact ⟨⟨hBP, lt_of_block hP⟩, fun k hk => hown.lt k (hv.trans hk), Only.refl _ _, g, ⟨hBP, v, hv, hP, hown⟩, .inl rfl⟩
theorem OWrote.beyond {B : Nat} {w0 w w' : World} {P : Nat} {g : Option Nat} {l : List Nat} (h : OWrote B w0 P g l w) (hb : Below w.heap.size w w') : OWrote B w0 P g l w' := by
  obtain ⟨hP, hg, ho, g', ⟨hBP, v, hv, hh, hown⟩, hg'⟩ := h
  exact ⟨hP, hg, ho.trans (only_beyond (S := fun _ => False) hb) (fun _ _ h => h.elim), g', ⟨hBP, v, hv, (hb.block P (lt_of_block hh)).trans hh, ownsRow_beyond hown hb⟩, hg'⟩
theorem OWriterAt.only {B : Nat} {w w' : World} {P : Nat} {g : Option Nat} {l : List Nat} {S : Nat → Prop} (h : OWriterAt B w P g l) (ho : Only S w w') (hP : ¬ S P) (hg : ∀ k, g = some k → ¬ S k) : OWriterAt B w' P g l := by
  obtain ⟨hBP, v, hv, hh, hown⟩ := h
  refine ⟨hBP, v, hv, (ho.block P (lt_of_block hh) hP).trans hh, hown.1, ?_⟩
  rcases hown.2 with h2 | ⟨b, cap, cur, hv2, hg2, hgg, rest⟩
  · exact .inl h2
  · refine .inr ⟨b, cap, cur, hv2, hg2, (ho.block b (lt_of_block hgg) (hg b ?_)).trans hgg, rest⟩
    rw [← hv, hv2]; rfl
theorem OWriterAt.of {B : Nat} {w0 w : World} {P : Nat} {g : Option Nat} {l : List Nat} (h : OWrote B w0 P g l w) : ∃ g', OWriterAt B w P g' l := by
  obtain ⟨_, _, _, g', h, _⟩ := h
  exact ⟨g', h⟩
theorem owriter_new (w : World) : OWriterAt w.heap.size (w.alloc (.cells #[.slice none 0 0] 98)) w.heap.size none [] :=
  ⟨Nat.le_refl _, .slice none 0 0, rfl, heap_alloc_new w _, World.ownsRow_nil _ _ _ _⟩
/-- what a call finds: the row, and the cell -/
theorem OWrote.at {B : Nat} {w0 w : World} {P : Nat} {g : Option Nat} {l : List Nat} (h : OWrote B w0 P g l w) :
    ∃ v, w.heap[P]? = some (.cells #[v] 98 (0, 0)) ∧ w.ownsRow B 5 1 v l.length (u8s l) ∧ v.ownBlock ≠ some P := by
  obtain ⟨_, _, _, g', ⟨_, v, _, hP, hown⟩, _⟩ := h
  exact ⟨v, hP, hown, row_ne hP hown (by decide)⟩
/-- the writer behind an append and its store: from wa on (w, with new blocks) the row of v has grown to v' in w1 -/
theorem OWrote.next {B : Nat} {w0 w wa w1 w' : World} {P : Nat} {g : Option Nat} {l m : List Nat} {v v' : Value} (h : OWrote B w0 P g l w) (hP : w.heap[P]? = some (.cells #[v] 98 (0, 0))) (ha : Below w.heap.size w wa)
    (hown : w1.ownsRow B 5 1 v' (l ++ m).length (u8s (l ++ m))) (hgrow : wa.grownBy w1 v.ownBlock) (hat : v'.ownBlock = v.ownBlock ∨ ∃ k, v'.ownBlock = some k ∧ w.heap.size ≤ k) (hw : ∃ k, w' = (w1.setCell ⟨P, 0, none⟩ v').drewN k) : OWrote B w0 P g (l ++ m) w' := by
  obtain ⟨k, rfl⟩ := hw
  obtain ⟨hPlt, hgl, ho, g', ⟨hBP, v0, hv, hP0, hown0⟩, hg'⟩ := h
  obtain rfl : v0 = v := by rw [hP] at hP0; simpa using hP0.symm
  have hne := row_ne hP hown0 (by decide)
  have hlt := lt_of_block hP
  have hP1 : w1.heap[P]? = some (.cells #[v0] 98 (0, 0)) := by
    rw [hgrow.block P (Nat.lt_of_lt_of_le hlt ha.size) (fun e => hne e.symm), ha.block P hlt]; exact hP
  have hne' : v'.ownBlock ≠ some P := row_ne hP1 hown (by decide)
  have hO : Only (fun k => k = P ∨ v0.ownBlock = some k) w (w1.setCell ⟨P, 0, none⟩ v') :=
    ((only_beyond (S := fun k => k = P ∨ v0.ownBlock = some k) ha).trans (Only.grown hgrow) (fun i _ h => .inr h)).trans (Only.setCell (S := fun k => k = P) _ rfl _) (fun i _ h => .inl h)
  refine ⟨hPlt, hgl, (ho.trans hO (fun i hi hs => ?_)).trans (only_drewN (fun _ => False) _ k) (fun _ _ h => h.elim), v'.ownBlock, ⟨hBP, v', rfl, ?_, ?_⟩, ?_⟩
  · rcases hs with hs | hs
    · exact .inl hs
    · rw [hv] at hs
      rcases hg' with h2 | ⟨k, h2, h3⟩
      · exact .inr (h2 ▸ hs)
      · rw [h2] at hs; have : k = i := Option.some.inj hs; omega
  · show (w1.setCell ⟨P, 0, none⟩ v').heap[P]? = _
    rw [heap_setCell_same w1 P 0 _ _ v' hP1]; simp
  · exact ownsRow_setCell_other hown (a := ⟨P, 0, none⟩) hne' v'
  · rcases hat with h2 | ⟨k, h2, h3⟩
    · rw [h2, hv]; exact hg'
    · exact .inr ⟨k, h2, Nat.le_trans ho.size h3⟩
theorem num_arg {w : World} {P : Nat} {x n : Int} (h : ¬ Wide n) :
    Calls Tryd.prog 52 #[.pointer (some ⟨P, 0, none⟩), .int .u64 x, .int .i64 n] w fun e w' => e = .returned (.int .i64 1) ∧ w = w' := by
  have H := Lib.hid h
  clear h
  go_enter Tryd.func52, Tryd.ntmps52
  go_wp2_with (go_at_call 56; refine (owidth_no H.out _).mono ?_; rintro e w' ⟨rfl, rfl⟩)
  go_ret
  exact ⟨rfl, rfl⟩
theorem num_range {w : World} {P x n : Nat} (hx : x < 18446744073709551616) (hn : Wide n) (h : 8 * n < wid x) (hl : StepsLaid w) :
    Calls Tryd.prog 52 #[.pointer (some ⟨P, 0, none⟩), .int .u64 (x : Int), .int .i64 (n : Int)] w fun e w' => e = .returned (.int .i64 3) ∧ w = w' := by
  have HL := Lib.hid hl
  have H := Lib.hid hn
  have hn8 : n ≤ 8 := by unfold Wide at hn; omega
  have hd : decide ((8 : Int) * n < wid x) = true := by simp; omega
  clear hl hn h
  go_enter Tryd.func52, Tryd.ntmps52
  go_wp2_with (first | (go_at_call 56; refine (owidth_yes H.out _).mono ?_; rintro e w' ⟨rfl, rfl⟩) | (go_at_call 59; refine (width_any hx _ HL.out).mono ?_; rintro e w' ⟨rfl, rfl⟩))
  go_ret
  exact ⟨rfl, rfl⟩
end Go.Proofs.YtngeilhdambgfaaDoor
