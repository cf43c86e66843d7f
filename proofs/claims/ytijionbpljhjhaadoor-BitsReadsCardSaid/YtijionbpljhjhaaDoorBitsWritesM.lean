/- BitsWrites: items, their bits, their cells; plain facts. -/
import Derived.Test.YtijionbpljhjhaaDoorBitPack
namespace Go.Proofs.YtijionbpljhjhaaDoor
open Go.RowKit

/-- a number of so many bits, or so many ones -/
structure It where
  x : Nat
  n : Int
  u : Bool
def It.cells (t : It) : List Value := [.int .u64 (t.x : Int), .int .i64 t.n, .bool t.u]
def It.good (t : It) : Bool := if t.u then decide (0 ≤ t.n ∧ t.n ≤ 4096) else decide (0 ≤ t.n ∧ t.n ≤ 64 ∧ wid t.x ≤ t.n.toNat)
def It.bits (t : It) : List Bool := if t.u then List.replicate t.n.toNat true ++ [false] else numBits t.x t.n.toNat
def kept (l : List It) : List It := l.filter It.good
def allBits (l : List It) : List Bool := (kept l).flatMap It.bits
def allCells (l : List It) : List Value := (kept l).flatMap It.cells

theorem allCells_length (l : List It) : (allCells l).length = (kept l).length * 3 := by
  unfold allCells
  induction kept l with
  | nil => rfl
  | cons a r ih => simp [List.flatMap_cons, ih, It.cells]; omega
theorem take_it {l : List It} {k : Nat} {t : It} (h : l[k]? = some t) : l.take (k + 1) = l.take k ++ [t] := by
  obtain ⟨hk, e⟩ := List.getElem?_eq_some_iff.1 h
  rw [List.take_succ_eq_append_getElem hk, e]
theorem kept_bad {l : List It} {k : Nat} {t : It} (h : l[k]? = some t) (hg : t.good = false) : kept (l.take (k + 1)) = kept (l.take k) := by
  rw [take_it h]; simp [kept, hg]
theorem kept_good {l : List It} {k : Nat} {t : It} (h : l[k]? = some t) (hg : t.good = true) : kept (l.take (k + 1)) = kept (l.take k) ++ [t] := by
  rw [take_it h]; simp [kept, hg]
theorem wid_big {x n : Nat} (h : 0 < x / 2 ^ n) : n < wid x := by
  rw [wid_shift n h]
  have : wid (x / 2 ^ n) ≠ 0 := by unfold wid; rw [if_neg (by omega)]; omega
  omega
theorem wid_small {x n : Nat} (h : x / 2 ^ n = 0) : wid x ≤ n := wid_le n ((Nat.div_eq_zero_iff_lt (Nat.two_pow_pos _)).1 h)

theorem allBits_le (l : List It) : (allBits l).length ≤ 4097 * l.length := by
  unfold allBits kept
  induction l with
  | nil => simp
  | cons t r ih =>
    rw [List.filter_cons]
    split
    · rename_i hg
      have hb : t.bits.length ≤ 4097 := by
        unfold It.bits; unfold It.good at hg
        cases hu : t.u <;> simp [hu] at hg ⊢
        · rw [numBits_length]; omega
        · omega
      simp only [List.flatMap_cons, List.length_append, List.length_cons]; omega
    · simp only [List.length_cons]; omega
theorem kept_le (l : List It) : (kept l).length ≤ l.length := List.length_filter_le _ _
theorem bits_good {l : List It} {k : Nat} {t : It} (h : l[k]? = some t) (hg : t.good = true) : allBits (l.take (k + 1)) = allBits (l.take k) ++ t.bits := by
  unfold allBits; rw [kept_good h hg, List.flatMap_append]; simp
theorem take_bounds {l : List It} {k : Nat} (hl : l.length ≤ 60) : (allBits (l.take k)).length ≤ 1000000 ∧ (kept (l.take k)).length ≤ 60 := by
  have h1 := allBits_le (l.take k)
  have h2 := kept_le (l.take k)
  have h3 : (l.take k).length ≤ 60 := by rw [List.length_take]; omega
  omega
theorem wid_div {x n : Nat} (h : ¬ n < wid x) : x / 2 ^ n = 0 := by
  rcases Nat.eq_zero_or_pos (x / 2 ^ n) with h1 | h1
  · exact h1
  · exact absurd (wid_big h1) h

/-- the slice of items, as it lies -/
def ItemsAt (w : World) (b off : Nat) (l : List It) : Prop :=
  ∀ i t, l[i]? = some t → w.cell? ⟨b, off + i * 3, none⟩ = some (.int .u64 (t.x : Int)) ∧ w.cell? ⟨b, off + i * 3 + 1, none⟩ = some (.int .i64 t.n) ∧ w.cell? ⟨b, off + i * 3 + 2, none⟩ = some (.bool t.u)
theorem ItemsAt.below {B : Nat} {w w' : World} {b off : Nat} {l : List It} (h : ItemsAt w b off l) (hb : Below B w w') (hB : b < B) : ItemsAt w' b off l := fun i t ht => by
  obtain ⟨h1, h2, h3⟩ := h i t ht
  exact ⟨by rw [← h1]; exact hb.cell (p := ⟨b, _, none⟩) hB, by rw [← h2]; exact hb.cell (p := ⟨b, _, none⟩) hB, by rw [← h3]; exact hb.cell (p := ⟨b, _, none⟩) hB⟩

theorem row_only {B : Nat} {w w' : World} {e : TypeId} {s : Nat} {v : Value} {n : Nat} {xs : List Value} {S : Nat → Prop} (h : w.ownsRow B e s v n xs) (ho : Only S w w') (hS : ∀ k, v.ownBlock = some k → ¬ S k) : w'.ownsRow B e s v n xs := by
  refine ⟨h.1, ?_⟩
  rcases h.2 with h2 | ⟨g, cap, cur, hv, hg, hgg, rest⟩
  · exact .inl h2
  · refine .inr ⟨g, cap, cur, hv, hg, (ho.block g (lt_of_block hgg) (hS g ?_)).trans hgg, rest⟩
    rw [hv]; rfl
theorem rows_apart {B : Nat} {w : World} {e e' : TypeId} {s s' : Nat} {v v' : Value} {n n' : Nat} {xs xs' : List Value} (h : w.ownsRow B e s v n xs) (h' : w.ownsRow B e' s' v' n' xs') (hne : e ≠ e') : ∀ k, v.ownBlock = some k → v'.ownBlock ≠ some k := by
  intro k h1 h2
  rcases h.2 with ⟨rfl, _⟩ | ⟨g, cap, cur, rfl, _, hg, _⟩
  · simp [Value.ownBlock] at h1
  · rcases h'.2 with ⟨rfl, _⟩ | ⟨g', cap', cur', rfl, _, hg', _⟩
    · simp [Value.ownBlock] at h2
    · simp [Value.ownBlock] at h1 h2
      subst h1; subst h2
      rw [hg] at hg'
      simp at hg'
      exact hne hg'.2
theorem row_ne {B : Nat} {w : World} {P : Nat} {v : Value} {n s : Nat} {xs : List Value} {cs : Array Value} {t e : TypeId} {fr : Nat × Nat} (hP : w.heap[P]? = some (.cells cs t fr)) (hown : w.ownsRow B e s v n xs) (hte : t ≠ e) : v.ownBlock ≠ some P := by
  intro h
  rcases hown.2 with ⟨rfl, _⟩ | ⟨g, cap, cur, rfl, _, hg, _⟩
  · simp [Value.ownBlock] at h
  · simp [Value.ownBlock] at h
    subst h
    rw [hP] at hg
    simp at hg
    exact hte hg.2.1
/-- what was kept stays while the writer is written to -/
theorem kept_wrote {B : Nat} {w w' : World} {P : Nat} {g : Option Nat} {l l' : List Bool} {v : Value} {n : Nat} {xs : List Value} {e : TypeId} (hk : w.ownsRow B e 3 v n xs) (he5 : e ≠ 5) (he27 : 27 ≠ e) (hw : WriterAt B w P g l) (h : Wrote B w P g l' w') : w'.ownsRow B e 3 v n xs := by
  obtain ⟨_, v', hv', hP, hown⟩ := hw
  refine row_only hk h.2.2.1 (fun k hk1 hs => ?_)
  rcases hs with rfl | hs
  · exact row_ne hP hk he27 hk1
  · exact rows_apart hk hown he5 k hk1 (hv'.trans hs)
theorem WriterAt.of {B : Nat} {w0 w : World} {P : Nat} {g : Option Nat} {l : List Bool} (h : Wrote B w0 P g l w) : ∃ g', WriterAt B w P g' l := by
  obtain ⟨_, _, _, g', hw, _⟩ := h
  exact ⟨g', hw⟩
end Go.Proofs.YtijionbpljhjhaaDoor
