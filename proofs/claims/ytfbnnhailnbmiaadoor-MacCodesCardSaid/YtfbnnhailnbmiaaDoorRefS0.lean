/- Arrays as they lie; rows that are filled one by one. -/
import Derived.Test.YtfbnnhailnbmiaaDoorRefP
import Derived.Test.YtfbnnhailnbmiaaDoorApp
import Derived.StillTailTactics
import Derived.Laws.ResultCell
import Derived.Deep.RegionHeld3
namespace Go.Proofs.YtfbnnhailnbmiaaDoor
open Go.RowKit

def u32s (l : List Nat) : List Value := l.map fun (x : Nat) => Value.int .u32 (x : Int)
theorem u32s_at {l : List Nat} {i x : Nat} (h : l[i]? = some x) : (u32s l)[i]? = some (.int .u32 (x : Int)) := by simp [u32s, h]
/-- an array in a block of its own -/
def Arr (w : World) (P : Nat) (t : TypeId) (l : List Value) : Prop := w.heap[P]? = some (.cells l.toArray t (0, 0))
theorem Arr.cell {w : World} {P : Nat} {t : TypeId} {l : List Value} (h : Arr w P t l) {i : Nat} {u : Value} (hu : l[i]? = some u) : w.cell? ⟨P, i, none⟩ = some u := by
  rw [cell_of_row w P i _ _ _ h]; simpa using hu
theorem Arr.free {w : World} {P : Nat} {t : TypeId} {l : List Value} (h : Arr w P t l) (i : Nat) : w.frozen? ⟨P, i, none⟩ = false := by
  unfold Arr at h; simp [World.frozen?, h]
theorem Arr.set {w : World} {P : Nat} {t : TypeId} {l : List Value} (h : Arr w P t l) (i : Nat) (u : Value) : Arr (w.setCell ⟨P, i, none⟩ u) P t (l.set i u) := by
  unfold Arr at h ⊢
  rw [heap_setCell_same w P i _ _ u h]; simp
theorem Arr.only {S : Nat → Prop} {w w' : World} {P : Nat} {t : TypeId} {l : List Value} (h : Arr w P t l) (ho : Only S w w') (hS : ¬ S P) : Arr w' P t l := (ho.block P (lt_of_block h) hS).trans h
theorem Arr.lt {w : World} {P : Nat} {t : TypeId} {l : List Value} (h : Arr w P t l) : P < w.heap.size := lt_of_block h
/-- the first i of a list, and noughts -/
def fillL (A : List Nat) (n i : Nat) : List Nat := A.take i ++ List.replicate (n - i) 0
theorem fill_set {A : List Nat} {n i x : Nat} (hi : i < n) (hA : A[i]? = some x) : (u32s (fillL A n i)).set i (.int .u32 (x : Int)) = u32s (fillL A n (i + 1)) := by
  have hl : i < A.length := (List.getElem?_eq_some_iff.1 hA).1
  unfold fillL u32s
  rw [show n - i = (n - (i + 1)) + 1 by omega, List.replicate_succ, List.map_append, List.set_append]
  rw [if_neg (by simp; omega)]
  rw [show i - (List.map (fun x : Nat => Value.int .u32 (x : Int)) (A.take i)).length = 0 by simp; omega]
  rw [List.take_add_one, hA]
  simp
theorem fill_full {A : List Nat} {n : Nat} (hA : A.length = n) : fillL A n n = A := by unfold fillL; simp [← hA]
theorem fill_at {A : List Nat} {n i j x : Nat} (hj : j < i) (hA : A[j]? = some x) : (fillL A n i)[j]? = some x := by
  have hl : j < A.length := (List.getElem?_eq_some_iff.1 hA).1
  unfold fillL
  rw [List.getElem?_append_left (by simp; omega), List.getElem?_take, if_pos hj, hA]

theorem sched_length (blk : List Nat) (t : Nat) : (sched blk t).length = t := by
  induction t with
  | zero => rfl
  | succ t ih => rw [sched, List.length_append, ih]; rfl
theorem sched_at (blk : List Nat) {t n : Nat} (h : t < n) : (sched blk n)[t]? = some (nextW blk (sched blk t) t) := by
  induction n with
  | zero => omega
  | succ n ih =>
    rw [sched]
    rcases Nat.lt_or_ge t n with h1 | h1
    · rw [List.getElem?_append_left (by rw [sched_length]; exact h1), ih h1]
    · obtain rfl : t = n := by omega
      rw [List.getElem?_append_right (by rw [sched_length]; exact Nat.le_refl _), sched_length]; simp
theorem foldB_succ : ∀ (q : Nat) (s : Hs) (l : List Nat), foldB (q + 1) s l = comp (foldB q s l) ((l.drop (64 * q)).take 64)
  | 0, s, l => by simp [foldB]
  | q + 1, s, l => by
    rw [foldB, foldB_succ q, foldB, List.drop_drop]
    congr 2
    rw [show 64 + 64 * q = 64 * (q + 1) by omega]
theorem be32_lt {blk : List Nat} (hb : ∀ x ∈ blk, x < 256) (t : Nat) : be32 blk t < 4294967296 := by
  have h : ∀ i, blk.getD i 0 < 256 := fun i => by
    simp only [List.getD]
    cases he : blk[i]? with
    | none => simp
    | some x => simpa using hb x (List.mem_of_getElem? he)
  have h0 := h (4 * t); have h1 := h (4 * t + 1); have h2 := h (4 * t + 2); have h3 := h (4 * t + 3)
  unfold be32; omega
theorem nextW_lt {blk : List Nat} (hb : ∀ x ∈ blk, x < 256) (ws : List Nat) (t : Nat) : nextW blk ws t < 4294967296 := by
  unfold nextW; split
  · exact be32_lt hb t
  · exact Nat.mod_lt _ (by decide)
theorem sched_lt {blk : List Nat} (hb : ∀ x ∈ blk, x < 256) {n i x : Nat} (h : (sched blk n)[i]? = some x) : x < 4294967296 := by
  have hi := (List.getElem?_eq_some_iff.1 h).1
  rw [sched_length] at hi
  rw [sched_at blk hi] at h
  injection h with h
  rw [← h]; exact nextW_lt hb _ _
def Hs.ok (s : Hs) : Prop := s.a < 4294967296 ∧ s.b < 4294967296 ∧ s.c < 4294967296 ∧ s.d < 4294967296 ∧ s.e < 4294967296 ∧ s.f < 4294967296 ∧ s.g < 4294967296 ∧ s.h < 4294967296
theorem round_ok {s : Hs} (h : s.ok) (k w : Nat) : (round1 s k w).ok := by
  obtain ⟨h1, h2, h3, h4, h5, h6, h7, h8⟩ := h
  exact ⟨Nat.mod_lt _ (by decide), h1, h2, h3, Nat.mod_lt _ (by decide), h5, h6, h7⟩
theorem rounds_ok {s : Hs} (h : s.ok) (ws : List Nat) (n : Nat) : (rounds ws s n).ok := by
  induction n with
  | zero => exact h
  | succ n ih => exact round_ok ih _ _
theorem sumH_ok (s r : Hs) : (sumH s r).ok := by
  refine ⟨?_, ?_, ?_, ?_, ?_, ?_, ?_, ?_⟩ <;> exact Nat.mod_lt _ (by decide)
theorem startH_ok : startH.ok := by unfold Hs.ok startH; decide
theorem foldB_ok : ∀ (n : Nat) {s : Hs} (_ : s.ok) (l : List Nat), (foldB n s l).ok
  | 0, _, h, _ => h
  | n + 1, _, _, _ => foldB_ok n (sumH_ok _ _) _
end Go.Proofs.YtfbnnhailnbmiaaDoor
