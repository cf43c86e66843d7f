/- What package chunk does, as the laws need it (shown elsewhere of the code); the chapter's example holds. -/
import Derived.Test.YtdfefhoihpbldaaDoorChMath
import Derived.Test.YtdfefhoihpbldaaDoorChBytes
import Derived.Test.YtdfefhoihpbldaaDoorChRight
import Derived.Test.YtdfefhoihpbldaaDoorChSame
import Derived.Test.YtdfefhoihpbldaaDoorOpenBytes
namespace Go.Proofs.YtdfefhoihpbldaaDoor
open Go.RowKit

/-- a chunk's bytes, or none -/
def packedS (l : List Pt) : List Nat := if rightZ l = 0 then packB (chunkBits l) else []
def countS (bs : List Nat) : Int × Int := if 16 ≤ 8 * bs.length then ((valOf bs 0 16 : Nat), 0) else (0, 4)
/-- the points of both, of one tick the second's: told by what it is -/
def Merged (a b l : List Pt) : Prop := Rises l ∧ (∀ t, t ∈ l ↔ t ∈ b ∨ (t ∈ a ∧ ∀ q ∈ b, q.a ≠ t.a))
structure ChunkDoes : Prop where
  pack : ∀ {w : World} {v : Value} {l : List Pt}, PLies w v l → (∀ t ∈ l, t.fits) → l.length ≤ 1000 → StepsLaid w →
    Calls Tryd.prog 8 #[v] w fun e w' => ∃ v', e = .returned (.tuple #[v', .int .i64 (rightZ l)]) ∧ w'.ownsRow w.heap.size 5 1 v' (packedS l).length (u8s (packedS l)) ∧ Below w.heap.size w w'
  size : ∀ {w : World} {v : Value} {l : List Pt}, PLies w v l → (∀ t ∈ l, t.fits) → l.length ≤ 1000 → StepsLaid w →
    Calls Tryd.prog 10 #[v] w fun e w' => e = .returned (.int .i64 ((packedS l).length : Nat)) ∧ Below w.heap.size w w'
  unpack : ∀ {w : World} {v : Value} {bs : List Nat}, Lies w v bs → (∀ x ∈ bs, x < 256) → bs.length ≤ 1000000 → StepsLaid w →
    Calls Tryd.prog 12 #[v] w fun e w' => ∃ v', e = .returned (.tuple #[v', .int .i64 (unpackS bs).1]) ∧ w'.ownsRow w.heap.size 42 2 v' (unpackS bs).2.length ((unpackS bs).2.flatMap Pt.cells) ∧ Below w.heap.size w w'
  count : ∀ {w : World} {v : Value} {bs : List Nat}, Lies w v bs → (∀ x ∈ bs, x < 256) → bs.length ≤ 1000000 →
    Calls Tryd.prog 13 #[v] w fun e w' => e = .returned (.tuple #[.int .i64 (countS bs).1, .int .i64 (countS bs).2]) ∧ Below w.heap.size w w'
  merge : ∀ {w : World} {v v' : Value} {bs cs : List Nat}, Lies w v bs → Lies w v' cs → (∀ x ∈ bs, x < 256) → (∀ x ∈ cs, x < 256) → (unpackS bs).2.length + (unpackS cs).2.length ≤ 1000 → bs.length ≤ 1000000 → cs.length ≤ 1000000 → StepsLaid w →
    Calls Tryd.prog 15 #[v, v'] w fun e w' => ∃ vm z ms, e = .returned (.tuple #[vm, .int .i64 z]) ∧ w'.ownsRow w.heap.size 5 1 vm ms.length (u8s ms) ∧ Below w.heap.size w w' ∧
      (((unpackS bs).1 ≠ 0 ∧ z = (unpackS bs).1 ∧ ms = []) ∨ ((unpackS bs).1 = 0 ∧ (unpackS cs).1 ≠ 0 ∧ z = (unpackS cs).1 ∧ ms = []) ∨ ((unpackS bs).1 = 0 ∧ (unpackS cs).1 = 0 ∧ z = 0 ∧ ∃ l, Merged (unpackS bs).2 (unpackS cs).2 l ∧ ms = packB (chunkBits l)))

def exPts : List Pt := [⟨5, 3⟩, ⟨6, 3⟩, ⟨7, 3⟩]
theorem ex_fits : ∀ t ∈ exPts, t.fits := by
  intro t ht
  have h : t = ⟨5, 3⟩ ∨ t = ⟨6, 3⟩ ∨ t = ⟨7, 3⟩ := by simpa [exPts] using ht
  rcases h with rfl | rfl | rfl <;> (unfold Pt.fits; decide)
theorem ex_right : rightZ exPts = 0 := by decide
theorem ex_len : (packedS exPts).length = 19 := by
  rw [packedS, if_pos ex_right, packB_length]
  have h : (chunkBits exPts).length = 149 := by decide +kernel
  rw [h]
theorem ex_nil : packedS [] = [0, 0] := by decide +kernel

set_option maxHeartbeats 1000000 in
theorem lives04 (D : ChunkDoes) (w : World) (hl : StepsLaid w) :
    Calls Tryd.prog 7 #[] w fun e w' => e = .returned (.bool true) ∧ Below w.heap.size w w' := by
  have HL := Lib.hid hl
  have HD := Lib.hid D
  have hs0 := hl.lt
  clear hl D
  go_enter Tryd.func7, Tryd.ntmps7
  go_wp2_with fail
  refine (HD.out.pack (l := []) ⟨none, 0, 0, 0, rfl, fun h => absurd rfl h, fun i t h => by simp at h⟩ (fun t h => by simp at h) (by simp) HL.out).mono ?_
  rintro e W1 ⟨v, rfl, hown, hb1⟩
  rw [show rightZ [] = 0 by decide]
  have hcv := text_of (ownsRow_lies hown)
  rw [ex_nil, show strOf [0, 0] = ⟨#[0, 0]⟩ from rfl] at hcv
  have HB1 := Lib.hid hb1
  have HL1 := Lib.hid ((HL.out.keep hb1 hs0).alloc (.cells #[.int .i64 5, .int .i64 3, .int .i64 6, .int .i64 3, .int .i64 7, .int .i64 3] 42))
  clear hown hb1
  go_wp2_with fail
  have hpl : PLies (W1.alloc (.cells #[.int .i64 5, .int .i64 3, .int .i64 6, .int .i64 3, .int .i64 7, .int .i64 3] 42)) (.slice (some ⟨W1.heap.size, 0, none⟩) 3 3) exPts := by
    have hc := fun j => cell_of_row (W1.alloc (.cells #[.int .i64 5, .int .i64 3, .int .i64 6, .int .i64 3, .int .i64 7, .int .i64 3] 42)) W1.heap.size j _ _ _ (heap_alloc_new W1 _)
    refine ⟨_, W1.heap.size, 0, 3, rfl, fun _ => rfl, fun i t ht => ?_⟩
    match i, ht with
    | 0, ht => obtain rfl : (⟨5, 3⟩ : Pt) = t := by simpa [exPts] using ht
               exact ⟨(hc 0).trans rfl, (hc 1).trans rfl⟩
    | 1, ht => obtain rfl : (⟨6, 3⟩ : Pt) = t := by simpa [exPts] using ht
               exact ⟨(hc 2).trans rfl, (hc 3).trans rfl⟩
    | 2, ht => obtain rfl : (⟨7, 3⟩ : Pt) = t := by simpa [exPts] using ht
               exact ⟨(hc 4).trans rfl, (hc 5).trans rfl⟩
    | i + 3, ht => simp [exPts] at ht
  refine (HD.out.size hpl ex_fits (by decide) HL1.out).mono ?_
  rintro e W2 ⟨rfl, hb2⟩
  rw [ex_len]
  have HB2 := Lib.hid hb2
  clear hb2 hpl
  go_wp2
  go_ret
  exact ⟨rfl, HB1.out.trans (((Below.refl _ W1).alloc HB1.out.size _).trans (HB2.out.mono (by have := HB1.out.size; simp; omega)))⟩
end Go.Proofs.YtdfefhoihpbldaaDoor
