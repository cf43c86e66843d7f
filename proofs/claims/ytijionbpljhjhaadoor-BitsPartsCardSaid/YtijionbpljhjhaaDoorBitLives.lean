/- The chapter's example of bits holds; the law's own signs and pack, walked. -/
import Derived.Test.YtijionbpljhjhaaDoorBitUna
namespace Go.Proofs.YtijionbpljhjhaaDoor
open Go.RowKit

theorem writer_new (w : World) : WriterAt w.heap.size (w.alloc (.cells #[.slice none 0 0, .int .i64 0] 27)) w.heap.size none [] :=
  ⟨Nat.le_refl _, .slice none 0 0, rfl, heap_alloc_new w _, World.ownsRow_nil _ _ _ _⟩

theorem Wrote.beyond {B : Nat} {w0 w w' : World} {P : Nat} {g : Option Nat} {l : List Bool} (h : Wrote B w0 P g l w) (hb : Below w.heap.size w w') : Wrote B w0 P g l w' := by
  obtain ⟨hP, hg, ho, g', ⟨hBP, v, hv, hh, hown⟩, hg'⟩ := h
  exact ⟨hP, hg, ho.trans (only_beyond (S := fun _ => False) hb) (fun _ _ h => h.elim), g', ⟨hBP, v, hv, (hb.block P (lt_of_block hh)).trans hh, ownsRow_beyond hown hb⟩, hg'⟩
theorem ReaderAt.beyond {B : Nat} {w w' : World} {R : Nat} {bs : List Nat} {n : Nat} (h : ReaderAt B w R bs n) (hb : Below w.heap.size w w') : ReaderAt B w' R bs n := h.moved (only_beyond hb)

theorem WriterAt.only {B : Nat} {w w' : World} {P : Nat} {g : Option Nat} {l : List Bool} {S : Nat → Prop} (h : WriterAt B w P g l) (ho : Only S w w') (hP : ¬ S P) (hg : ∀ k, g = some k → ¬ S k) : WriterAt B w' P g l := by
  obtain ⟨hBP, v, hv, hh, hown⟩ := h
  refine ⟨hBP, v, hv, (ho.block P (lt_of_block hh) hP).trans hh, hown.1, ?_⟩
  rcases hown.2 with h2 | ⟨b, cap, cur, hv2, hg2, hgg, rest⟩
  · exact .inl h2
  · refine .inr ⟨b, cap, cur, hv2, hg2, (ho.block b (lt_of_block hgg) (hg b ?_)).trans hgg, rest⟩
    rw [← hv, hv2]; rfl

/-- Bytes of a writer that lies in w0, in whatever world behind it: the bytes lie there from then on -/
def Gives (w0 : World) (P : Nat) (bs : List Nat) : Prop :=
  ∀ W, Below w0.heap.size w0 W → Calls Tryd.prog 12 #[.pointer (some ⟨P, 0, none⟩)] W fun e w' => ∃ v', e = .returned v' ∧ Below w0.heap.size w0 w' ∧ Below W.heap.size W w' ∧ ∀ W', Below w'.heap.size w' W' → ∀ dst, Tryd.prog.underlying dst = some .string → (convert 25 dst v').run Tryd.prog W' = .ok (.string (strOf bs)) W'
def Tells (w0 : World) (P : Nat) (n : Nat) : Prop :=
  ∀ W, Below w0.heap.size w0 W → Calls Tryd.prog 11 #[.pointer (some ⟨P, 0, none⟩)] W fun e w' => e = .returned (.int .i64 (n : Int)) ∧ W = w'
theorem gives_of {B : Nat} {w0 : World} {P : Nat} {g : Option Nat} {l : List Bool} (h : WriterAt B w0 P g l) (hbig : l.length ≤ 1000000000) : Gives w0 P (packB l) := fun _ hW =>
  (bytesW P ((Wrote.start h).beyond hW) hbig).mono fun _ _ ⟨v', he, hown, hb⟩ => ⟨v', he, hW.trans (hb.mono hW.size), hb, fun _ hW' => text_of (ownsRow_lies (ownsRow_beyond hown hW'))⟩
theorem tells_of {B : Nat} {w0 : World} {P : Nat} {g : Option Nat} {l : List Bool} (h : WriterAt B w0 P g l) : Tells w0 P l.length := fun _ hW => lenW P ((Wrote.start h).beyond hW)

theorem StepsLaid.lt {w : World} (h : StepsLaid w) : 0 < w.heap.size := cell_lt (h 0 _ rfl)

set_option maxHeartbeats 1000000 in
theorem lives02 (w : World) (hl : StepsLaid w) :
    Calls Tryd.prog 7 #[] w fun e w' => e = .returned (.bool true) ∧ Below w.heap.size w w' := by
  have hlt := hl.lt
  have HL := Lib.hid (hl.alloc (.cells #[.slice none 0 0, .int .i64 0] 27))
  have HS := Lib.hid (Wrote.start (writer_new w))
  have w5 : wid 5 = 3 := by decide
  have w1 : wid 1 = 1 := by decide
  have hp : packB ([] ++ numBits 5 3 ++ numBits 1 2) = [168] := by decide
  clear hl
  go_enter Tryd.func7, Tryd.ntmps7
  go_wp2_with fail
  refine (put_ok (x := 5) (n := 3) (by decide) (by decide) (by decide) HL.out (by simp) (by simp) HS.out).mono ?_
  rintro e W1 ⟨rfl, h1⟩
  have hb1 := h1.below (by simp)
  have HL1 := Lib.hid (HL.out.keep hb1 hlt)
  have H1 := Lib.hid h1
  clear h1 hb1
  go_wp2_with fail
  refine (put_ok (x := 1) (n := 2) (by decide) (by decide) (by decide) HL1.out (by simp) (by simp [numBits]) H1.out).mono ?_
  rintro e W2 ⟨rfl, h2⟩
  have H2 := Lib.hid h2
  clear h2
  go_wp2_with fail
  refine (bytesW _ H2.out (by simp [numBits])).mono ?_
  rintro e W3 ⟨v, rfl, hown, hb3⟩
  have hcv := text_of (ownsRow_lies hown)
  rw [hp, show strOf [168] = ⟨#[168]⟩ from rfl] at hcv
  have H3 := Lib.hid (H2.out.beyond hb3)
  have HB3 := Lib.hid hb3
  clear hown hb3
  go_wp2_with fail
  refine (lenW _ H3.out).mono ?_
  rintro e W4 ⟨rfl, rfl⟩
  clear hcv
  go_wp2
  go_ret
  refine ⟨rfl, ?_⟩
  exact (((Below.refl _ _).alloc (Nat.le_refl _) _).trans (H2.out.below (by simp))).trans (HB3.out.mono (by have := (H2.out.below (by simp)).size; simp at this; omega))
end Go.Proofs.YtijionbpljhjhaaDoor
