/- What readers and writers of bits share: the rest; a new writer; other worlds. -/
import Derived.Test.YtdfefhoihpbldaaDoorBitGet
namespace Go.Proofs.YtdfefhoihpbldaaDoor
open Go.RowKit

theorem peek_one {B : Nat} {w : World} {R : Nat} {bs : List Nat} {n k : Nat} (h : ReaderAt B w R bs n) (hb : ∀ x ∈ bs, x < 256) (hbig : bs.length ≤ 1000000000) (hk : n + k < 8 * bs.length) (h1 : bitIn bs (n + k) = 1) :
    Calls Tryd.prog 37 #[.pointer (some ⟨R, 0, none⟩), .int .i64 (k : Int)] w fun e w' => e = .returned (.int .u8 1) ∧ w = w' :=
  (peek_any h hb hbig hk).mono fun e w' ⟨he, hw⟩ => ⟨by rw [he, h1]; rfl, hw⟩
theorem peek_zero {B : Nat} {w : World} {R : Nat} {bs : List Nat} {n k : Nat} (h : ReaderAt B w R bs n) (hb : ∀ x ∈ bs, x < 256) (hbig : bs.length ≤ 1000000000) (hk : n + k < 8 * bs.length) (h1 : bitIn bs (n + k) = 0) :
    Calls Tryd.prog 37 #[.pointer (some ⟨R, 0, none⟩), .int .i64 (k : Int)] w fun e w' => e = .returned (.int .u8 0) ∧ w = w' :=
  (peek_any h hb hbig hk).mono fun e w' ⟨he, hw⟩ => ⟨by rw [he, h1]; rfl, hw⟩

/-- are fewer than 8 bits left, all 0? -/
def clean (bs : List Nat) (n : Nat) : Prop := 8 * bs.length - n < 8 ∧ ∀ j, j < 8 * bs.length - n → bitIn bs (n + j) = 0

set_option maxHeartbeats 1000000 in
theorem rest_yes {B : Nat} {w : World} {R n : Nat} {bs : List Nat} (h : ReaderAt B w R bs n) (hb : ∀ x ∈ bs, x < 256) (hbig : bs.length ≤ 1000000000) (hn : n ≤ 8 * bs.length) (h8 : 8 * bs.length - n < 8) (h0 : ∀ j, j < 8 * bs.length - n → bitIn bs (n + j) = 0) :
    Calls Tryd.prog 28 #[.pointer (some ⟨R, 0, none⟩)] w fun e w' => e = .returned (.int .i64 0) ∧ ∃ m, w' = w.drewN m := by
  have HR := Lib.hid h
  have HB := Lib.hid hb
  have H0 := Lib.hid h0
  clear h hb h0
  go_enter Tryd.func28, Tryd.ntmps28
  go_wp2_with (go_at_call 36; refine (left_any HR.out hbig hn).mono ?_; rintro e w' ⟨rfl, m, rfl⟩)
  go_loop [12] (fun i => ∃ q : Nat, q ≤ 8 * bs.length - n ∧ i = .int .i64 q) (fun i => 8 * bs.length - n - (intOf i).toNat)
  case atStart => exact ⟨0, by omega, rfl⟩
  case round =>
    obtain ⟨q, hq, rfl⟩ := hrel
    by_cases hlt : q < 8 * bs.length - n
    · go_wp2_with fail
      refine (peek_zero (HR.out.drewN _) HB.out hbig (by omega) (H0.out q hlt)).mono ?_
      rintro e w' ⟨rfl, rfl⟩
      go_wp2
      go_round
      case rel => exact ⟨q + 1, by omega, by go_num⟩
      case measure => simp [intOf]; omega
    · have hqe : ¬ ((q : Int) < ((8 * bs.length - n : Nat) : Int)) := by omega
      go_wp2
      go_ret
      exact ⟨rfl, _, rfl⟩

set_option maxHeartbeats 1000000 in
theorem rest_no {B : Nat} {w : World} {R n : Nat} {bs : List Nat} (h : ReaderAt B w R bs n) (hb : ∀ x ∈ bs, x < 256) (hbig : bs.length ≤ 1000000000) (hn : n ≤ 8 * bs.length) (hc : ¬ clean bs n) :
    Calls Tryd.prog 28 #[.pointer (some ⟨R, 0, none⟩)] w fun e w' => e = .returned (.int .i64 2) ∧ ∃ m, w' = w.drewN m := by
  have HR := Lib.hid h
  have HB := Lib.hid hb
  clear h hb
  by_cases h8 : 8 * bs.length - n < 8
  · -- the first bit 1
    have hex : ∃ t, t < 8 * bs.length - n ∧ (∀ j, j < t → bitIn bs (n + j) = 0) ∧ bitIn bs (n + t) = 1 := by
      have h1 : ∃ t, t < 8 * bs.length - n ∧ bitIn bs (n + t) = 1 := Classical.byContradiction fun hno => hc ⟨h8, fun j hj => by
        have := bitIn_le bs (n + j)
        rcases Nat.lt_or_ge (bitIn bs (n + j)) 1 with h | h
        · omega
        · exact absurd ⟨j, hj, by omega⟩ hno⟩
      obtain ⟨t, ht, h1⟩ := h1
      clear hc
      induction t using Nat.strongRecOn with
      | _ t ih =>
        by_cases hs : ∃ j, j < t ∧ bitIn bs (n + j) = 1
        · obtain ⟨j, hj, h2⟩ := hs
          exact ih j hj (by omega) h2
        · refine ⟨t, ht, fun j hj => ?_, h1⟩
          have := bitIn_le bs (n + j)
          rcases Nat.lt_or_ge (bitIn bs (n + j)) 1 with h | h
          · omega
          · exact absurd ⟨j, hj, by omega⟩ hs
    obtain ⟨t, ht, h0, h1⟩ := hex
    have H0 := Lib.hid h0
    have H1 := Lib.hid h1
    clear h0 h1 hc
    go_enter Tryd.func28, Tryd.ntmps28
    go_wp2_with (go_at_call 36; refine (left_any HR.out hbig hn).mono ?_; rintro e w' ⟨rfl, m, rfl⟩)
    go_loop [12] (fun i => ∃ q : Nat, q ≤ t ∧ i = .int .i64 q) (fun i => t - (intOf i).toNat)
    case atStart => exact ⟨0, by omega, rfl⟩
    case round =>
      obtain ⟨q, hq, rfl⟩ := hrel
      by_cases hlt : q < t
      · go_wp2_with fail
        refine (peek_zero (HR.out.drewN _) HB.out hbig (by omega) (H0.out q hlt)).mono ?_
        rintro e w' ⟨rfl, rfl⟩
        go_wp2
        go_round
        case rel => exact ⟨q + 1, by omega, by go_num⟩
        case measure => simp [intOf]; omega
      · obtain rfl : q = t := by omega
        go_wp2_with fail
        refine (peek_one (HR.out.drewN _) HB.out hbig (by omega) H1.out).mono ?_
        rintro e w' ⟨rfl, rfl⟩
        go_wp2
        go_ret
        exact ⟨rfl, _, rfl⟩
  · clear hc
    go_enter Tryd.func28, Tryd.ntmps28
    go_wp2_with (go_at_call 36; refine (left_any HR.out hbig hn).mono ?_; rintro e w' ⟨rfl, m, rfl⟩)
    go_ret
    exact ⟨rfl, _, rfl⟩

theorem writer_new (w : World) : WriterAt w.heap.size (w.alloc (.cells #[.slice none 0 0, .int .i64 0] 45)) w.heap.size none [] :=
  ⟨Nat.le_refl _, .slice none 0 0, rfl, heap_alloc_new w _, World.ownsRow_nil _ _ _ _⟩

theorem Wrote.beyond {B : Nat} {w0 w w' : World} {P : Nat} {g : Option Nat} {l : List Bool} (h : Wrote B w0 P g l w) (hb : Below w.heap.size w w') : Wrote B w0 P g l w' := by
  obtain ⟨hP, hg, ho, g', ⟨hBP, v, hv, hh, hown⟩, hg'⟩ := h
  exact ⟨hP, hg, ho.trans (only_beyond (S := fun _ => False) hb) (fun _ _ h => h.elim), g', ⟨hBP, v, hv, (hb.block P (lt_of_block hh)).trans hh, ownsRow_beyond hown hb⟩, hg'⟩
theorem ReaderAt.beyond {B : Nat} {w w' : World} {R : Nat} {bs : List Nat} {n : Nat} (h : ReaderAt B w R bs n) (hb : Below w.heap.size w w') : ReaderAt B w' R bs n := h.moved (only_beyond hb)

theorem WriterAt.only {B : Nat} {w w' : World} {P : Nat} {g : Option Nat} {l : List Bool} {S : Nat → Prop} (h : WriterAt B w P g l) (ho : Only S w w') (hP : ¬ S P) (hg : ∀ k, g = some k → ¬ S k) : WriterAt B w' P g l := by
  obtain ⟨hBP, v, hv, hh, hown⟩ := h
  refine ⟨hBP, v, hv, (ho.block P (lt_of_block hh) hP).trans hh, hown.1, ?_⟩
  rcases hown.2 with h2 | ⟨b, cap, cur, hv2, hg2, hgg, rest⟩
  · exact .inl h2
  · refine .inr ⟨b, cap, cur, hv2, hg2, (ho.block b (lt_of_block hgg) (hg b ?_)).trans hgg, rest⟩
    rw [← hv, hv2]; rfl

/-- Bytes of a writer that lies in w0, in whatever world behind it: the bytes lie there from then on -/
def Gives (w0 : World) (P : Nat) (bs : List Nat) : Prop :=
  ∀ W, Below w0.heap.size w0 W → Calls Tryd.prog 20 #[.pointer (some ⟨P, 0, none⟩)] W fun e w' => ∃ v', e = .returned v' ∧ Below w0.heap.size w0 w' ∧ Below W.heap.size W w' ∧ ∀ W', Below w'.heap.size w' W' → ∀ dst, Tryd.prog.underlying dst = some .string → (convert 24 dst v').run Tryd.prog W' = .ok (.string (strOf bs)) W'
theorem gives_of {B : Nat} {w0 : World} {P : Nat} {g : Option Nat} {l : List Bool} (h : WriterAt B w0 P g l) (hbig : l.length ≤ 1000000000) : Gives w0 P (packB l) := fun _ hW =>
  (bytesW P ((Wrote.start h).beyond hW) hbig).mono fun _ _ ⟨v', he, hown, hb⟩ => ⟨v', he, hW.trans (hb.mono hW.size), hb, fun _ hW' => text_of (ownsRow_lies (ownsRow_beyond hown hW'))⟩
end Go.Proofs.YtdfefhoihpbldaaDoor
