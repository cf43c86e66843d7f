/- Bytes of the writer, Read, peek, Left of the reader, walked. -/
import Derived.Test.YtdfefhoihpbldaaDoorBitPut
import Derived.Test.YtdfefhoihpbldaaDoorClone
import Derived.Deep.QuietTactic
namespace Go.Proofs.YtdfefhoihpbldaaDoor
open Go.RowKit

theorem writerAt_of {B : Nat} {w0 w : World} {P : Nat} {g : Option Nat} {l : List Bool} (h : Wrote B w0 P g l w) :
    ∃ v, w.heap[P]? = some (.cells #[v, .int .i64 (l.length : Int)] 45 (0, 0)) ∧ w.ownsRow B 5 1 v ((l.length + 7) / 8) (u8s (packB l)) := by
  obtain ⟨_, _, _, g', ⟨_, v, _, hP, hown⟩, _⟩ := h
  exact ⟨v, hP, hown⟩

set_option maxHeartbeats 1000000 in
theorem bytesW (P : Nat) {B : Nat} {w0 w : World} {g : Option Nat} {l : List Bool} (h : Wrote B w0 P g l w) (hbig : l.length ≤ 1000000000) :
    Calls Tryd.prog 20 #[.pointer (some ⟨P, 0, none⟩)] w fun e w' => ∃ v', e = .returned v' ∧ w'.ownsRow w.heap.size 5 1 v' (packB l).length (u8s (packB l)) ∧ Below w.heap.size w w' := by
  obtain ⟨v, hP, hown⟩ := writerAt_of h
  obtain ⟨c0, c1, _, _⟩ := cells2 hP
  have HL := Lib.hid (ownsRow_lies hown)
  have hpl : (packB l).length ≤ 1000000000 := by rw [packB_length]; omega
  clear h hP hown c1
  go_enter Tryd.func20, Tryd.ntmps20
  go_wp2_with (go_at_call 35; refine (clone_any HL.out hpl).mono ?_; rintro e w' ⟨v', rfl, hown', hbel⟩)
  go_ret
  exact ⟨_, rfl, hown', hbel⟩

/-- A reader at block R of the bytes bs; so many bits are read. -/
def ReaderAt (B : Nat) (w : World) (R : Nat) (bs : List Nat) (next : Nat) : Prop :=
  B ≤ R ∧ ∃ v, w.heap[R]? = some (.cells #[v, .int .i64 (next : Int)] 69 (0, 0)) ∧ w.ownsRow B 5 1 v bs.length (u8s bs)

set_option maxHeartbeats 1000000 in
theorem read_any {w : World} {v : Value} {bs : List Nat} (h : Lies w v bs) (hbig : bs.length ≤ 1000000000) :
    Calls Tryd.prog 24 #[v] w fun e w' => ∃ R, e = .returned (.pointer (some ⟨R, 0, none⟩)) ∧ ReaderAt w.heap.size w' R bs 0 ∧ Below w.heap.size w w' := by
  have HL := Lib.hid h
  clear h
  go_enter Tryd.func24, Tryd.ntmps24
  go_wp2_with (go_at_call 35; refine (clone_any HL.out hbig).mono ?_; rintro e w' ⟨v', rfl, hown', hbel⟩; obtain ⟨a', c', rfl⟩ := own_slice hown')
  go_ret
  exact ⟨_, rfl, ⟨hbel.size, _, heap_alloc_new _ _, hown'.alloc _⟩, hbel.alloc hbel.size _⟩

theorem ReaderAt.moved {B : Nat} {w w' : World} {R : Nat} {bs : List Nat} {n : Nat} (h : ReaderAt B w R bs n) (ho : Only (fun _ => False) w w') : ReaderAt B w' R bs n := by
  obtain ⟨hR, v, hh, hown⟩ := h
  refine ⟨hR, v, (ho.block R (lt_of_block hh) (fun h => h)).trans hh, hown.1, ?_⟩
  rcases hown.2 with h2 | ⟨g, cap, cur, hv, hg, hgg, rest⟩
  · exact .inl h2
  · exact .inr ⟨g, cap, cur, hv, hg, (ho.block g (lt_of_block hgg) (fun h => h)).trans hgg, rest⟩

/-- the bit number i of bytes -/
def bitIn (bs : List Nat) (i : Nat) : Nat := bs.getD (i / 8) 0 / 2 ^ (7 - i % 8) % 2

set_option maxHeartbeats 1000000 in
theorem peek_any {B : Nat} {w : World} {R : Nat} {bs : List Nat} {n k : Nat} (h : ReaderAt B w R bs n) (hb : ∀ x ∈ bs, x < 256) (hbig : bs.length ≤ 1000000000) (hk : n + k < 8 * bs.length) :
    Calls Tryd.prog 37 #[.pointer (some ⟨R, 0, none⟩), .int .i64 (k : Int)] w fun e w' => e = .returned (.int .u8 ((bitIn bs (n + k) : Nat) : Int)) ∧ w = w' := by
  obtain ⟨hR, v, hh, hown⟩ := h
  obtain ⟨g, cap, rfl, hbg, hglt⟩ := hown.form (by omega)
  obtain ⟨c0, c1, f0, f1⟩ := cells2 hh
  clear f0 f1
  have hq : (n + k) / 8 < bs.length := by omega
  have hel : w.cell? ⟨g, (n + k) / 8, none⟩ = some (.int .u8 ((bs.getD ((n + k) / 8) 0 : Nat) : Int)) := (hown.cellAt ((n + k) / 8) (by omega)).trans (u8s_getD bs _ hq)
  have hx : bs.getD ((n + k) / 8) 0 < 256 := by
    simp [List.getD, List.getElem?_eq_getElem hq]; exact hb _ (List.getElem_mem hq)
  obtain ⟨x, hxe⟩ : ∃ x, x = bs.getD ((n + k) / 8) 0 := ⟨_, rfl⟩
  rw [← hxe] at hel hx
  have HX := Lib.hid hxe
  have hm3 : 0 ≤ ((n : Int) + k) % 8 := by omega
  have hm4 : ((n : Int) + k) % 8 < 8 := by omega
  clear hxe hown hh hb
  go_enter Tryd.func37, Tryd.ntmps37
  go_wp2
  go_ret
  refine ⟨ret_u8 ?_, rfl⟩
  unfold bitIn
  rw [← HX.out]
  have h1 : ((x : Int) / 2 ^ (7 - (n + k) % 8)) = ((x / 2 ^ (7 - (n + k) % 8) : Nat) : Int) := by simp
  have h2 : x / 2 ^ (7 - (n + k) % 8) ≤ x := Nat.div_le_self _ _
  rw [h1]
  generalize x / 2 ^ (7 - (n + k) % 8) = y at *
  rw [show (1 : Int) = ((1 : Nat) : Int) from rfl, u8_and_nat _ _ (by omega) (by omega), nat_mask1]

set_option maxHeartbeats 1000000 in
theorem left_any {B : Nat} {w : World} {R : Nat} {bs : List Nat} {n : Nat} (h : ReaderAt B w R bs n) (hbig : bs.length ≤ 1000000000) (hn : n ≤ 8 * bs.length) :
    Calls Tryd.prog 36 #[.pointer (some ⟨R, 0, none⟩)] w fun e w' => e = .returned (.int .i64 ((8 * bs.length - n : Nat) : Int)) ∧ ∃ m, w' = w.drewN m := by
  obtain ⟨hR, v, hh, hown⟩ := h
  obtain ⟨c0, c1, f0, f1⟩ := cells2 hh
  clear f0 f1
  obtain ⟨a, cap, rfl⟩ := own_slice hown
  clear hown hh
  go_enter Tryd.func36, Tryd.ntmps36
  go_wp2
  go_quiet (fail)
  go_wp2
  go_ret
  exact ⟨ret_i64 (by omega), _, rfl⟩
end Go.Proofs.YtdfefhoihpbldaaDoor
