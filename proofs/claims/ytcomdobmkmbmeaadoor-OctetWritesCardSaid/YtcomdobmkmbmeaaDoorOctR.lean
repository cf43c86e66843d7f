/- A reader of bytes as it lies in memory: Read, Err, Left, take, Num, Int, Text, Raw, End, walked where nothing fails. -/
import Derived.Test.YtcomdobmkmbmeaaDoorOctPut
namespace Go.Proofs.YtcomdobmkmbmeaaDoor
open Go.RowKit

/-- a slice of these bytes, in a block from B on -/
def LiesFrom (B : Nat) (w : World) (v : Value) (bs : List Nat) : Prop :=
  (v = .slice none 0 0 ∧ bs = []) ∨ (∃ a cap, v = .slice (some a) 0 cap ∧ bs = []) ∨ ∃ b off cap, v = .slice (some ⟨b, off, none⟩) bs.length cap ∧ bs.length < cap + 1 ∧ B ≤ b ∧ BytesAt w b off bs ∧ bs ≠ []
theorem LiesFrom.lies {B : Nat} {w : World} {v : Value} {bs : List Nat} (h : LiesFrom B w v bs) : Lies w v bs := by
  rcases h with h | h | ⟨b, off, cap, h, _, _, hc, _⟩
  · exact .inl h
  · exact .inr (.inl h)
  · exact .inr (.inr ⟨b, off, cap, h, hc⟩)
theorem LiesFrom.of_row {B : Nat} {w : World} {v : Value} {bs : List Nat} (h : w.ownsRow B 5 1 v bs.length (u8s bs)) : LiesFrom B w v bs := by
  rcases h.2 with ⟨rfl, h0⟩ | ⟨g, cap, cur, rfl, hB, hg, hnc, _⟩
  · exact .inl ⟨rfl, List.length_eq_zero_iff.1 h0⟩
  · by_cases hb : bs = []
    · exact .inr (.inl ⟨_, cap, by rw [hb]; rfl, hb⟩)
    · refine .inr (.inr ⟨g, 0, cap, rfl, by omega, hB, fun j hj => ?_, hb⟩)
      rw [Nat.zero_add, h.cellAt j (by omega), u8s_getD bs j hj]
theorem LiesFrom.only {B : Nat} {w w' : World} {v : Value} {bs : List Nat} {S : Nat → Prop} (h : LiesFrom B w v bs) (ho : Only S w w') (hS : ∀ b off j x, B ≤ b → w.cell? ⟨b, off + j, none⟩ = some (.int .u8 x) → ¬ S b) : LiesFrom B w' v bs := by
  rcases h with h | h | ⟨b, off, cap, h, hl, hB, hc, hb⟩
  · exact .inl h
  · exact .inr (.inl h)
  · refine .inr (.inr ⟨b, off, cap, h, hl, hB, fun j hj => ?_, hb⟩)
    have h1 := hc j hj
    rw [← h1]
    exact World.cell?_of_block (w := w) (ho.block b (by have := cell_lt h1; exact this) (hS b off j _ hB h1))

/-- A reader at block R: no error so far, these bytes are left. -/
def OReaderAt (B : Nat) (w : World) (R : Nat) (bs : List Nat) : Prop :=
  B ≤ R ∧ ∃ v, w.heap[R]? = some (.cells #[v, .int .i64 0] 53 (0, 0)) ∧ LiesFrom B w v bs
theorem OReaderAt.beyond {B : Nat} {w w' : World} {R : Nat} {bs : List Nat} (h : OReaderAt B w R bs) (hb : Below w.heap.size w w') : OReaderAt B w' R bs := by
  obtain ⟨hR, v, hh, hl⟩ := h
  exact ⟨hR, v, (hb.block R (lt_of_block hh)).trans hh, hl.only (only_beyond (S := fun _ => False) hb) (fun _ _ _ _ _ _ h => h)⟩
/-- the reader's own cell is no byte -/
theorem OReaderAt.far {B : Nat} {w : World} {R : Nat} {bs : List Nat} {v : Value} (hh : w.heap[R]? = some (.cells #[v, .int .i64 0] 53 (0, 0))) (hl : LiesFrom B w v bs) : ∀ b off j x, B ≤ b → w.cell? ⟨b, off + j, none⟩ = some (.int .u8 x) → b ≠ R := by
  rintro b off j x _ hc rfl
  simp only [World.cell?, hh] at hc
  have h3 : off + j = 0 ∨ off + j = 1 ∨ 2 ≤ off + j := by omega
  rcases h3 with h3 | h3 | h3
  · rw [h3] at hc
    rcases hl with ⟨rfl, _⟩ | ⟨_, _, rfl, _⟩ | ⟨_, _, _, rfl, _⟩ <;> simp at hc
  · rw [h3] at hc; simp at hc
  · rw [Array.getElem?_eq_none (by simpa using h3)] at hc; simp at hc
/-- the reader behind a store of its bytes -/
theorem OReaderAt.set {B : Nat} {w : World} {R : Nat} {bs bs' : List Nat} {v v' : Value} (hR : B ≤ R) (hh : w.heap[R]? = some (.cells #[v, .int .i64 0] 53 (0, 0))) (hl : LiesFrom B w v bs) (hl' : LiesFrom B w v' bs') :
    OReaderAt B (w.setCell ⟨R, 0, none⟩ v') R bs' ∧ Only (fun k => k = R) w (w.setCell ⟨R, 0, none⟩ v') := by
  have ho : Only (fun k => k = R) w (w.setCell ⟨R, 0, none⟩ v') := Only.setCell (S := fun k => k = R) _ rfl _
  refine ⟨⟨hR, v', ?_, hl'.only ho (OReaderAt.far hh hl)⟩, ho⟩
  rw [heap_setCell_same w R 0 _ _ _ hh]; simp

set_option maxHeartbeats 1000000 in
theorem oread_any {w : World} {v : Value} {bs : List Nat} (h : Lies w v bs) (hbig : bs.length ≤ 1000000000) :
    Calls Tryd.prog 13 #[v] w fun e w' => ∃ R, e = .returned (.pointer (some ⟨R, 0, none⟩)) ∧ OReaderAt w.heap.size w' R bs ∧ Below w.heap.size w w' := by
  have HL := Lib.hid h
  clear h
  go_enter Tryd.func13, Tryd.ntmps13
  go_wp2_with (go_at_call 23; refine (clone_any HL.out hbig).mono ?_; rintro e w' ⟨v', rfl, hown', hbel⟩; obtain ⟨a', c', rfl⟩ := own_slice hown')
  go_ret
  exact ⟨_, rfl, ⟨hbel.size, _, heap_alloc_new _ _, LiesFrom.of_row (hown'.alloc _)⟩, hbel.alloc hbel.size _⟩

theorem oerr_ok {B : Nat} {w : World} {R : Nat} {bs : List Nat} (h : OReaderAt B w R bs) : Calls Tryd.prog 18 #[.pointer (some ⟨R, 0, none⟩)] w fun e w' => e = .returned (.int .i64 0) ∧ w = w' := by
  obtain ⟨_, v, hh, _⟩ := h
  obtain ⟨c0, c1, f0, f1⟩ := cells2 hh
  clear hh f0 f1
  go_enter Tryd.func18, Tryd.ntmps18
  go_wp2
  go_ret
  exact ⟨rfl, rfl⟩

theorem oleft_ok {B : Nat} {w : World} {R : Nat} {bs : List Nat} (h : OReaderAt B w R bs) : Calls Tryd.prog 27 #[.pointer (some ⟨R, 0, none⟩)] w fun e w' => e = .returned (.int .i64 (bs.length : Int)) ∧ w = w' := by
  obtain ⟨_, v, hh, hl⟩ := h
  obtain ⟨c0, c1, f0, f1⟩ := cells2 hh
  obtain ⟨a, cap, rfl⟩ : ∃ a cap, v = .slice a bs.length cap := by
    rcases hl with ⟨rfl, rfl⟩ | ⟨a, cap, rfl, rfl⟩ | ⟨b, off, cap, rfl, _⟩ <;> exact ⟨_, _, rfl⟩
  clear hh f0 f1 hl
  go_enter Tryd.func27, Tryd.ntmps27
  go_wp2
  go_ret
  exact ⟨rfl, rfl⟩

theorem oend_ok {B : Nat} {w : World} {R : Nat} (h : OReaderAt B w R []) : Calls Tryd.prog 19 #[.pointer (some ⟨R, 0, none⟩)] w fun e w' => e = .returned (.int .i64 0) ∧ w = w' := by
  have H := Lib.hid h
  clear h
  go_enter Tryd.func19, Tryd.ntmps19
  go_wp2_with (first | (go_at_call 18; refine (oerr_ok H.out).mono ?_; rintro e w' ⟨rfl, rfl⟩) | (go_at_call 27; refine (oleft_ok H.out).mono ?_; rintro e w' ⟨rfl, rfl⟩))
  go_ret
  exact ⟨rfl, rfl⟩

/-- what take leaves -/
def Took (B : Nat) (w : World) (R : Nat) (bs : List Nat) (n : Nat) (v' : Value) (w' : World) : Prop :=
  Lies w' v' (bs.take n) ∧ OReaderAt B w' R (bs.drop n) ∧ Only (fun k => k = R) w w'

theorem took_of {B : Nat} {w : World} {R n : Nat} {bs : List Nat} {v v1 v2 : Value} (hR : B ≤ R) (hh : w.heap[R]? = some (.cells #[v, .int .i64 0] 53 (0, 0))) (hl : LiesFrom B w v bs)
    (h1 : LiesFrom B w v1 (bs.take n)) (h2 : LiesFrom B w v2 (bs.drop n)) : Took B w R bs n v1 (w.setCell ⟨R, 0, none⟩ v2) := by
  obtain ⟨h3, h4⟩ := OReaderAt.set hR hh hl h2
  exact ⟨(h1.only h4 (OReaderAt.far hh hl)).lies, h3, h4⟩
theorem bytesAt_take {w : World} {b off : Nat} {bs : List Nat} (n : Nat) (h : BytesAt w b off bs) : BytesAt w b off (bs.take n) := fun j hj => by
  have hj' : j < n ∧ j < bs.length := by rw [List.length_take] at hj; omega
  rw [h j hj'.2]; simp [List.getD, hj'.1]
theorem bytesAt_drop {w : World} {b off : Nat} {bs : List Nat} (n : Nat) (h : BytesAt w b off bs) : BytesAt w b (off + n) (bs.drop n) := fun j hj => by
  have hj' : j < bs.length - n := by simpa using hj
  rw [Nat.add_assoc, h (n + j) (by omega)]; simp [List.getD, List.getElem?_drop]
theorem liesFrom_take {B : Nat} {w : World} {b off cap n : Nat} {bs : List Nat} (hn : n ≤ bs.length) (hcap : bs.length < cap + 1) (hB : B ≤ b) (hc : BytesAt w b off bs) : LiesFrom B w (.slice (some ⟨b, off, none⟩) n cap) (bs.take n) := by
  by_cases h0 : n = 0
  · subst h0; exact .inr (.inl ⟨_, cap, rfl, by simp⟩)
  · refine .inr (.inr ⟨b, off, cap, by rw [List.length_take, Nat.min_eq_left hn], by rw [List.length_take]; omega, hB, bytesAt_take n hc, fun h => ?_⟩)
    have h2 : (bs.take n).length = 0 := by rw [h]; rfl
    rw [List.length_take] at h2; omega
theorem liesFrom_drop {B : Nat} {w : World} {b off cap n : Nat} {bs : List Nat} (hn : n ≤ bs.length) (hcap : bs.length < cap + 1) (hB : B ≤ b) (hc : BytesAt w b off bs) : LiesFrom B w (.slice (some ⟨b, off + n, none⟩) (bs.length - n) (cap - n)) (bs.drop n) := by
  by_cases h0 : bs.length - n = 0
  · exact .inr (.inl ⟨_, cap - n, by rw [h0], List.drop_eq_nil_of_le (by omega)⟩)
  · refine .inr (.inr ⟨b, off + n, cap - n, by rw [List.length_drop], by rw [List.length_drop]; omega, hB, bytesAt_drop n hc, fun h => ?_⟩)
    have h2 : (bs.drop n).length = 0 := by rw [h]; rfl
    rw [List.length_drop] at h2; omega

set_option maxHeartbeats 1000000 in
theorem take_ok {B : Nat} {w : World} {R n : Nat} {bs : List Nat} (h : OReaderAt B w R bs) (hn : n ≤ bs.length) (hbig : bs.length ≤ 1000000000) :
    Calls Tryd.prog 25 #[.pointer (some ⟨R, 0, none⟩), .int .i64 (n : Int)] w fun e w' => ∃ v', e = .returned v' ∧ Took B w R bs n v' w' := by
  have H := Lib.hid h
  obtain ⟨hR, v, hh, hl⟩ := h
  obtain ⟨c0, c1, f0, f1⟩ := cells2 hh
  have HH := Lib.hid hh
  have HL := Lib.hid hl
  clear hh
  rcases hl with ⟨rfl, rfl⟩ | ⟨a, cap, rfl, rfl⟩ | ⟨b, off, cap, rfl, hcap, hB, hc, hne⟩
  · obtain rfl : n = 0 := by simpa using hn
    go_enter Tryd.func25, Tryd.ntmps25
    go_wp2_with (go_at_call 18; refine (oerr_ok H.out).mono ?_; rintro e w' ⟨rfl, rfl⟩)
    go_ret
    exact ⟨_, rfl, took_of hR HH.out HL.out (.inl ⟨rfl, by simp⟩) (.inl ⟨rfl, by simp⟩)⟩
  · obtain rfl : n = 0 := by simpa using hn
    go_enter Tryd.func25, Tryd.ntmps25
    go_wp2_with (go_at_call 18; refine (oerr_ok H.out).mono ?_; rintro e w' ⟨rfl, rfl⟩)
    go_ret
    exact ⟨_, rfl, took_of hR HH.out HL.out (.inr (.inl ⟨_, _, rfl, by simp⟩)) (.inr (.inl ⟨_, _, rfl, by simp⟩))⟩
  · have t0 : decide ((n : Int) < 0) = false := by simp
    have t2 : decide ((bs.length : Int) < n) = false := by simp; omega
    have hnc : n ≤ cap := by omega
    have h1 := Lib.hid (liesFrom_take hn hcap hB hc)
    have h2 := Lib.hid (liesFrom_drop hn hcap hB hc)
    have HC := Lib.hid hcap
    have HN := Lib.hid hn
    have h0 : (0 : Int) ≤ n := by omega
    clear hcap hB hc hne
    by_cases hcn : cap = n
    · subst hcn
      go_enter Tryd.func25, Tryd.ntmps25
      go_wp2_with (go_at_call 18; refine (oerr_ok H.out).mono ?_; rintro e w' ⟨rfl, rfl⟩)
      go_ret
      have e1 : bs.length - cap = 0 := by have := HC.out; omega
      refine ⟨_, rfl, took_of hR HH.out HL.out h1.out ?_⟩
      rw [e1]
      exact .inr (.inl ⟨_, _, rfl, List.drop_eq_nil_of_le (by omega)⟩)
    · go_enter Tryd.func25, Tryd.ntmps25
      go_wp2_with (go_at_call 18; refine (oerr_ok H.out).mono ?_; rintro e w' ⟨rfl, rfl⟩)
      go_ret
      exact ⟨_, rfl, took_of hR HH.out HL.out h1.out h2.out⟩
end Go.Proofs.YtcomdobmkmbmeaaDoor
