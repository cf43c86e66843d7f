/- OctN, OctRd, NumWid, OctW, OctPt: laid into one. -/
import Derived.Test.YtcdgbmeechnpiaaDoorMA
import Derived.Test.YtcdgbmeechnpiaaDoorRows
import Derived.WalkKit
import Derived.WalkSpells
import Derived.WalkLawsBesides
import Derived.Lib.Hide
import Derived.Lib.LaidTab
import Derived.StillTailTactics
import Derived.Deep.QuietTactic
import Derived.Deep.RegionLaw
import Derived.Deep.AppendLies
/- Widths of numbers, and a number as bytes. -/
namespace Go.Proofs.YtcdgbmeechnpiaaDoor
open Go.RowKit

def Wide (n : Int) : Prop := n = 1 ∨ n = 2 ∨ n = 4 ∨ n = 8
theorem owidth_yes {n : Int} (h : Wide n) (w : World) : Calls Tryd.prog 70 #[.int .i64 n] w fun e w' => e = .returned (.bool true) ∧ w = w' := by
  rcases h with rfl | rfl | rfl | rfl
  all_goals
    go_enter Tryd.func70, Tryd.ntmps70
    go_wp2
    go_ret
    exact ⟨rfl, rfl⟩
theorem not_wide {n : Int} (h : ¬ Wide n) : (n == 1) = false ∧ (n == 2) = false ∧ (n == 4) = false ∧ (n == 8) = false := by
  unfold Wide at h
  refine ⟨?_, ?_, ?_, ?_⟩ <;> simp <;> omega
theorem owidth_no {n : Int} (h : ¬ Wide n) (w : World) : Calls Tryd.prog 70 #[.int .i64 n] w fun e w' => e = .returned (.bool false) ∧ w = w' := by
  obtain ⟨h1, h2, h3, h4⟩ := not_wide h
  clear h
  go_enter Tryd.func70, Tryd.ntmps70
  go_wp2
  go_ret
  exact ⟨rfl, rfl⟩
/-- the highest first -/
def numB (x : Nat) : Nat → List Nat
  | 0 => []
  | n + 1 => x / 256 ^ n % 256 :: numB x n
theorem numB_length (x n : Nat) : (numB x n).length = n := by
  induction n with
  | zero => rfl
  | succ n ih => simp [numB, ih]
theorem numB_get (x n i : Nat) (h : i < n) : (numB x n)[i]? = some (x / 256 ^ (n - 1 - i) % 256) := by
  induction n generalizing i with
  | zero => omega
  | succ n ih =>
    cases i with
    | zero => simp [numB]
    | succ i => simp only [numB, List.getElem?_cons_succ]; rw [ih i (by omega), show n + 1 - 1 - (i + 1) = n - 1 - i by omega]
theorem numB_take (x n k : Nat) (h : k < n) : (numB x n).take (k + 1) = (numB x n).take k ++ [x / 256 ^ (n - 1 - k) % 256] := by
  rw [List.take_add_one, numB_get x n k h]; rfl
theorem numB_small (x n : Nat) : ∀ b ∈ numB x n, b < 256 := by
  induction n with
  | zero => simp [numB]
  | succ n ih =>
    intro b hb
    rcases List.mem_cons.1 hb with rfl | hb
    · exact Nat.mod_lt _ (by omega)
    · exact ih b hb
end Go.Proofs.YtcdgbmeechnpiaaDoor
/- A reader of bytes as it lies in memory: Read, Err, take, Num, Int, Raw, walked where nothing fails; what was put is got. -/
namespace Go.Proofs.YtcdgbmeechnpiaaDoor
open Go.RowKit

/-- a slice of these bytes, in a block from B on -/
def LiesFrom (B : Nat) (w : World) (v : Value) (bs : List Nat) : Prop :=
  (v = .slice none 0 0 ∧ bs = []) ∨ (∃ a cap, v = .slice (some a) 0 cap ∧ bs = []) ∨ ∃ b off cap, v = .slice (some ⟨b, off, none⟩) bs.length cap ∧ bs.length < cap + 1 ∧ B ≤ b ∧ BytesAt w b off bs ∧ bs ≠ []
theorem LiesFrom.lies {B : Nat} {w : World} {v : Value} {bs : List Nat} (h : LiesFrom B w v bs) : Lies w v bs := by
  rcases h with h | h | ⟨b, off, cap, h, _, _, hc, _⟩
  · exact .inl h
  · exact .inr (.inl h)
  · exact .inr (.inr ⟨b, off, cap, h, hc⟩)
theorem LiesFrom.of_row {B : Nat} {w : World} {v : Value} {bs : List Nat} (h : w.ownsRow B 5 1 v bs.length (u8s bs)) : LiesFrom B w v bs := by
  rcases h.2 with ⟨rfl, h0⟩ | ⟨g, cap, cur, rfl, hB, hg, hnc, _⟩
  · exact .inl ⟨rfl, List.length_eq_zero_iff.1 h0⟩
  · by_cases hb : bs = []
    · exact .inr (.inl ⟨_, cap, by rw [hb]; rfl, hb⟩)
    · refine .inr (.inr ⟨g, 0, cap, rfl, by omega, hB, fun j hj => ?_, hb⟩)
      rw [Nat.zero_add, h.cellAt j (by omega), u8s_getD bs j hj]
theorem LiesFrom.only {B : Nat} {w w' : World} {v : Value} {bs : List Nat} {S : Nat → Prop} (h : LiesFrom B w v bs) (ho : Only S w w') (hS : ∀ b off j x, B ≤ b → w.cell? ⟨b, off + j, none⟩ = some (.int .u8 x) → ¬ S b) : LiesFrom B w' v bs := by
  rcases h with h | h | ⟨b, off, cap, h, hl, hB, hc, hb⟩
  · exact .inl h
  · exact .inr (.inl h)
  · refine .inr (.inr ⟨b, off, cap, h, hl, hB, fun j hj => ?_, hb⟩)
    have h1 := hc j hj
    rw [← h1]
    exact World.cell?_of_block (w := w) (ho.block b (by have := cell_lt h1; exact this) (hS b off j _ hB h1))
/-- A reader at block R: no error so far, these bytes are left. -/
def OReaderAt (B : Nat) (w : World) (R : Nat) (bs : List Nat) : Prop :=
  B ≤ R ∧ ∃ v, w.heap[R]? = some (.cells #[v, .int .i64 0] 118 (0, 0)) ∧ LiesFrom B w v bs
theorem OReaderAt.beyond {B : Nat} {w w' : World} {R : Nat} {bs : List Nat} (h : OReaderAt B w R bs) (hb : Below w.heap.size w w') : OReaderAt B w' R bs := by
  obtain ⟨hR, v, hh, hl⟩ := h
  exact ⟨hR, v, (hb.block R (lt_of_block hh)).trans hh, hl.only (only_beyond (S := fun _ => False) hb) (fun _ _ _ _ _ _ h => h)⟩
/-- the reader's own cell is no byte -/
theorem OReaderAt.far {B : Nat} {w : World} {R : Nat} {bs : List Nat} {v : Value} (hh : w.heap[R]? = some (.cells #[v, .int .i64 0] 118 (0, 0))) (hl : LiesFrom B w v bs) : ∀ b off j x, B ≤ b → w.cell? ⟨b, off + j, none⟩ = some (.int .u8 x) → b ≠ R := by
  rintro b off j x _ hc rfl
  simp only [World.cell?, hh] at hc
  have h3 : off + j = 0 ∨ off + j = 1 ∨ 2 ≤ off + j := by omega
  rcases h3 with h3 | h3 | h3
  · rw [h3] at hc
    rcases hl with ⟨rfl, _⟩ | ⟨_, _, rfl, _⟩ | ⟨_, _, _, rfl, _⟩ <;> simp at hc
  · rw [h3] at hc; simp at hc
  · rw [Array.getElem?_eq_none (by simpa using h3)] at hc; simp at hc
/-- the reader behind a store of its bytes -/
theorem OReaderAt.set {B : Nat} {w : World} {R : Nat} {bs bs' : List Nat} {v v' : Value} (hR : B ≤ R) (hh : w.heap[R]? = some (.cells #[v, .int .i64 0] 118 (0, 0))) (hl : LiesFrom B w v bs) (hl' : LiesFrom B w v' bs') :
    OReaderAt B (w.setCell ⟨R, 0, none⟩ v') R bs' ∧ Only (fun k => k = R) w (w.setCell ⟨R, 0, none⟩ v') := by
  have ho : Only (fun k => k = R) w (w.setCell ⟨R, 0, none⟩ v') := Only.setCell (S := fun k => k = R) _ rfl _
  refine ⟨⟨hR, v', ?_, hl'.only ho (OReaderAt.far hh hl)⟩, ho⟩
  rw [heap_setCell_same w R 0 _ _ _ hh]; simp
set_option maxHeartbeats 1000000 in
theorem oread_any {w : World} {v : Value} {bs : List Nat} (h : Lies w v bs) (hbig : bs.length ≤ 1000000000) :
    Calls Tryd.prog 57 #[v] w fun e w' => ∃ R, e = .returned (.pointer (some ⟨R, 0, none⟩)) ∧ OReaderAt w.heap.size w' R bs ∧ Below w.heap.size w w' := by
  have HL := Lib.hid h
  clear h
  go_enter Tryd.func57, Tryd.ntmps57
  go_wp2_with (go_at_call 66; refine (clone_any HL.out hbig).mono ?_; rintro e w' ⟨v', rfl, hown', hbel⟩; obtain ⟨a', c', rfl⟩ := own_slice hown')
  go_ret
  exact ⟨_, rfl, ⟨hbel.size, _, heap_alloc_new _ _, LiesFrom.of_row (hown'.alloc _)⟩, hbel.alloc hbel.size _⟩
theorem oerr_ok {B : Nat} {w : World} {R : Nat} {bs : List Nat} (h : OReaderAt B w R bs) : Calls Tryd.prog 79 #[.pointer (some ⟨R, 0, none⟩)] w fun e w' => e = .returned (.int .i64 0) ∧ w = w' := by
  obtain ⟨_, v, hh, _⟩ := h
  obtain ⟨c0, c1, f0, f1⟩ := cells2 hh
  clear hh f0 f1
  go_enter Tryd.func79, Tryd.ntmps79
  go_wp2
  go_ret
  exact ⟨rfl, rfl⟩
/-- what take leaves -/
def Took (B : Nat) (w : World) (R : Nat) (bs : List Nat) (n : Nat) (v' : Value) (w' : World) : Prop :=
  Lies w' v' (bs.take n) ∧ OReaderAt B w' R (bs.drop n) ∧ Only (fun k => k = R) w w'
theorem took_of {B : Nat} {w : World} {R n : Nat} {bs : List Nat} {v v1 v2 : Value} (hR : B ≤ R) (hh : w.heap[R]? = some (.cells #[v, .int .i64 0] 118 (0, 0))) (hl : LiesFrom B w v bs)
    (h1 : LiesFrom B w v1 (bs.take n)) (h2 : LiesFrom B w v2 (bs.drop n)) : Took B w R bs n v1 (w.setCell ⟨R, 0, none⟩ v2) := by
  obtain ⟨h3, h4⟩ := OReaderAt.set hR hh hl h2
  exact ⟨(h1.only h4 (OReaderAt.far hh hl)).lies, h3, h4⟩
theorem bytesAt_take {w : World} {b off : Nat} {bs : List Nat} (n : Nat) (h : BytesAt w b off bs) : BytesAt w b off (bs.take n) := fun j hj => by
  have hj' : j < n ∧ j < bs.length := by rw [List.length_take] at hj; omega
  rw [h j hj'.2]; simp [List.getD, hj'.1]
theorem bytesAt_drop {w : World} {b off : Nat} {bs : List Nat} (n : Nat) (h : BytesAt w b off bs) : BytesAt w b (off + n) (bs.drop n) := fun j hj => by
  have hj' : j < bs.length - n := by simpa using hj
  rw [Nat.add_assoc, h (n + j) (by omega)]; simp [List.getD, List.getElem?_drop]
theorem liesFrom_take {B : Nat} {w : World} {b off cap n : Nat} {bs : List Nat} (hn : n ≤ bs.length) (hcap : bs.length < cap + 1) (hB : B ≤ b) (hc : BytesAt w b off bs) : LiesFrom B w (.slice (some ⟨b, off, none⟩) n cap) (bs.take n) := by
  by_cases h0 : n = 0
  · subst h0; exact .inr (.inl ⟨_, cap, rfl, by simp⟩)
  · refine .inr (.inr ⟨b, off, cap, by rw [List.length_take, Nat.min_eq_left hn], by rw [List.length_take]; omega, hB, bytesAt_take n hc, fun h => ?_⟩)
    have h2 : (bs.take n).length = 0 := by rw [h]; rfl
    rw [List.length_take] at h2; omega
theorem liesFrom_drop {B : Nat} {w : World} {b off cap n : Nat} {bs : List Nat} (hn : n ≤ bs.length) (hcap : bs.length < cap + 1) (hB : B ≤ b) (hc : BytesAt w b off bs) : LiesFrom B w (.slice (some ⟨b, off + n, none⟩) (bs.length - n) (cap - n)) (bs.drop n) := by
  by_cases h0 : bs.length - n = 0
  · exact .inr (.inl ⟨_, cap - n, by rw [h0], List.drop_eq_nil_of_le (by omega)⟩)
  · refine .inr (.inr ⟨b, off + n, cap - n, by rw [List.length_drop], by rw [List.length_drop]; omega, hB, bytesAt_drop n hc, fun h => ?_⟩)
    have h2 : (bs.drop n).length = 0 := by rw [h]; rfl
    rw [List.length_drop] at h2; omega
set_option maxHeartbeats 1000000 in
theorem take_ok {B : Nat} {w : World} {R n : Nat} {bs : List Nat} (h : OReaderAt B w R bs) (hn : n ≤ bs.length) (hbig : bs.length ≤ 1000000000) :
    Calls Tryd.prog 72 #[.pointer (some ⟨R, 0, none⟩), .int .i64 (n : Int)] w fun e w' => ∃ v', e = .returned v' ∧ Took B w R bs n v' w' := by
  have H := Lib.hid h
  obtain ⟨hR, v, hh, hl⟩ := h
  obtain ⟨c0, c1, f0, f1⟩ := cells2 hh
  have HH := Lib.hid hh
  have HL := Lib.hid hl
  clear hh
  rcases hl with ⟨rfl, rfl⟩ | ⟨a, cap, rfl, rfl⟩ | ⟨b, off, cap, rfl, hcap, hB, hc, hne⟩
  · obtain rfl : n = 0 := by simpa using hn
    go_enter Tryd.func72, Tryd.ntmps72
    go_wp2_with (go_at_call 79; refine (oerr_ok H.out).mono ?_; rintro e w' ⟨rfl, rfl⟩)
    go_ret
    exact ⟨_, rfl, took_of hR HH.out HL.out (.inl ⟨rfl, by simp⟩) (.inl ⟨rfl, by simp⟩)⟩
  · obtain rfl : n = 0 := by simpa using hn
    go_enter Tryd.func72, Tryd.ntmps72
    go_wp2_with (go_at_call 79; refine (oerr_ok H.out).mono ?_; rintro e w' ⟨rfl, rfl⟩)
    go_ret
    exact ⟨_, rfl, took_of hR HH.out HL.out (.inr (.inl ⟨_, _, rfl, by simp⟩)) (.inr (.inl ⟨_, _, rfl, by simp⟩))⟩
  · have t0 : decide ((n : Int) < 0) = false := by simp
    have t2 : decide ((bs.length : Int) < n) = false := by simp; omega
    have hnc : n ≤ cap := by omega
    have h1 := Lib.hid (liesFrom_take hn hcap hB hc)
    have h2 := Lib.hid (liesFrom_drop hn hcap hB hc)
    have HC := Lib.hid hcap
    have HN := Lib.hid hn
    have h0 : (0 : Int) ≤ n := by omega
    clear hcap hB hc hne
    by_cases hcn : cap = n
    · subst hcn
      go_enter Tryd.func72, Tryd.ntmps72
      go_wp2_with (go_at_call 79; refine (oerr_ok H.out).mono ?_; rintro e w' ⟨rfl, rfl⟩)
      go_ret
      have e1 : bs.length - cap = 0 := by have := HC.out; omega
      refine ⟨_, rfl, took_of hR HH.out HL.out h1.out ?_⟩
      rw [e1]
      exact .inr (.inl ⟨_, _, rfl, List.drop_eq_nil_of_le (by omega)⟩)
    · go_enter Tryd.func72, Tryd.ntmps72
      go_wp2_with (go_at_call 79; refine (oerr_ok H.out).mono ?_; rintro e w' ⟨rfl, rfl⟩)
      go_ret
      exact ⟨_, rfl, took_of hR HH.out HL.out h1.out h2.out⟩
/-- bytes as a number, the highest first -/
def valB (l : List Nat) : Nat := l.foldl (fun a b => 256 * a + b) 0
theorem valB_snoc (l : List Nat) (b : Nat) : valB (l ++ [b]) = 256 * valB l + b := by simp [valB]
theorem valB_take (l : List Nat) (k : Nat) (h : k < l.length) : valB (l.take (k + 1)) = 256 * valB (l.take k) + l.getD k 0 := by
  rw [List.take_add_one, List.getElem?_eq_getElem h, Option.toList_some, valB_snoc]; simp [List.getD, List.getElem?_eq_getElem h]
theorem valB_lt (l : List Nat) (hb : ∀ x ∈ l, x < 256) (k : Nat) (hk : k ≤ l.length) : valB (l.take k) < 256 ^ k := by
  induction k with
  | zero => simp [valB]
  | succ k ih =>
    rw [valB_take l k (by omega), Nat.pow_succ]
    have h1 := ih (by omega)
    have h2 : l.getD k 0 < 256 := by
      have h3 : k < l.length := by omega
      simp [List.getD, List.getElem?_eq_getElem h3]; exact hb _ (List.getElem_mem h3)
    omega
theorem valB_num {x n : Nat} (hx : x < 256 ^ n) (k : Nat) (hk : k ≤ n) : valB ((numB x n).take k) = x / 256 ^ (n - k) := by
  induction k with
  | zero => rw [Nat.sub_zero, Nat.div_eq_of_lt hx]; rfl
  | succ k ih =>
    rw [valB_take _ k (by rw [numB_length]; omega), ih (by omega)]
    have h1 : (numB x n).getD k 0 = x / 256 ^ (n - 1 - k) % 256 := by simp [List.getD, numB_get x n k (by omega)]
    rw [h1, show n - 1 - k = n - (k + 1) by omega, show n - k = n - (k + 1) + 1 by omega, Nat.pow_succ, ← Nat.div_div_eq_div_mul]
    generalize x / 256 ^ (n - (k + 1)) = y
    omega
/-- what was put is got -/
theorem valB_numB {x n : Nat} (hx : x < 256 ^ n) : valB (numB x n) = x := by
  have h := valB_num hx n (Nat.le_refl _)
  rw [List.take_of_length_le (by rw [numB_length]; omega)] at h
  rw [h]; simp
theorem lies_some {w : World} {v : Value} {bs : List Nat} (h : Lies w v bs) (hb : 0 < bs.length) : ∃ b off cap, v = .slice (some ⟨b, off, none⟩) bs.length cap ∧ BytesAt w b off bs := by
  rcases h with ⟨_, rfl⟩ | ⟨_, _, _, rfl⟩ | ⟨b, off, cap, h, hc⟩
  · simp at hb
  · simp at hb
  · exact ⟨b, off, cap, h, hc⟩
theorem or_byte {x b : Nat} (hx : 256 * x < 18446744073709551616) (hb : b < 256) : bits .or .u64 (IntKind.u64.wrap ((x : Int) * 256)) (b : Int) = ((256 * x + b : Nat) : Int) := by
  simp only [IntKind.wrap_u64]
  have h1 : ((x : Int) * 256 % 18446744073709551616) = ((x * 256 : Nat) : Int) := by omega
  rw [h1, u64_or_nat _ _ (by omega) (by omega), nat_join 8 _ _ (by omega) (by omega)]
  omega
set_option maxHeartbeats 1000000 in
theorem onum_ok {B : Nat} {w : World} {R n : Nat} {bs : List Nat} (h : OReaderAt B w R bs) (hn : Wide n) (hl : n ≤ bs.length) (hb : ∀ x ∈ bs, x < 256) (hbig : bs.length ≤ 1000000000) :
    Calls Tryd.prog 59 #[.pointer (some ⟨R, 0, none⟩), .int .i64 (n : Int)] w fun e w' => e = .returned (.int .u64 ((valB (bs.take n) : Nat) : Int)) ∧ OReaderAt B w' R (bs.drop n) ∧ Only (fun k => k = R) w w' := by
  have H := Lib.hid h
  have HN := Lib.hid hn
  have HB := Lib.hid hb
  have hn8 : 0 < n ∧ n ≤ 8 := by unfold Wide at hn; omega
  clear h hn hb
  go_enter Tryd.func59, Tryd.ntmps59
  go_wp2_with (go_at_call 70; refine (owidth_yes HN.out _).mono ?_; rintro e w' ⟨rfl, rfl⟩)
  refine (take_ok H.out hl hbig).mono ?_
  rintro e w' ⟨v', rfl, hlies, hr, ho⟩
  have htl : (bs.take n).length = n := by rw [List.length_take]; omega
  obtain ⟨b, off, cap, rfl, hc⟩ := lies_some hlies (by omega)
  rw [htl]
  have hts : Hid (∀ x ∈ bs.take n, x < 256) := Lib.hid fun x hx => HB.out x (List.mem_of_mem_take hx)
  obtain ⟨ts, hte⟩ : ∃ ts, ts = bs.take n := ⟨_, rfl⟩
  rw [← hte] at htl hc hts
  have HTE := Lib.hid hte
  have HC := Lib.hid hc
  have HR := Lib.hid hr
  have HO := Lib.hid ho
  clear hc hr ho hlies H HN hl HB hte
  go_wp2_with fail
  go_loop [5, 17] (fun x i => ∃ q : Nat, q ≤ n ∧ i = .int .i64 q ∧ x = .int .u64 ((valB (ts.take q) : Nat) : Int)) (fun _ i => n - (intOf i).toNat)
  case atStart => exact ⟨0, by omega, rfl, rfl⟩
  case round =>
    obtain ⟨q, hq, rfl, rfl⟩ := hrel
    by_cases hlt : q < n
    · have hcell := HC.out q (by omega)
      have hv := valB_lt ts hts.out q (by omega)
      have hv2 : 256 * valB (ts.take q) < 18446744073709551616 := by
        have h1 : (256 : Nat) ^ (q + 1) ≤ 256 ^ 8 := Nat.pow_le_pow_right (by omega) (by omega)
        rw [Nat.pow_succ] at h1
        have h2 : (256 : Nat) ^ 8 = 18446744073709551616 := by decide
        omega
      have hx : ts.getD q 0 < 256 := by
        have h3 : q < ts.length := by omega
        simp [List.getD, List.getElem?_eq_getElem h3]; exact hts.out _ (List.getElem_mem h3)
      have HV := Lib.hid (valB_take ts q (by omega))
      have HOR := Lib.hid (or_byte hv2 hx)
      generalize ts.getD q 0 = y at *
      clear hv hv2
      go_wp2
      go_round
      case rel => exact ⟨q + 1, by omega, by go_num, by rw [HOR.out, HV.out]⟩
      case measure => simp [intOf]; omega
    · obtain rfl : q = n := by omega
      go_wp2
      go_ret
      exact ⟨by rw [← HTE.out, List.take_of_length_le (by omega)]; rfl, HR.out, HO.out⟩
theorem drop_small {bs : List Nat} (n : Nat) (hb : ∀ x ∈ bs, x < 256) : ∀ x ∈ bs.drop n, x < 256 := fun x hx => hb x (List.mem_of_mem_drop hx)
set_option maxHeartbeats 1000000 in
theorem oraw_ok {B : Nat} {w : World} {R n : Nat} {bs : List Nat} (h : OReaderAt B w R bs) (hl : n ≤ bs.length) (hbig : bs.length ≤ 1000000000) :
    Calls Tryd.prog 60 #[.pointer (some ⟨R, 0, none⟩), .int .i64 (n : Int)] w fun e w' => ∃ v', e = .returned v' ∧ w'.ownsRow w.heap.size 5 1 v' n (u8s (bs.take n)) ∧ OReaderAt B w' R (bs.drop n) ∧ Only (fun k => k = R) w w' := by
  have H := Lib.hid h
  have hlen : (bs.take n).length = n := by rw [List.length_take]; omega
  clear h
  go_enter Tryd.func60, Tryd.ntmps60
  go_wp2_with fail
  refine (take_ok H.out hl hbig).mono ?_
  rintro e w1 ⟨v, rfl, hlies, hr, ho⟩
  have HR := Lib.hid hr
  have HO := Lib.hid ho
  have HL := Lib.hid hlies
  clear hlies hr ho
  go_wp2_with fail
  refine (clone_any HL.out (by omega)).mono ?_
  rintro e w2 ⟨v2, rfl, hown, hbel⟩
  rw [hlen] at hown
  go_wp2
  go_ret
  exact ⟨_, rfl, row_base hown HO.out.size, HR.out.beyond hbel, HO.out.trans (only_beyond (S := fun _ => False) hbel) (fun _ _ h => h.elim)⟩
end Go.Proofs.YtcdgbmeechnpiaaDoor
/- Width of nums, walked: how often a number can be halved. -/
namespace Go.Proofs.YtcdgbmeechnpiaaDoor
open Go.RowKit

/-! ### Width -/

/-- how often a number can be halved -/
def wid (x : Nat) : Nat := if x = 0 then 0 else Nat.log2 x + 1
theorem wid_half {x : Nat} (h : 0 < x) : wid x = wid (x / 2) + 1 := by
  unfold wid
  by_cases h1 : x = 1
  · subst h1; decide
  · rw [if_neg (by omega), if_neg (by omega), Nat.log2_def, if_pos (by omega)]
theorem wid_zero : wid 0 = 0 := by decide
theorem wid_shift (s : Nat) {x : Nat} (h : 0 < x / 2 ^ s) : wid x = s + wid (x / 2 ^ s) := by
  induction s with
  | zero => simp
  | succ s ih =>
    have h1 : x / 2 ^ (s + 1) = x / 2 ^ s / 2 := by rw [Nat.pow_succ, Nat.div_div_eq_div_mul]
    rw [h1] at h ⊢
    have h2 : 0 < x / 2 ^ s := by omega
    rw [ih h2, wid_half h2]; omega

/-- the table of steps, as it lies in memory -/
def stepRow : List Value := [.int .i64 32, .int .i64 16, .int .i64 8, .int .i64 4, .int .i64 2, .int .i64 1]
def StepsLaid (w : World) : Prop := ∀ j v, stepRow[j]? = some v → w.cell? ⟨0, j, none⟩ = some v

theorem StepsLaid.below {w w' : World} (h : StepsLaid w) (hb : Below w.heap.size w w') : StepsLaid w' := fun j v hv => by
  have h1 := h j v hv
  rw [← h1]; exact hb.cell (p := ⟨0, j, none⟩) (cell_lt h1)
theorem StepsLaid.alloc {w : World} (h : StepsLaid w) (o : Obj) : StepsLaid (w.alloc o) := h.below ((Below.refl _ _).alloc (Nat.le_refl _) o)
theorem tabFact_catacomb_nums_steps {w : World} (h : Lib.TabIs Tryd.prog w "catacomb/nums.steps" .i64 [32, 16, 8, 4, 2, 1]) : StepsLaid w := fun j v hv => by
  have h2 := World.var?_cell (show Tryd.prog.globalNamed "catacomb/nums.steps" = some 0 by kernel_rfl) h j
  rw [h2, ← hv]; simp [stepRow]
theorem run_steps {w : World} (h : StepsLaid w) : (loadVar 130 ⟨0, 0, none⟩).run Tryd.prog w = .ok (.agg stepRow.toArray) w := by
  have hl : (loadCells ⟨0, 0, none⟩ 6).run Tryd.prog w = .ok stepRow.toArray w :=
    run_loadCells_list (P := Tryd.prog) w ⟨0, 0, none⟩ stepRow (fun j v hv => by
      have hadd : (⟨0, 0, none⟩ : Addr).add j = ⟨0, j, none⟩ := by unfold Addr.add; split <;> simp_all
      rw [hadd]; exact h j v hv)
  have hagg : (isAgg 130).run Tryd.prog w = .ok true w := by
    unfold isAgg
    rw [Sem.run_bind, run_underlying Tryd.underlying130 w]
    rfl
  simp [loadVar, Sem.run_bind, hagg, hl]

theorem wpList_steps {ops : Array Oper} {rest : List Oper} {o : Oper} {a : Act} {w : World} {Q : Exit → Act → World → Prop} (h : StepsLaid w) (hgd : o.guard = none) (x : Operand) (ho : o.op = .load 130 x)
    (hx : a.eval x = .pointer (some ⟨0, 0, none⟩)) (hk : wpList Tryd.prog ops Q rest (a.put o.dst (.agg stepRow.toArray)) w) : wpList Tryd.prog ops Q (o :: rest) a w :=
  wpList_plain hgd fun K hK => by
    unfold Oper.wp execOp
    simp only [ho, hx, Instr.loadAt, Instr.sureAddr, Sem.run_bind, Sem.run_pure, Result.andThen_ok, run_steps h]
    exact hK _ _ hk

theorem step_at0 (w : World) : (Instr.index 130 (.agg stepRow.toArray) (.int .i64 0)).run Tryd.prog w = .ok (.int .i64 32) w := by kernel_rfl
theorem step_at1 (w : World) : (Instr.index 130 (.agg stepRow.toArray) (.int .i64 1)).run Tryd.prog w = .ok (.int .i64 16) w := by kernel_rfl
theorem step_at2 (w : World) : (Instr.index 130 (.agg stepRow.toArray) (.int .i64 2)).run Tryd.prog w = .ok (.int .i64 8) w := by kernel_rfl
theorem step_at3 (w : World) : (Instr.index 130 (.agg stepRow.toArray) (.int .i64 3)).run Tryd.prog w = .ok (.int .i64 4) w := by kernel_rfl
theorem step_at4 (w : World) : (Instr.index 130 (.agg stepRow.toArray) (.int .i64 4)).run Tryd.prog w = .ok (.int .i64 2) w := by kernel_rfl
theorem step_at5 (w : World) : (Instr.index 130 (.agg stepRow.toArray) (.int .i64 5)).run Tryd.prog w = .ok (.int .i64 1) w := by kernel_rfl

theorem wid_le (s : Nat) {x : Nat} (h : x < 2 ^ s) : wid x ≤ s := by
  unfold wid; split
  · omega
  · have := (Nat.log2_lt (by assumption)).2 h; omega

/-- what holds of Width's number, count and place, k steps behind the start -/
def WidAt (x : Nat) (k y n : Nat) : Prop := k ≤ 6 ∧ y < 2 ^ 2 ^ (6 - k) ∧ wid x = n + wid y ∧ wid x ≤ 64
theorem WidAt.big {x k y n : Nat} (h : WidAt x k y n) (hk : k < 6) (hb : (((y : Int) / (2 ^ 2 ^ (5 - k) : Nat)) != 0) = true) : WidAt x (k + 1) (y / 2 ^ 2 ^ (5 - k)) (n + 2 ^ (5 - k)) := by
  obtain ⟨h1, h2, h3, h4⟩ := h
  have hb' : 0 < y / 2 ^ 2 ^ (5 - k) := by
    rcases Nat.eq_zero_or_pos (y / 2 ^ 2 ^ (5 - k)) with e | e
    · exfalso
      have e' : ((y : Int) / (2 ^ 2 ^ (5 - k) : Nat)) = ((y / 2 ^ 2 ^ (5 - k) : Nat) : Int) := rfl
      rw [e', e] at hb; simp at hb
    · exact e
  refine ⟨by omega, ?_, ?_, h4⟩
  · rw [show 6 - (k + 1) = 5 - k by omega]
    refine Nat.div_lt_of_lt_mul ?_
    rw [← Nat.pow_add, show 2 ^ (5 - k) + 2 ^ (5 - k) = 2 ^ (6 - k) by rw [show 6 - k = (5 - k) + 1 by omega, Nat.pow_succ]; omega]
    exact h2
  · rw [h3, wid_shift _ hb']; omega
theorem WidAt.small {x k y n : Nat} (h : WidAt x k y n) (hk : k < 6) (hb : (((y : Int) / (2 ^ 2 ^ (5 - k) : Nat)) != 0) = false) : WidAt x (k + 1) y n := by
  obtain ⟨h1, h2, h3, h4⟩ := h
  have hb' : y / 2 ^ 2 ^ (5 - k) = 0 := by
    have e' : ((y : Int) / (2 ^ 2 ^ (5 - k) : Nat)) = ((y / 2 ^ 2 ^ (5 - k) : Nat) : Int) := rfl
    rw [e'] at hb; simp only [bne_eq_false_iff_eq] at hb; exact_mod_cast hb
  refine ⟨by omega, ?_, h3, h4⟩
  rw [show 6 - (k + 1) = 5 - k by omega]
  exact (Nat.div_eq_zero_iff_lt (Nat.two_pow_pos _)).1 hb'

set_option maxHeartbeats 2000000 in
theorem width_any {x : Nat} (hx : x < 18446744073709551616) (w : World) (hl : StepsLaid w) :
    Calls Tryd.prog 80 #[.int .u64 x] w fun e w' => e = .returned (.int .i64 (wid x)) ∧ w = w' := by
  go_enter Tryd.func80, Tryd.ntmps80
  go_wp2_with (refine wpList_steps hl rfl _ rfl rfl ?_)
  have H0 : Hid (WidAt x 0 x 0) := Lib.hid ⟨by omega, hx, by omega, wid_le 64 hx⟩
  clear hx
  go_loop [0, 3, 7] (fun a b c => ∃ k y n : Nat, WidAt x k y n ∧ a = .int .u64 y ∧ b = .int .i64 n ∧ c = .int .i64 k) (fun _ _ c => 6 - (intOf c).toNat)
  case atStart => exact ⟨0, x, 0, H0.out, rfl, rfl, rfl⟩
  case round =>
    obtain ⟨k, y, n, hR, rfl, rfl, rfl⟩ := hrel
    clear H0
    have hn : n ≤ 64 := by have h4 := hR.2.2.2; have h3 := hR.2.2.1; omega
    by_cases hk : k < 6
    · match k, hk with
      | 0, _ =>
        have ik := step_at0
        go_wp2
        all_goals go_round
        case rel => first | exact ⟨1, _, _, hR.big (by decide) ‹_›, rfl, by go_num, rfl⟩ | exact ⟨1, _, _, hR.small (by decide) ‹_›, rfl, rfl, rfl⟩
        case measure => simp [intOf]
        case rel => first | exact ⟨1, _, _, hR.big (by decide) ‹_›, rfl, by go_num, rfl⟩ | exact ⟨1, _, _, hR.small (by decide) ‹_›, rfl, rfl, rfl⟩
        case measure => simp [intOf]
      | 1, _ =>
        have ik := step_at1
        go_wp2
        all_goals go_round
        case rel => first | exact ⟨2, _, _, hR.big (by decide) ‹_›, rfl, by go_num, rfl⟩ | exact ⟨2, _, _, hR.small (by decide) ‹_›, rfl, rfl, rfl⟩
        case measure => simp [intOf]
        case rel => first | exact ⟨2, _, _, hR.big (by decide) ‹_›, rfl, by go_num, rfl⟩ | exact ⟨2, _, _, hR.small (by decide) ‹_›, rfl, rfl, rfl⟩
        case measure => simp [intOf]
      | 2, _ =>
        have ik := step_at2
        go_wp2
        all_goals go_round
        case rel => first | exact ⟨3, _, _, hR.big (by decide) ‹_›, rfl, by go_num, rfl⟩ | exact ⟨3, _, _, hR.small (by decide) ‹_›, rfl, rfl, rfl⟩
        case measure => simp [intOf]
        case rel => first | exact ⟨3, _, _, hR.big (by decide) ‹_›, rfl, by go_num, rfl⟩ | exact ⟨3, _, _, hR.small (by decide) ‹_›, rfl, rfl, rfl⟩
        case measure => simp [intOf]
      | 3, _ =>
        have ik := step_at3
        go_wp2
        all_goals go_round
        case rel => first | exact ⟨4, _, _, hR.big (by decide) ‹_›, rfl, by go_num, rfl⟩ | exact ⟨4, _, _, hR.small (by decide) ‹_›, rfl, rfl, rfl⟩
        case measure => simp [intOf]
        case rel => first | exact ⟨4, _, _, hR.big (by decide) ‹_›, rfl, by go_num, rfl⟩ | exact ⟨4, _, _, hR.small (by decide) ‹_›, rfl, rfl, rfl⟩
        case measure => simp [intOf]
      | 4, _ =>
        have ik := step_at4
        go_wp2
        all_goals go_round
        case rel => first | exact ⟨5, _, _, hR.big (by decide) ‹_›, rfl, by go_num, rfl⟩ | exact ⟨5, _, _, hR.small (by decide) ‹_›, rfl, rfl, rfl⟩
        case measure => simp [intOf]
        case rel => first | exact ⟨5, _, _, hR.big (by decide) ‹_›, rfl, by go_num, rfl⟩ | exact ⟨5, _, _, hR.small (by decide) ‹_›, rfl, rfl, rfl⟩
        case measure => simp [intOf]
      | 5, _ =>
        have ik := step_at5
        go_wp2
        all_goals go_round
        case rel => first | exact ⟨6, _, _, hR.big (by decide) ‹_›, rfl, by go_num, rfl⟩ | exact ⟨6, _, _, hR.small (by decide) ‹_›, rfl, rfl, rfl⟩
        case measure => simp [intOf]
        case rel => first | exact ⟨6, _, _, hR.big (by decide) ‹_›, rfl, by go_num, rfl⟩ | exact ⟨6, _, _, hR.small (by decide) ‹_›, rfl, rfl, rfl⟩
        case measure => simp [intOf]
    · obtain rfl : k = 6 := by have := hR.1; omega
      have hy : y < 2 := hR.2.1
      go_wp2
      go_ret
      refine ⟨ret_i64 ?_, rfl⟩
      rw [hR.2.2.1]
      match y, hy with
      | 0, _ => rfl
      | 1, _ => rfl

theorem StepsLaid.keep {B : Nat} {w w' : World} (h : StepsLaid w) (hb : Below B w w') (hg : 0 < B) : StepsLaid w' := fun j v hv => by
  rw [← h j v hv]; exact hb.cell (p := ⟨0, j, none⟩) hg
theorem StepsLaid.lt {w : World} (h : StepsLaid w) : 0 < w.heap.size := cell_lt (h 0 _ rfl)
theorem wid_big {x n : Nat} (h : 0 < x / 2 ^ n) : n < wid x := by
  rw [wid_shift n h]
  have : wid (x / 2 ^ n) ≠ 0 := by unfold wid; rw [if_neg (by omega)]; omega
  omega
theorem wid_small {x n : Nat} (h : x / 2 ^ n = 0) : wid x ≤ n := wid_le n ((Nat.div_eq_zero_iff_lt (Nat.two_pow_pos _)).1 h)
theorem wid_div {x n : Nat} (h : ¬ n < wid x) : x / 2 ^ n = 0 := by
  rcases Nat.eq_zero_or_pos (x / 2 ^ n) with h1 | h1
  · exact h1
  · exact absurd (wid_big h1) h
end Go.Proofs.YtcdgbmeechnpiaaDoor
/- A writer of bytes as it lies in memory; what Num refuses. -/
namespace Go.Proofs.YtcdgbmeechnpiaaDoor
open Go.RowKit

/-- A writer at block P; its bytes lie in block g; these are written. -/
def OWriterAt (B : Nat) (w : World) (P : Nat) (g : Option Nat) (l : List Nat) : Prop :=
  B ≤ P ∧ ∃ v, v.ownBlock = g ∧ w.heap[P]? = some (.cells #[v] 124 (0, 0)) ∧ w.ownsRow B 5 1 v l.length (u8s l)
/-- From w0 on a writer at P, whose bytes lay in g, has been written to; it has the bytes l now. -/
def OWrote (B : Nat) (w0 : World) (P : Nat) (g : Option Nat) (l : List Nat) (w : World) : Prop :=
  (B ≤ P ∧ P < w0.heap.size) ∧ (∀ k, g = some k → B ≤ k ∧ k < w0.heap.size) ∧ Only (fun k => k = P ∨ g = some k) w0 w ∧ ∃ g', OWriterAt B w P g' l ∧ (g' = g ∨ ∃ k, g' = some k ∧ w0.heap.size ≤ k)
theorem OWrote.below {B : Nat} {w0 w : World} {P : Nat} {g : Option Nat} {l : List Nat} (h : OWrote B w0 P g l w) (hB : B ≤ w0.heap.size) : Below B w0 w :=
  h.2.2.1.below hB (fun k hk => by
    rcases hk with rfl | hk
    · exact h.1.1
    · exact (h.2.1 k hk).1)
theorem OWrote.start {B : Nat} {w : World} {P : Nat} {g : Option Nat} {l : List Nat} (h : OWriterAt B w P g l) : OWrote B w P g l w := by
  obtain ⟨hBP, v, hv, hP, hown⟩ := h
  exact ⟨⟨hBP, lt_of_block hP⟩, fun k hk => hown.lt k (hv.trans hk), Only.refl _ _, g, ⟨hBP, v, hv, hP, hown⟩, .inl rfl⟩
theorem OWrote.beyond {B : Nat} {w0 w w' : World} {P : Nat} {g : Option Nat} {l : List Nat} (h : OWrote B w0 P g l w) (hb : Below w.heap.size w w') : OWrote B w0 P g l w' := by
  obtain ⟨hP, hg, ho, g', ⟨hBP, v, hv, hh, hown⟩, hg'⟩ := h
  exact ⟨hP, hg, ho.trans (only_beyond (S := fun _ => False) hb) (fun _ _ h => h.elim), g', ⟨hBP, v, hv, (hb.block P (lt_of_block hh)).trans hh, ownsRow_beyond hown hb⟩, hg'⟩
theorem OWriterAt.only {B : Nat} {w w' : World} {P : Nat} {g : Option Nat} {l : List Nat} {S : Nat → Prop} (h : OWriterAt B w P g l) (ho : Only S w w') (hP : ¬ S P) (hg : ∀ k, g = some k → ¬ S k) : OWriterAt B w' P g l := by
  obtain ⟨hBP, v, hv, hh, hown⟩ := h
  refine ⟨hBP, v, hv, (ho.block P (lt_of_block hh) hP).trans hh, hown.1, ?_⟩
  rcases hown.2 with h2 | ⟨b, cap, cur, hv2, hg2, hgg, rest⟩
  · exact .inl h2
  · refine .inr ⟨b, cap, cur, hv2, hg2, (ho.block b (lt_of_block hgg) (hg b ?_)).trans hgg, rest⟩
    rw [← hv, hv2]; rfl
theorem OWriterAt.of {B : Nat} {w0 w : World} {P : Nat} {g : Option Nat} {l : List Nat} (h : OWrote B w0 P g l w) : ∃ g', OWriterAt B w P g' l := by
  obtain ⟨_, _, _, g', h, _⟩ := h
  exact ⟨g', h⟩
theorem owriter_new (w : World) : OWriterAt w.heap.size (w.alloc (.cells #[.slice none 0 0] 124)) w.heap.size none [] :=
  ⟨Nat.le_refl _, .slice none 0 0, rfl, heap_alloc_new w _, World.ownsRow_nil _ _ _ _⟩
/-- what a call finds: the row, and the cell -/
theorem OWrote.at {B : Nat} {w0 w : World} {P : Nat} {g : Option Nat} {l : List Nat} (h : OWrote B w0 P g l w) :
    ∃ v, w.heap[P]? = some (.cells #[v] 124 (0, 0)) ∧ w.ownsRow B 5 1 v l.length (u8s l) ∧ v.ownBlock ≠ some P := by
  obtain ⟨_, _, _, g', ⟨_, v, _, hP, hown⟩, _⟩ := h
  exact ⟨v, hP, hown, row_ne hP hown (by decide)⟩
/-- the writer behind an append and its store: from wa on (w, with new blocks) the row of v has grown to v' in w1 -/
theorem OWrote.next {B : Nat} {w0 w wa w1 w' : World} {P : Nat} {g : Option Nat} {l m : List Nat} {v v' : Value} (h : OWrote B w0 P g l w) (hP : w.heap[P]? = some (.cells #[v] 124 (0, 0))) (ha : Below w.heap.size w wa)
    (hown : w1.ownsRow B 5 1 v' (l ++ m).length (u8s (l ++ m))) (hgrow : wa.grownBy w1 v.ownBlock) (hat : v'.ownBlock = v.ownBlock ∨ ∃ k, v'.ownBlock = some k ∧ w.heap.size ≤ k) (hw : ∃ k, w' = (w1.setCell ⟨P, 0, none⟩ v').drewN k) : OWrote B w0 P g (l ++ m) w' := by
  obtain ⟨k, rfl⟩ := hw
  obtain ⟨hPlt, hgl, ho, g', ⟨hBP, v0, hv, hP0, hown0⟩, hg'⟩ := h
  obtain rfl : v0 = v := by rw [hP] at hP0; simpa using hP0.symm
  have hne := row_ne hP hown0 (by decide)
  have hlt := lt_of_block hP
  have hP1 : w1.heap[P]? = some (.cells #[v0] 124 (0, 0)) := by
    rw [hgrow.block P (Nat.lt_of_lt_of_le hlt ha.size) (fun e => hne e.symm), ha.block P hlt]; exact hP
  have hne' : v'.ownBlock ≠ some P := row_ne hP1 hown (by decide)
  have hO : Only (fun k => k = P ∨ v0.ownBlock = some k) w (w1.setCell ⟨P, 0, none⟩ v') :=
    ((only_beyond (S := fun k => k = P ∨ v0.ownBlock = some k) ha).trans (Only.grown hgrow) (fun i _ h => .inr h)).trans (Only.setCell (S := fun k => k = P) _ rfl _) (fun i _ h => .inl h)
  refine ⟨hPlt, hgl, (ho.trans hO (fun i hi hs => ?_)).trans (only_drewN (fun _ => False) _ k) (fun _ _ h => h.elim), v'.ownBlock, ⟨hBP, v', rfl, ?_, ?_⟩, ?_⟩
  · rcases hs with hs | hs
    · exact .inl hs
    · rw [hv] at hs
      rcases hg' with h2 | ⟨k, h2, h3⟩
      · exact .inr (h2 ▸ hs)
      · rw [h2] at hs; have : k = i := Option.some.inj hs; omega
  · show (w1.setCell ⟨P, 0, none⟩ v').heap[P]? = _
    rw [heap_setCell_same w1 P 0 _ _ v' hP1]; simp
  · exact ownsRow_setCell_other hown (a := ⟨P, 0, none⟩) hne' v'
  · rcases hat with h2 | ⟨k, h2, h3⟩
    · rw [h2, hv]; exact hg'
    · exact .inr ⟨k, h2, Nat.le_trans ho.size h3⟩
theorem num_arg {w : World} {P : Nat} {x n : Int} (h : ¬ Wide n) :
    Calls Tryd.prog 75 #[.pointer (some ⟨P, 0, none⟩), .int .u64 x, .int .i64 n] w fun e w' => e = .returned (.int .i64 1) ∧ w = w' := by
  have H := Lib.hid h
  clear h
  go_enter Tryd.func75, Tryd.ntmps75
  go_wp2_with (go_at_call 70; refine (owidth_no H.out _).mono ?_; rintro e w' ⟨rfl, rfl⟩)
  go_ret
  exact ⟨rfl, rfl⟩
theorem num_range {w : World} {P x n : Nat} (hx : x < 18446744073709551616) (hn : Wide n) (h : 8 * n < wid x) (hl : StepsLaid w) :
    Calls Tryd.prog 75 #[.pointer (some ⟨P, 0, none⟩), .int .u64 (x : Int), .int .i64 (n : Int)] w fun e w' => e = .returned (.int .i64 3) ∧ w = w' := by
  have HL := Lib.hid hl
  have H := Lib.hid hn
  have hn8 : n ≤ 8 := by unfold Wide at hn; omega
  have hd : decide ((8 : Int) * n < wid x) = true := by simp; omega
  clear hl hn h
  go_enter Tryd.func75, Tryd.ntmps75
  go_wp2_with (first | (go_at_call 70; refine (owidth_yes H.out _).mono ?_; rintro e w' ⟨rfl, rfl⟩) | (go_at_call 80; refine (width_any hx _ HL.out).mono ?_; rintro e w' ⟨rfl, rfl⟩))
  go_ret
  exact ⟨rfl, rfl⟩
end Go.Proofs.YtcdgbmeechnpiaaDoor
/- Num, Raw, Bytes of the writer of bytes, walked. -/
namespace Go.Proofs.YtcdgbmeechnpiaaDoor
open Go.RowKit

/-- a byte of the number, as the walk has it -/
theorem byte_arg (x j : Nat) {e : Int} (he : e = ((x / 2 ^ (8 * j) : Nat) : Int)) : e % 256 = ((x / 256 ^ j % 256 : Nat) : Int) := by
  rw [he, Nat.pow_mul, show (2 : Nat) ^ 8 = 256 from rfl]
  simp
/-- the writer's cell behind an append -/
theorem grown_cell {w w1 : World} {P : Nat} {v : Value} {t : TypeId} (o : Obj) {m : Nat} (hP : w.heap[P]? = some (.cells #[v] t (0, 0))) (hne : v.ownBlock ≠ some P) (hgrow : ((w.alloc o).drewN m).grownBy w1 v.ownBlock) :
    w1.cell? ⟨P, 0, none⟩ = some v ∧ w1.frozen? ⟨P, 0, none⟩ = false := by
  have hlt := lt_of_block hP
  refine cells1 (t := t) ?_
  rw [hgrow.block P (by show P < (w.alloc o).heap.size; simp; omega) (fun e => hne e.symm)]
  show (w.alloc o).heap[P]? = _
  rw [Below.heap_alloc _ _ _ hlt]; exact hP
/-- the writer behind one byte more -/
theorem next_byte {B : Nat} {w0 w w1 : World} {P g1 cap y m : Nat} {g : Option Nat} {l : List Nat} {v : Value} {o : Obj} (h : OWrote B w0 P g l w) (hP : w.heap[P]? = some (.cells #[v] 124 (0, 0)))
    (hown : w1.ownsRow B 5 1 (.slice (some ⟨g1, 0, none⟩) (l.length + 1) cap) (l.length + 1) (u8s l ++ [.int .u8 (y : Int)])) (hgrow : ((w.alloc o).drewN m).grownBy w1 v.ownBlock) (hat : v.ownBlock = some g1 ∨ g1 = w.heap.size + 1) :
    OWrote B w0 P g (l ++ [y]) (w1.setCell ⟨P, 0, none⟩ (.slice (some ⟨g1, 0, none⟩) (l.length + 1) cap)) := by
  refine h.next (v' := .slice (some ⟨g1, 0, none⟩) (l.length + 1) cap) hP (wa := (w.alloc o).drewN m) ?_ ?_ hgrow ?_ ⟨0, rfl⟩
  · exact ((Below.refl _ w).alloc (Nat.le_refl _) o).trans ((only_drewN (fun _ => False) _ m).below (by simp) (fun _ h => h.elim))
  · rw [u8s_append, show u8s [y] = [.int .u8 (y : Int)] from rfl]; simpa using hown
  · rcases hat with h2 | h2
    · exact .inl h2.symm
    · exact .inr ⟨g1, rfl, by omega⟩
theorem grown_cell0 {w w1 : World} {P : Nat} {v : Value} {t : TypeId} (hP : w.heap[P]? = some (.cells #[v] t (0, 0))) (hne : v.ownBlock ≠ some P) (hgrow : w.grownBy w1 v.ownBlock) :
    w1.cell? ⟨P, 0, none⟩ = some v ∧ w1.frozen? ⟨P, 0, none⟩ = false := by
  refine cells1 (t := t) ?_
  rw [hgrow.block P (lt_of_block hP) (fun e => hne e.symm)]; exact hP
theorem next_text {B : Nat} {w0 w w1 : World} {P : Nat} {g : Option Nat} {l : List Nat} {v v' : Value} {s : ByteArray} (h : OWrote B w0 P g l w) (hP : w.heap[P]? = some (.cells #[v] 124 (0, 0)))
    (hown : w1.ownsRow B 5 1 v' (l.length + s.size) (u8s l ++ Lib.strCells s)) (hgrow : w.grownBy w1 v.ownBlock) (hat : v'.ownBlock = v.ownBlock ∨ v'.ownBlock = some w.heap.size) :
    OWrote B w0 P g (l ++ ordsOf s) (w1.setCell ⟨P, 0, none⟩ v') := by
  refine h.next (v' := v') hP (Below.refl _ w) ?_ hgrow (hat.imp id fun h => ⟨_, h, Nat.le_refl _⟩) ⟨0, rfl⟩
  rw [u8s_append, ← strCells_ords, List.length_append, ordsOf_length]; exact hown
theorem next_raw {B : Nat} {w0 w w1 : World} {P : Nat} {g : Option Nat} {l bs : List Nat} {v v' : Value} (h : OWrote B w0 P g l w) (hP : w.heap[P]? = some (.cells #[v] 124 (0, 0)))
    (hown : w1.ownsRow B 5 1 v' (l.length + bs.length) (u8s l ++ u8s bs)) (hgrow : w.grownBy w1 v.ownBlock) (hat : v'.ownBlock = v.ownBlock ∨ v'.ownBlock = some w.heap.size) :
    OWrote B w0 P g (l ++ bs) (w1.setCell ⟨P, 0, none⟩ v') := by
  refine h.next (v' := v') hP (Below.refl _ w) ?_ hgrow (hat.imp id fun h => ⟨_, h, Nat.le_refl _⟩) ⟨0, rfl⟩
  rw [u8s_append, List.length_append]; exact hown
set_option maxHeartbeats 1000000 in
theorem num_ok {B : Nat} {w0 w : World} {P x n : Nat} {g : Option Nat} {l : List Nat} (hx : x < 18446744073709551616) (hn : Wide n) (hxn : wid x ≤ 8 * n) (hl : StepsLaid w) (hB : B ≤ w0.heap.size) (hbig : l.length ≤ 100000000) (hw : OWrote B w0 P g l w) :
    Calls Tryd.prog 75 #[.pointer (some ⟨P, 0, none⟩), .int .u64 (x : Int), .int .i64 (n : Int)] w fun e w' => e = .returned (.int .i64 0) ∧ OWrote B w0 P g (l ++ numB x n) w' := by
  obtain ⟨i0, hi, hz0, hz1, hz2⟩ := info_parts infoU8
  have HL := Lib.hid hl
  have HW := Lib.hid hw
  have H := Lib.hid hn
  have hn8 : n ≤ 8 := by unfold Wide at hn; omega
  have hd : decide ((8 : Int) * n < wid x) = false := by simp; omega
  clear hl hw hxn hn
  go_enter Tryd.func75, Tryd.ntmps75
  go_wp2_with (first | (go_at_call 70; refine (owidth_yes H.out _).mono ?_; rintro e w' ⟨rfl, rfl⟩) | (go_at_call 80; refine (width_any hx _ HL.out).mono ?_; rintro e w' ⟨rfl, rfl⟩))
  clear hd
  go_loopw [21] (fun i wr => ∃ k : Nat, k ≤ n ∧ i = .int .i64 k ∧ OWrote B w0 P g (l ++ (numB x n).take k) wr) (fun i _ => n - (intOf i).toNat)
  case atStart => exact ⟨0, by omega, rfl, by simpa using HW.out⟩
  case round =>
    obtain ⟨k, hk, rfl, hwr⟩ := hrel
    have HR := Lib.hid hwr
    by_cases hlt : k < n
    · have hll : (l ++ (numB x n).take k).length ≤ 100000008 := by simp; omega
      obtain ⟨ls, hls⟩ : ∃ ls, ls = l ++ (numB x n).take k := ⟨_, rfl⟩
      rw [← hls] at hwr HR hll
      have HLS := Lib.hid hls
      obtain ⟨v, hP, hown, hne⟩ := hwr.at
      have hBr : B ≤ wr.heap.size := Nat.le_trans hB HR.out.2.2.1.size
      obtain ⟨c0, f0⟩ := cells1 hP
      have c0a : ∀ o, (wr.alloc o).cell? ⟨P, 0, none⟩ = some v := fun o => by rw [← c0]; exact World.cell?_of_block (w := wr) (Below.heap_alloc _ _ _ (lt_of_block hP))
      have HP := Lib.hid hP
      have HO := Lib.hid hown
      obtain ⟨q, hq⟩ : ∃ q, q = 8 * (n - 1 - k) := ⟨_, rfl⟩
      have hq64 : q ≤ 56 := by omega
      have e1 : IntKind.i64.wrap ((n : Int) - 1) = n - 1 := by rw [IntKind.wrap_i64]; omega
      have e2 : IntKind.i64.wrap ((n : Int) - 1 - k) = n - 1 - k := by rw [IntKind.wrap_i64]; omega
      have e3 : IntKind.i64.wrap (8 * ((n : Int) - 1 - k)) = q := by rw [IntKind.wrap_i64]; omega
      obtain ⟨y, hy⟩ : ∃ y, y = x / 256 ^ (n - 1 - k) % 256 := ⟨_, rfl⟩
      have e4 : IntKind.u8.wrap ((x : Int) / 2 ^ q) = y := by
        have h1 := byte_arg x (n - 1 - k) (e := (x : Int) / 2 ^ q) (by rw [hq]; simp)
        rw [IntKind.wrap_u8, h1, hy]
      have HY := Lib.hid hy
      clear hwr HW HL hP hown hq hy hls
      go_wp2_with fail
      go_region_law (refine step_append_lies _ rfl (.tmp 28) (.tmp 37) 31 rfl B 5 i0 (.int .u8 0) 1 1 Tryd.underlying31 hi hz0 hz1 hz2 rfl (by decide) v _ _ (by simp [Act.eval]) (HO.out.drew.alloc _) ⟨wr.heap.size, 0, none⟩ 1 1 [.int .u8 (y : Int)] (by simp [Act.eval]) rfl (World.news_of_block (heap_alloc_new wr.drew _)) (by simp [Value.oneCell']) (by decide) (by unfold maxLen; omega) (by omega) (by simp; omega) (wr.heap.size + 1) (by simp) ?_; intro g1 cap1 w1 hown1 hgrow hat _; obtain ⟨d0, f1⟩ := grown_cell (m := 1) _ HP.out hne hgrow; have HO1 := Lib.hid hown1; have HG := Lib.hid hgrow; have HA := Lib.hid hat; clear hown1 hgrow hat)
      all_goals
        go_wp2
        go_roundw
        case rel => exact ⟨k + 1, by omega, by go_num, by rw [numB_take x n k hlt, ← List.append_assoc, ← HLS.out, ← HY.out]; exact next_byte HR.out HP.out HO1.out HG.out HA.out⟩
        case measure => simp [intOf]; omega
    · obtain rfl : k = n := by omega
      go_wp2_with fail
      go_ret
      exact ⟨rfl, by rw [List.take_of_length_le (by rw [numB_length]; omega)] at hwr; exact hwr⟩
set_option maxHeartbeats 1000000 in
theorem raw_ok {B : Nat} {w0 w : World} {P : Nat} {x : Value} {bs : List Nat} {g : Option Nat} {l : List Nat} (hx : Lies w x bs) (hn : bs.length ≤ 1000000000) (hB : B ≤ w0.heap.size) (hbig : l.length ≤ 1000000000) (hw : OWrote B w0 P g l w) :
    Calls Tryd.prog 77 #[.pointer (some ⟨P, 0, none⟩), x] w fun e w' => e = .returned (.tuple #[]) ∧ OWrote B w0 P g (l ++ bs) w' := by
  obtain ⟨i0, hi, hz0, hz1, hz2⟩ := info_parts infoU8
  obtain ⟨v, hP, hown, hne⟩ := hw.at
  obtain ⟨c0, f0⟩ := cells1 hP
  have hBr : B ≤ w.heap.size := Nat.le_trans hB hw.2.2.1.size
  have HP := Lib.hid hP
  have HO := Lib.hid hown
  have HR := Lib.hid hw
  have HX := Lib.hid hx
  clear hP hown hw hx
  go_enter Tryd.func77, Tryd.ntmps77
  go_wp2_with (at_builtin; refine wpList_append_bytes _ rfl _ _ 31 rfl B 5 i0 Tryd.underlying31 hi hz0 hz1 hz2 v _ _ rfl HO.out x bs rfl HX.out (by omega) hBr ?_; intro v2 w2 hown2 hgrow hat; obtain ⟨d0, f1⟩ := grown_cell0 HP.out hne hgrow; have HO1 := Lib.hid hown2; have HG := Lib.hid hgrow; have HA := Lib.hid hat; obtain ⟨a2, n2, rfl⟩ := own_slice hown2; clear hown2 hgrow hat)
  go_end0
  exact ⟨rfl, next_raw HR.out HP.out HO1.out HG.out HA.out⟩
set_option maxHeartbeats 1000000 in
theorem obytes (P : Nat) {B : Nat} {w0 w : World} {g : Option Nat} {l : List Nat} (h : OWrote B w0 P g l w) (hbig : l.length ≤ 1000000000) :
    Calls Tryd.prog 78 #[.pointer (some ⟨P, 0, none⟩)] w fun e w' => ∃ v', e = .returned v' ∧ w'.ownsRow w.heap.size 5 1 v' l.length (u8s l) ∧ Below w.heap.size w w' := by
  obtain ⟨v, hP, hown, _⟩ := h.at
  obtain ⟨c0, _⟩ := cells1 hP
  have HL := Lib.hid (ownsRow_lies hown)
  clear h hP hown
  go_enter Tryd.func78, Tryd.ntmps78
  go_wp2_with (go_at_call 66; refine (clone_any HL.out hbig).mono ?_; rintro e w' ⟨v', rfl, hown', hbel⟩)
  go_ret
  exact ⟨_, rfl, hown', hbel⟩
end Go.Proofs.YtcdgbmeechnpiaaDoor
