/- A reader of bytes as it lies in memory: Read, Err, take, Num, Int, Raw, walked where nothing fails; what was put is got. -/
import Derived.Test.YtngeilhdambgfaaDoorClone
import Derived.Test.YtngeilhdambgfaaDoorOctN
namespace Go.Proofs.YtngeilhdambgfaaDoor
open Go.RowKit

/-- a slice of these bytes, in a block from B on -/
def LiesFrom (B : Nat) (w : World) (v : Value) (bs : List Nat) : Prop :=
  (v = .slice none 0 0 ∧ bs = []) ∨ (∃ a cap, v = .slice (some a) 0 cap ∧ bs = []) ∨ ∃ b off cap, v = .slice (some ⟨b, off, none⟩) bs.length cap ∧ bs.length < cap + 1 ∧ B ≤ b ∧ BytesAt w b off bs ∧ bs ≠ []
theorem LiesFrom.lies {B : Nat} {w : World} {v : Value} {bs : List Nat} (h : LiesFrom B w v bs) : Lies w v bs := by
  rcases h with h | h | ⟨b, off, cap, h, _, _, hc, _⟩
  · exact .inl h
  · exact .inr (.inl h)
  · exact .inr (.inr ⟨b, off, cap, h, hc⟩)
theorem LiesFrom.of_row {B : Nat} {w : World} {v : Value} {bs : List Nat} (h : w.ownsRow B 5 1 v bs.length (u8s bs)) : LiesFrom B w v bs := by
  rcases h.2 with ⟨rfl, h0⟩ | ⟨g, cap, cur, rfl, hB, hg, hnc, _⟩
  · exact .inl ⟨rfl, List.length_eq_zero_iff.1 h0⟩
  · by_cases hb : bs = []
    · exact .inr (.inl ⟨_, cap, by rw [hb]; rfl, hb⟩)
    · refine .inr (.inr ⟨g, 0, cap, rfl, by omega, hB, fun j hj => ?_, hb⟩)
      rw [Nat.zero_add, h.cellAt j (by omega), u8s_getD bs j hj]
theorem LiesFrom.only {B : Nat} {w w' : World} {v : Value} {bs : List Nat} {S : Nat → Prop} (h : LiesFrom B w v bs) (ho : Only S w w') (hS : ∀ b off j x, B ≤ b → w.cell? ⟨b, off + j, none⟩ = some (.int .u8 x) → ¬ S b) : LiesFrom B w' v bs := by
  rcases h with h | h | ⟨b, off, cap, h, hl, hB, hc, hb⟩
  · exact .inl h
  · exact .inr (.inl h)
  · refine .inr (.inr ⟨b, off, cap, h, hl, hB, fun j hj => ?_, hb⟩)
    have h1 := hc j hj
    rw [← h1]
    exact World.cell?_of_block (w := w) (ho.block b (by have := cell_lt h1; exact this) (hS b off j _ hB h1))
/-- A reader at block R: no error so far, these bytes are left. -/
def OReaderAt (B : Nat) (w : World) (R : Nat) (bs : List Nat) : Prop :=
  B ≤ R ∧ ∃ v, w.heap[R]? = some (.cells #[v, .int .i64 0] 105 (0, 0)) ∧ LiesFrom B w v bs
theorem OReaderAt.beyond {B : Nat} {w w' : World} {R : Nat} {bs : List Nat} (h : OReaderAt B w R bs) (hb : Below w.heap.size w w') : OReaderAt B w' R bs := by
  obtain ⟨hR, v, hh, hl⟩ := h
  exact ⟨hR, v, (hb.block R (lt_of_block hh)).trans hh, hl.only (only_beyond (S := fun _ => False) hb) (fun _ _ _ _ _ _ h => h)⟩
/-- the reader's own cell is no byte -/
theorem OReaderAt.far {B : Nat} {w : World} {R : Nat} {bs : List Nat} {v : Value} (hh : w.heap[R]? = some (.cells #[v, .int .i64 0] 105 (0, 0))) (hl : LiesFrom B w v bs) : ∀ b off j x, B ≤ b → w.cell? ⟨b, off + j, none⟩ = some (.int .u8 x) → b ≠ R := by
  rintro b off j x _ hc rfl
  simp only [World.cell?, hh] at hc
  have h3 : off + j = 0 ∨ off + j = 1 ∨ 2 ≤ off + j := by omega
  rcases h3 with h3 | h3 | h3
  · rw [h3] at hc
    rcases hl with ⟨rfl, _⟩ | ⟨_, _, rfl, _⟩ | ⟨_, _, _, rfl, _⟩ <;> simp at hc
  · rw [h3] at hc; simp at hc
  · rw [Array.getElem?_eq_none (by simpa using h3)] at hc; simp at hc
/-- the reader behind a store of its bytes -/
theorem OReaderAt.set {B : Nat} {w : World} {R : Nat} {bs bs' : List Nat} {v v' : Value} (hR : B ≤ R) (hh : w.heap[R]? = some (.cells #[v, .int .i64 0] 105 (0, 0))) (hl : LiesFrom B w v bs) (hl' : LiesFrom B w v' bs') :
    OReaderAt B (w.setCell ⟨R, 0, none⟩ v') R bs' ∧ Only (fun k => k = R) w (w.setCell ⟨R, 0, none⟩ v') := by
  have ho : Only (fun k => k = R) w (w.setCell ⟨R, 0, none⟩ v') := Only.setCell (S := fun k => k = R) _ rfl _
  refine ⟨⟨hR, v', ?_, hl'.only ho (OReaderAt.far hh hl)⟩, ho⟩
  rw [heap_setCell_same w R 0 _ _ _ hh]; simp
set_option maxHeartbeats 1000000 in
theorem oread_any {w : World} {v : Value} {bs : List Nat} (h : Lies w v bs) (hbig : bs.length ≤ 1000000000) :
    Calls Tryd.prog 45 #[v] w fun e w' => ∃ R, e = .returned (.pointer (some ⟨R, 0, none⟩)) ∧ OReaderAt w.heap.size w' R bs ∧ Below w.heap.size w w' := by
  have HL := Lib.hid h
  clear h
  go_enter Tryd.func45, Tryd.ntmps45
  go_wp2_with (go_at_call 42; refine (clone_any HL.out hbig).mono ?_; rintro e w' ⟨v', rfl, hown', hbel⟩; obtain ⟨a', c', rfl⟩ := own_slice hown')
  go_ret
  exact ⟨_, rfl, ⟨hbel.size, _, heap_alloc_new _ _, LiesFrom.of_row (hown'.alloc _)⟩, hbel.alloc hbel.size _⟩
theorem oerr_ok {B : Nat} {w : World} {R : Nat} {bs : List Nat} (h : OReaderAt B w R bs) : Calls Tryd.prog 60 #[.pointer (some ⟨R, 0, none⟩)] w fun e w' => e = .returned (.int .i64 0) ∧ w = w' := by
  obtain ⟨_, v, hh, _⟩ := h
  obtain ⟨c0, c1, f0, f1⟩ := cells2 hh
  clear hh f0 f1
  go_enter Tryd.func60, Tryd.ntmps60
  go_wp2
  go_ret
  exact ⟨rfl, rfl⟩
/-- what take leaves -/
def Took (B : Nat) (w : World) (R : Nat) (bs : List Nat) (n : Nat) (v' : Value) (w' : World) : Prop :=
  Lies w' v' (bs.take n) ∧ OReaderAt B w' R (bs.drop n) ∧ Only (fun k => k = R) w w'
theorem took_of {B : Nat} {w : World} {R n : Nat} {bs : List Nat} {v v1 v2 : Value} (hR : B ≤ R) (hh : w.heap[R]? = some (.cells #[v, .int .i64 0] 105 (0, 0))) (hl : LiesFrom B w v bs)
    (h1 : LiesFrom B w v1 (bs.take n)) (h2 : LiesFrom B w v2 (bs.drop n)) : Took B w R bs n v1 (w.setCell ⟨R, 0, none⟩ v2) := by
  obtain ⟨h3, h4⟩ := OReaderAt.set hR hh hl h2
  exact ⟨(h1.only h4 (OReaderAt.far hh hl)).lies, h3, h4⟩
theorem bytesAt_take {w : World} {b off : Nat} {bs : List Nat} (n : Nat) (h : BytesAt w b off bs) : BytesAt w b off (bs.take n) := fun j hj => by
  have hj' : j < n ∧ j < bs.length := by rw [List.length_take] at hj; omega
  rw [h j hj'.2]; simp [List.getD, hj'.1]
theorem bytesAt_drop {w : World} {b off : Nat} {bs : List Nat} (n : Nat) (h : BytesAt w b off bs) : BytesAt w b (off + n) (bs.drop n) := fun j hj => by
  have hj' : j < bs.length - n := by simpa using hj
  rw [Nat.add_assoc, h (n + j) (by omega)]; simp [List.getD, List.getElem?_drop]
theorem liesFrom_take {B : Nat} {w : World} {b off cap n : Nat} {bs : List Nat} (hn : n ≤ bs.length) (hcap : bs.length < cap + 1) (hB : B ≤ b) (hc : BytesAt w b off bs) : LiesFrom B w (.slice (some ⟨b, off, none⟩) n cap) (bs.take n) := by
  by_cases h0 : n = 0
  · subst h0; exact .inr (.inl ⟨_, cap, rfl, by simp⟩)
  · refine .inr (.inr ⟨b, off, cap, by rw [List.length_take, Nat.min_eq_left hn], by rw [List.length_take]; omega, hB, bytesAt_take n hc, fun h => ?_⟩)
    have h2 : (bs.take n).length = 0 := by rw [h]; rfl
    rw [List.length_take] at h2; omega
theorem liesFrom_drop {B : Nat} {w : World} {b off cap n : Nat} {bs : List Nat} (hn : n ≤ bs.length) (hcap : bs.length < cap + 1) (hB : B ≤ b) (hc : BytesAt w b off bs) : LiesFrom B w (.slice (some ⟨b, off + n, none⟩) (bs.length - n) (cap - n)) (bs.drop n) := by
  by_cases h0 : bs.length - n = 0
  · exact .inr (.inl ⟨_, cap - n, by rw [h0], List.drop_eq_nil_of_le (by omega)⟩)
  · refine .inr (.inr ⟨b, off + n, cap - n, by rw [List.length_drop], by rw [List.length_drop]; omega, hB, bytesAt_drop n hc, fun h => ?_⟩)
    have h2 : (bs.drop n).length = 0 := by rw [h]; rfl
    rw [List.length_drop] at h2; omega
set_option maxHeartbeats 1000000 in
theorem take_ok {B : Nat} {w : World} {R n : Nat} {bs : List Nat} (h : OReaderAt B w R bs) (hn : n ≤ bs.length) (hbig : bs.length ≤ 1000000000) :
    Calls Tryd.prog 58 #[.pointer (some ⟨R, 0, none⟩), .int .i64 (n : Int)] w fun e w' => ∃ v', e = .returned v' ∧ Took B w R bs n v' w' := by
  have H := Lib.hid h
  obtain ⟨hR, v, hh, hl⟩ := h
  obtain ⟨c0, c1, f0, f1⟩ := cells2 hh
  have HH := Lib.hid hh
  have HL := Lib.hid hl
  clear hh
  rcases hl with ⟨rfl, rfl⟩ | ⟨a, cap, rfl, rfl⟩ | ⟨b, off, cap, rfl, hcap, hB, hc, hne⟩
  · obtain rfl : n = 0 := by simpa using hn
    go_enter Tryd.func58, Tryd.ntmps58
    go_wp2_with (go_at_call 60; refine (oerr_ok H.out).mono ?_; rintro e w' ⟨rfl, rfl⟩)
    go_ret
    exact ⟨_, rfl, took_of hR HH.out HL.out (.inl ⟨rfl, by simp⟩) (.inl ⟨rfl, by simp⟩)⟩
  · obtain rfl : n = 0 := by simpa using hn
    go_enter Tryd.func58, Tryd.ntmps58
    go_wp2_with (go_at_call 60; refine (oerr_ok H.out).mono ?_; rintro e w' ⟨rfl, rfl⟩)
    go_ret
    exact ⟨_, rfl, took_of hR HH.out HL.out (.inr (.inl ⟨_, _, rfl, by simp⟩)) (.inr (.inl ⟨_, _, rfl, by simp⟩))⟩
  · have t0 : decide ((n : Int) < 0) = false := by simp
    have t2 : decide ((bs.length : Int) < n) = false := by simp; omega
    have hnc : n ≤ cap := by omega
    have h1 := Lib.hid (liesFrom_take hn hcap hB hc)
    have h2 := Lib.hid (liesFrom_drop hn hcap hB hc)
    have HC := Lib.hid hcap
    have HN := Lib.hid hn
    have h0 : (0 : Int) ≤ n := by omega
    clear hcap hB hc hne
    by_cases hcn : cap = n
    · subst hcn
      go_enter Tryd.func58, Tryd.ntmps58
      go_wp2_with (go_at_call 60; refine (oerr_ok H.out).mono ?_; rintro e w' ⟨rfl, rfl⟩)
      go_ret
      have e1 : bs.length - cap = 0 := by have := HC.out; omega
      refine ⟨_, rfl, took_of hR HH.out HL.out h1.out ?_⟩
      rw [e1]
      exact .inr (.inl ⟨_, _, rfl, List.drop_eq_nil_of_le (by omega)⟩)
    · go_enter Tryd.func58, Tryd.ntmps58
      go_wp2_with (go_at_call 60; refine (oerr_ok H.out).mono ?_; rintro e w' ⟨rfl, rfl⟩)
      go_ret
      exact ⟨_, rfl, took_of hR HH.out HL.out h1.out h2.out⟩
/-- bytes as a number, the highest first -/
def valB (l : List Nat) : Nat := l.foldl (fun a b => 256 * a + b) 0
theorem valB_snoc (l : List Nat) (b : Nat) : valB (l ++ [b]) = 256 * valB l + b := by simp [valB]
theorem valB_take (l : List Nat) (k : Nat) (h : k < l.length) : valB (l.take (k + 1)) = 256 * valB (l.take k) + l.getD k 0 := by
  rw [List.take_add_one, List.getElem?_eq_getElem h, Option.toList_some, valB_snoc]; simp [List.getD, List.getElem?_eq_getElem h]
theorem valB_lt (l : List Nat) (hb : ∀ x ∈ l, x < 256) (k : Nat) (hk : k ≤ l.length) : valB (l.take k) < 256 ^ k := by
  induction k with
  | zero => simp [valB]
  | succ k ih =>
    rw [valB_take l k (by omega), Nat.pow_succ]
    have h1 := ih (by omega)
    have h2 : l.getD k 0 < 256 := by
      have h3 : k < l.length := by omega
      simp [List.getD, List.getElem?_eq_getElem h3]; exact hb _ (List.getElem_mem h3)
    omega
theorem valB_num {x n : Nat} (hx : x < 256 ^ n) (k : Nat) (hk : k ≤ n) : valB ((numB x n).take k) = x / 256 ^ (n - k) := by
  induction k with
  | zero => rw [Nat.sub_zero, Nat.div_eq_of_lt hx]; rfl
  | succ k ih =>
    rw [valB_take _ k (by rw [numB_length]; omega), ih (by omega)]
    have h1 : (numB x n).getD k 0 = x / 256 ^ (n - 1 - k) % 256 := by simp [List.getD, numB_get x n k (by omega)]
    rw [h1, show n - 1 - k = n - (k + 1) by omega, show n - k = n - (k + 1) + 1 by omega, Nat.pow_succ, ← Nat.div_div_eq_div_mul]
    generalize x / 256 ^ (n - (k + 1)) = y
    omega
/-- what was put is got -/
theorem valB_numB {x n : Nat} (hx : x < 256 ^ n) : valB (numB x n) = x := by
  have h := valB_num hx n (Nat.le_refl _)
  rw [List.take_of_length_le (by rw [numB_length]; omega)] at h
  rw [h]; simp
theorem lies_some {w : World} {v : Value} {bs : List Nat} (h : Lies w v bs) (hb : 0 < bs.length) : ∃ b off cap, v = .slice (some ⟨b, off, none⟩) bs.length cap ∧ BytesAt w b off bs := by
  rcases h with ⟨_, rfl⟩ | ⟨_, _, _, rfl⟩ | ⟨b, off, cap, h, hc⟩
  · simp at hb
  · simp at hb
  · exact ⟨b, off, cap, h, hc⟩
theorem or_byte {x b : Nat} (hx : 256 * x < 18446744073709551616) (hb : b < 256) : bits .or .u64 (IntKind.u64.wrap ((x : Int) * 256)) (b : Int) = ((256 * x + b : Nat) : Int) := by
  simp only [IntKind.wrap_u64]
  have h1 : ((x : Int) * 256 % 18446744073709551616) = ((x * 256 : Nat) : Int) := by omega
  rw [h1, u64_or_nat _ _ (by omega) (by omega), nat_join 8 _ _ (by omega) (by omega)]
  omega
set_option maxHeartbeats 1000000 in
theorem onum_ok {B : Nat} {w : World} {R n : Nat} {bs : List Nat} (h : OReaderAt B w R bs) (hn : Wide n) (hl : n ≤ bs.length) (hb : ∀ x ∈ bs, x < 256) (hbig : bs.length ≤ 1000000000) :
    Calls Tryd.prog 47 #[.pointer (some ⟨R, 0, none⟩), .int .i64 (n : Int)] w fun e w' => e = .returned (.int .u64 ((valB (bs.take n) : Nat) : Int)) ∧ OReaderAt B w' R (bs.drop n) ∧ Only (fun k => k = R) w w' := by
  have H := Lib.hid h
  have HN := Lib.hid hn
  have HB := Lib.hid hb
  have hn8 : 0 < n ∧ n ≤ 8 := by unfold Wide at hn; omega
  clear h hn hb
  go_enter Tryd.func47, Tryd.ntmps47
  go_wp2_with (go_at_call 56; refine (owidth_yes HN.out _).mono ?_; rintro e w' ⟨rfl, rfl⟩)
  refine (take_ok H.out hl hbig).mono ?_
  rintro e w' ⟨v', rfl, hlies, hr, ho⟩
  have htl : (bs.take n).length = n := by rw [List.length_take]; omega
  obtain ⟨b, off, cap, rfl, hc⟩ := lies_some hlies (by omega)
  rw [htl]
  have hts : Hid (∀ x ∈ bs.take n, x < 256) := Lib.hid fun x hx => HB.out x (List.mem_of_mem_take hx)
  obtain ⟨ts, hte⟩ : ∃ ts, ts = bs.take n := ⟨_, rfl⟩
  rw [← hte] at htl hc hts
  have HTE := Lib.hid hte
  have HC := Lib.hid hc
  have HR := Lib.hid hr
  have HO := Lib.hid ho
  clear hc hr ho hlies H HN hl HB hte
  go_wp2_with fail
  go_loop [5, 17] (fun x i => ∃ q : Nat, q ≤ n ∧ i = .int .i64 q ∧ x = .int .u64 ((valB (ts.take q) : Nat) : Int)) (fun _ i => n - (intOf i).toNat)
  case atStart => exact ⟨0, by omega, rfl, rfl⟩
  case round =>
    obtain ⟨q, hq, rfl, rfl⟩ := hrel
    by_cases hlt : q < n
    · have hcell := HC.out q (by omega)
      have hv := valB_lt ts hts.out q (by omega)
      have hv2 : 256 * valB (ts.take q) < 18446744073709551616 := by
        have h1 : (256 : Nat) ^ (q + 1) ≤ 256 ^ 8 := Nat.pow_le_pow_right (by omega) (by omega)
        rw [Nat.pow_succ] at h1
        have h2 : (256 : Nat) ^ 8 = 18446744073709551616 := by decide
        omega
      have hx : ts.getD q 0 < 256 := by
        have h3 : q < ts.length := by omega
        simp [List.getD, List.getElem?_eq_getElem h3]; exact hts.out _ (List.getElem_mem h3)
      have HV := Lib.hid (valB_take ts q (by omega))
      have HOR := Lib.hid (or_byte hv2 hx)
      generalize ts.getD q 0 = y at *
      clear hv hv2
      go_wp2
      go_round
      case rel => exact ⟨q + 1, by omega, by go_num, by rw [HOR.out, HV.out]⟩
      case measure => simp [intOf]; omega
    · obtain rfl : q = n := by omega
      go_wp2
      go_ret
      exact ⟨by rw [← HTE.out, List.take_of_length_le (by omega)]; rfl, HR.out, HO.out⟩
theorem drop_small {bs : List Nat} (n : Nat) (hb : ∀ x ∈ bs, x < 256) : ∀ x ∈ bs.drop n, x < 256 := fun x hx => hb x (List.mem_of_mem_drop hx)
set_option maxHeartbeats 1000000 in
theorem oraw_ok {B : Nat} {w : World} {R n : Nat} {bs : List Nat} (h : OReaderAt B w R bs) (hl : n ≤ bs.length) (hbig : bs.length ≤ 1000000000) :
    Calls Tryd.prog 48 #[.pointer (some ⟨R, 0, none⟩), .int .i64 (n : Int)] w fun e w' => ∃ v', e = .returned v' ∧ w'.ownsRow w.heap.size 5 1 v' n (u8s (bs.take n)) ∧ OReaderAt B w' R (bs.drop n) ∧ Only (fun k => k = R) w w' := by
  have H := Lib.hid h
  have hlen : (bs.take n).length = n := by rw [List.length_take]; omega
  clear h
  go_enter Tryd.func48, Tryd.ntmps48
  go_wp2_with fail
  refine (take_ok H.out hl hbig).mono ?_
  rintro e w1 ⟨v, rfl, hlies, hr, ho⟩
  have HR := Lib.hid hr
  have HO := Lib.hid ho
  have HL := Lib.hid hlies
  clear hlies hr ho
  go_wp2_with fail
  refine (clone_any HL.out (by omega)).mono ?_
  rintro e w2 ⟨v2, rfl, hown, hbel⟩
  rw [hlen] at hown
  go_wp2
  go_ret
  exact ⟨_, rfl, row_base hown HO.out.size, HR.out.beyond hbel, HO.out.trans (only_beyond (S := fun _ => False) hbel) (fun _ _ h => h.elim)⟩
end Go.Proofs.YtngeilhdambgfaaDoor
