/- Num, Int, Text, Raw of the reader of bytes, walked where nothing fails; what was put is got. -/
import Derived.Test.YtcomdobmkmbmeaaDoorOctR
namespace Go.Proofs.YtcomdobmkmbmeaaDoor
open Go.RowKit

/-- bytes as a number, the highest first -/
def valB (l : List Nat) : Nat := l.foldl (fun a b => 256 * a + b) 0
theorem valB_snoc (l : List Nat) (b : Nat) : valB (l ++ [b]) = 256 * valB l + b := by simp [valB]
theorem valB_take (l : List Nat) (k : Nat) (h : k < l.length) : valB (l.take (k + 1)) = 256 * valB (l.take k) + l.getD k 0 := by
  rw [List.take_add_one, List.getElem?_eq_getElem h, Option.toList_some, valB_snoc]; simp [List.getD, List.getElem?_eq_getElem h]
theorem valB_lt (l : List Nat) (hb : ∀ x ∈ l, x < 256) (k : Nat) (hk : k ≤ l.length) : valB (l.take k) < 256 ^ k := by
  induction k with
  | zero => simp [valB]
  | succ k ih =>
    rw [valB_take l k (by omega), Nat.pow_succ]
    have h1 := ih (by omega)
    have h2 : l.getD k 0 < 256 := by
      have h3 : k < l.length := by omega
      simp [List.getD, List.getElem?_eq_getElem h3]; exact hb _ (List.getElem_mem h3)
    omega
theorem valB_num {x n : Nat} (hx : x < 256 ^ n) (k : Nat) (hk : k ≤ n) : valB ((numB x n).take k) = x / 256 ^ (n - k) := by
  induction k with
  | zero => rw [Nat.sub_zero, Nat.div_eq_of_lt hx]; rfl
  | succ k ih =>
    rw [valB_take _ k (by rw [numB_length]; omega), ih (by omega)]
    have h1 : (numB x n).getD k 0 = x / 256 ^ (n - 1 - k) % 256 := by simp [List.getD, numB_get x n k (by omega)]
    rw [h1, show n - 1 - k = n - (k + 1) by omega, show n - k = n - (k + 1) + 1 by omega, Nat.pow_succ, ← Nat.div_div_eq_div_mul]
    generalize x / 256 ^ (n - (k + 1)) = y
    omega
/-- what was put is got -/
theorem valB_numB {x n : Nat} (hx : x < 256 ^ n) : valB (numB x n) = x := by
  have h := valB_num hx n (Nat.le_refl _)
  rw [List.take_of_length_le (by rw [numB_length]; omega)] at h
  rw [h]; simp

theorem lies_some {w : World} {v : Value} {bs : List Nat} (h : Lies w v bs) (hb : 0 < bs.length) : ∃ b off cap, v = .slice (some ⟨b, off, none⟩) bs.length cap ∧ BytesAt w b off bs := by
  rcases h with ⟨_, rfl⟩ | ⟨_, _, _, rfl⟩ | ⟨b, off, cap, h, hc⟩
  · simp at hb
  · simp at hb
  · exact ⟨b, off, cap, h, hc⟩

theorem or_byte {x b : Nat} (hx : 256 * x < 18446744073709551616) (hb : b < 256) : bits .or .u64 (IntKind.u64.wrap ((x : Int) * 256)) (b : Int) = ((256 * x + b : Nat) : Int) := by
  simp only [IntKind.wrap_u64]
  have h1 : ((x : Int) * 256 % 18446744073709551616) = ((x * 256 : Nat) : Int) := by omega
  rw [h1, u64_or_nat _ _ (by omega) (by omega), nat_join 8 _ _ (by omega) (by omega)]
  omega

set_option maxHeartbeats 1000000 in
theorem onum_ok {B : Nat} {w : World} {R n : Nat} {bs : List Nat} (h : OReaderAt B w R bs) (hn : Wide n) (hl : n ≤ bs.length) (hb : ∀ x ∈ bs, x < 256) (hbig : bs.length ≤ 1000000000) :
    Calls Tryd.prog 14 #[.pointer (some ⟨R, 0, none⟩), .int .i64 (n : Int)] w fun e w' => e = .returned (.int .u64 ((valB (bs.take n) : Nat) : Int)) ∧ OReaderAt B w' R (bs.drop n) ∧ Only (fun k => k = R) w w' := by
  have H := Lib.hid h
  have HN := Lib.hid hn
  have HB := Lib.hid hb
  have hn8 : 0 < n ∧ n ≤ 8 := by unfold Wide at hn; omega
  clear h hn hb
  go_enter Tryd.func14, Tryd.ntmps14
  go_wp2_with (go_at_call 20; refine (owidth_yes HN.out _).mono ?_; rintro e w' ⟨rfl, rfl⟩)
  refine (take_ok H.out hl hbig).mono ?_
  rintro e w' ⟨v', rfl, hlies, hr, ho⟩
  have htl : (bs.take n).length = n := by rw [List.length_take]; omega
  obtain ⟨b, off, cap, rfl, hc⟩ := lies_some hlies (by omega)
  rw [htl]
  have hts : Hid (∀ x ∈ bs.take n, x < 256) := Lib.hid fun x hx => HB.out x (List.mem_of_mem_take hx)
  obtain ⟨ts, hte⟩ : ∃ ts, ts = bs.take n := ⟨_, rfl⟩
  rw [← hte] at htl hc hts
  have HTE := Lib.hid hte
  have HC := Lib.hid hc
  have HR := Lib.hid hr
  have HO := Lib.hid ho
  clear hc hr ho hlies H HN hl HB hte
  go_wp2_with fail
  go_loop [5, 17] (fun x i => ∃ q : Nat, q ≤ n ∧ i = .int .i64 q ∧ x = .int .u64 ((valB (ts.take q) : Nat) : Int)) (fun _ i => n - (intOf i).toNat)
  case atStart => exact ⟨0, by omega, rfl, rfl⟩
  case round =>
    obtain ⟨q, hq, rfl, rfl⟩ := hrel
    by_cases hlt : q < n
    · have hcell := HC.out q (by omega)
      have hv := valB_lt ts hts.out q (by omega)
      have hv2 : 256 * valB (ts.take q) < 18446744073709551616 := by
        have h1 : (256 : Nat) ^ (q + 1) ≤ 256 ^ 8 := Nat.pow_le_pow_right (by omega) (by omega)
        rw [Nat.pow_succ] at h1
        have h2 : (256 : Nat) ^ 8 = 18446744073709551616 := by decide
        omega
      have hx : ts.getD q 0 < 256 := by
        have h3 : q < ts.length := by omega
        simp [List.getD, List.getElem?_eq_getElem h3]; exact hts.out _ (List.getElem_mem h3)
      have HV := Lib.hid (valB_take ts q (by omega))
      have HOR := Lib.hid (or_byte hv2 hx)
      generalize ts.getD q 0 = y at *
      clear hv hv2
      go_wp2
      go_round
      case rel => exact ⟨q + 1, by omega, by go_num, by rw [HOR.out, HV.out]⟩
      case measure => simp [intOf]; omega
    · obtain rfl : q = n := by omega
      go_wp2
      go_ret
      exact ⟨by rw [← HTE.out, List.take_of_length_le (by omega)]; rfl, HR.out, HO.out⟩

set_option maxHeartbeats 1000000 in
theorem oint_ok {B : Nat} {w : World} {R : Nat} {bs : List Nat} {z : Int} (h : OReaderAt B w R bs) (hl : 8 ≤ bs.length) (hb : ∀ x ∈ bs, x < 256) (hbig : bs.length ≤ 1000000000) (hz : IntKind.i64.wrap ((valB (bs.take 8) : Nat) : Int) = z) :
    Calls Tryd.prog 15 #[.pointer (some ⟨R, 0, none⟩)] w fun e w' => e = .returned (.int .i64 z) ∧ OReaderAt B w' R (bs.drop 8) ∧ Only (fun k => k = R) w w' := by
  have H := Lib.hid h
  have HB := Lib.hid hb
  clear h hb
  go_enter Tryd.func15, Tryd.ntmps15
  go_wp2_with fail
  refine (onum_ok (n := 8) H.out (by unfold Wide; omega) hl HB.out hbig).mono ?_
  rintro e w' ⟨rfl, hr, ho⟩
  have HR := Lib.hid hr
  have HO := Lib.hid ho
  clear hr ho
  generalize ((valB (bs.take 8) : Nat) : Int) = u at *
  go_wp2
  go_ret
  exact ⟨rfl, HR.out, HO.out⟩

set_option maxHeartbeats 1000000 in
theorem ocount_ok {B : Nat} {w : World} {R most n : Nat} {bs : List Nat} (h : OReaderAt B w R bs) (hl : 2 ≤ bs.length) (hb : ∀ x ∈ bs, x < 256) (hbig : bs.length ≤ 1000000000) (hn : valB (bs.take 2) = n) (hm : n ≤ most) (hm2 : most ≤ 1000000000) :
    Calls Tryd.prog 26 #[.pointer (some ⟨R, 0, none⟩), .int .i64 (most : Int)] w fun e w' => e = .returned (.int .i64 (n : Int)) ∧ OReaderAt B w' R (bs.drop 2) ∧ Only (fun k => k = R) w w' := by
  have H := Lib.hid h
  have HB := Lib.hid hb
  have hz : IntKind.i64.wrap (n : Int) = n := by rw [IntKind.wrap_i64]; omega
  have t0 : max (most : Int) 0 = most := by omega
  have t1 : decide ((most : Int) < n) = false := by simp; omega
  clear h hb
  go_enter Tryd.func26, Tryd.ntmps26
  go_wp2_with fail
  refine (onum_ok (n := 2) H.out (by unfold Wide; omega) hl HB.out hbig).mono ?_
  rw [hn]
  rintro e w' ⟨rfl, hr, ho⟩
  have HR := Lib.hid hr
  have HO := Lib.hid ho
  clear hr ho hn
  go_wp2
  go_ret
  exact ⟨rfl, HR.out, HO.out⟩

theorem drop_small {bs : List Nat} (n : Nat) (hb : ∀ x ∈ bs, x < 256) : ∀ x ∈ bs.drop n, x < 256 := fun x hx => hb x (List.mem_of_mem_drop hx)

set_option maxHeartbeats 1000000 in
theorem otext_ok {B : Nat} {w : World} {R most n : Nat} {bs : List Nat} (h : OReaderAt B w R bs) (hl : 2 + n ≤ bs.length) (hb : ∀ x ∈ bs, x < 256) (hbig : bs.length ≤ 1000000000) (hn : valB (bs.take 2) = n) (hm : n ≤ most) (hm2 : most ≤ 1000000000) :
    Calls Tryd.prog 16 #[.pointer (some ⟨R, 0, none⟩), .int .i64 (most : Int)] w fun e w' => e = .returned (.string (strOf ((bs.drop 2).take n))) ∧ OReaderAt B w' R ((bs.drop 2).drop n) ∧ Only (fun k => k = R) w w' := by
  have H := Lib.hid h
  have HB := Lib.hid hb
  clear h hb
  go_enter Tryd.func16, Tryd.ntmps16
  go_wp2_with fail
  refine (ocount_ok H.out (by omega) HB.out hbig hn hm hm2).mono ?_
  rintro e w1 ⟨rfl, hr, ho⟩
  have HR := Lib.hid hr
  have HO := Lib.hid ho
  clear hr ho hn
  go_wp2_with fail
  refine (take_ok HR.out (by rw [List.length_drop]; omega) (by rw [List.length_drop]; omega)).mono ?_
  rintro e w2 ⟨v, rfl, hlies, hr2, ho2⟩
  have hcv := text_of hlies
  have HR2 := Lib.hid hr2
  have HO2 := Lib.hid ho2
  clear hlies hr2 ho2
  go_wp2
  go_ret
  exact ⟨rfl, HR2.out, HO.out.trans HO2.out (fun _ _ h => h)⟩

set_option maxHeartbeats 1000000 in
theorem oraw_ok {B : Nat} {w : World} {R n : Nat} {bs : List Nat} (h : OReaderAt B w R bs) (hl : n ≤ bs.length) (hbig : bs.length ≤ 1000000000) :
    Calls Tryd.prog 17 #[.pointer (some ⟨R, 0, none⟩), .int .i64 (n : Int)] w fun e w' => ∃ v', e = .returned v' ∧ w'.ownsRow w.heap.size 5 1 v' n (u8s (bs.take n)) ∧ OReaderAt B w' R (bs.drop n) ∧ Only (fun k => k = R) w w' := by
  have H := Lib.hid h
  have hlen : (bs.take n).length = n := by rw [List.length_take]; omega
  clear h
  go_enter Tryd.func17, Tryd.ntmps17
  go_wp2_with fail
  refine (take_ok H.out hl hbig).mono ?_
  rintro e w1 ⟨v, rfl, hlies, hr, ho⟩
  have HR := Lib.hid hr
  have HO := Lib.hid ho
  have HL := Lib.hid hlies
  clear hlies hr ho
  go_wp2_with fail
  refine (clone_any HL.out (by omega)).mono ?_
  rintro e w2 ⟨v2, rfl, hown, hbel⟩
  rw [hlen] at hown
  go_wp2
  go_ret
  exact ⟨_, rfl, row_base hown HO.out.size, HR.out.beyond hbel, HO.out.trans (only_beyond (S := fun _ => False) hbel) (fun _ _ h => h.elim)⟩
end Go.Proofs.YtcomdobmkmbmeaaDoor
