/- A journal's sectors wiped. -/
import Derived.Test.YtngeilhdambgfaaDoorJoPut
import Derived.Test.YtngeilhdambgfaaDoorDvFlush
namespace Go.Proofs.YtngeilhdambgfaaDoor
open Go.RowKit

set_option maxRecDepth 1000000 in
set_option maxHeartbeats 4000000 in
theorem jowipe_bad {w : World} {B P : Nat} {d : Dev} {f n : Int} (h : DevAt w B P d) (hf2 : f ≤ 9223372036854775807) (hb : decide (0 ≤ f ∧ 1 ≤ n ∧ n ≤ (d.lies.length : Int) - f) = false) :
    Calls Tryd.prog 20 #[.pointer (some ⟨P, 0, none⟩), .int .i64 f, .int .i64 n] w fun e w' => e = .returned (.int .i64 1) ∧ w' = w := by
  have HH := Lib.hid (johas_any (n := n) h hf2)
  have HE := Lib.hid hb
  clear h hb
  go_enter Tryd.func20, Tryd.ntmps20
  go_wp2_with (go_at_call 22; refine (HH.out).mono ?_; rw [HE.out]; rintro e w' ⟨rfl, rfl⟩)
  go_ret
  exact ⟨rfl, rfl⟩
set_option maxRecDepth 1000000 in
set_option maxHeartbeats 4000000 in
theorem jowipe_ok {w : World} {B P frm n : Nat} {d : Dev} (h : DevAt w B P d) (hB : B ≤ w.heap.size) (hn : 1 ≤ n) (hr : frm + n ≤ d.lies.length) (hup : d.down = false) (ha : d.after = 0) (hm : d.waits.length ≤ 900000000) :
    Calls Tryd.prog 20 #[.pointer (some ⟨P, 0, none⟩), .int .i64 (frm : Int), .int .i64 (n : Int)] w fun e w' => e = .returned (.int .i64 0) ∧ DevAt w' B P (d.writes frm (List.replicate n [])).flush ∧ Kept P w w' := by
  have hN : d.lies.length ≤ 8192 := h.ok.size
  have HH := Lib.hid (johas_any (f := (frm : Int)) (n := (n : Int)) h (by omega))
  have HE : Hid (decide (0 ≤ (frm : Int) ∧ 1 ≤ (n : Int) ∧ (n : Int) ≤ (d.lies.length : Int) - (frm : Int)) = true) := Lib.hid (by simp; omega)
  have HD := Lib.hid h
  have HR := Lib.hid hr
  obtain ⟨L, hL⟩ : ∃ L : List (List Nat), L = List.replicate n [] := ⟨_, rfl⟩
  have hLl : L.length = n := by rw [hL, List.length_replicate]
  have HL : Hid (∀ i, i < n → L[i]? = some []) := Lib.hid (fun i hi => by rw [hL, List.getElem?_replicate, if_pos hi])
  have hn8 : frm + n ≤ 8192 := by omega
  rw [← hL]
  clear h hL hr
  go_enter Tryd.func20, Tryd.ntmps20
  go_wp2_with (go_at_call 22; refine (HH.out).mono ?_; rw [HE.out]; rintro e w1 ⟨rfl, rfl⟩)
  go_loopw [15] (fun x wr => ∃ i : Nat, i ≤ n ∧ x = .int .i64 (i : Int) ∧ DevAt wr B P (d.writes frm (L.take i)) ∧ Kept P w1 wr) (fun x _ => n - (intOf x).toNat)
  case atStart => exact ⟨0, by omega, rfl, by rw [List.take_zero, Dev.writes_nil]; exact HD.out, Kept.refl _ _⟩
  case round =>
    obtain ⟨i, hi, rfl, hd, hkp⟩ := hrel
    have HDi := Lib.hid hd
    have HKi := Lib.hid hkp
    clear hd hkp
    by_cases hlt : i < n
    · have e1 : IntKind.i64.wrap ((frm : Int) + (i : Int)) = ((frm + i : Nat) : Int) := by rw [IntKind.wrap_i64]; omega
      have hwt : (d.writes frm (L.take i)).waits.length ≤ 1000000000 := by
        show (d.waits ++ _).length ≤ _
        rw [List.length_append, posW_length, List.length_take]; omega
      have HW := Lib.hid (write_ok (at_ := frm + i) (v := .slice none 0 0) (bs := []) (d := d.writes frm (L.take i)) HDi.out (Nat.le_trans hB HKi.out.only.size) (.inl ⟨rfl, rfl⟩) hup ha (by have h1 := HR.out; show frm + i < d.lies.length; omega) (Nat.zero_le _) hwt)
      clear hwt
      go_wp2_with (go_at_call 31; refine (HW.out).mono ?_; rintro e w6 ⟨rfl, hd6, hk6⟩; have HD6 := Lib.hid hd6; have HK6 := Lib.hid hk6; clear hd6 hk6; dsimp only)
      go_roundw
      case rel => exact ⟨i + 1, by omega, by simp, by rw [← Dev.writes_next d frm (HL.out i hlt)]; exact HD6.out, HKi.out.trans HK6.out⟩
      case measure => simp [intOf]; omega
    · obtain rfl : i = n := by omega
      have HDe : Hid (DevAt wr B P (d.writes frm L)) := Lib.hid (by have := HDi.out; rw [List.take_of_length_le (by omega)] at this; exact this)
      go_wp2_with (go_at_call 24; refine (flush_ok HDe.out hup).mono ?_; rintro e w4 ⟨rfl, hd4, hk4⟩; have HD4 := Lib.hid hd4; have HK4 := Lib.hid hk4; clear hd4 hk4; dsimp only)
      go_ret
      exact ⟨rfl, HD4.out, HKi.out.trans HK4.out⟩
end Go.Proofs.YtngeilhdambgfaaDoor
