/- A journal made. -/
import Derived.Test.YtngeilhdambgfaaDoorJoAt
namespace Go.Proofs.YtngeilhdambgfaaDoor
open Go.RowKit

set_option maxHeartbeats 2000000 in
theorem jonew_ok {w : World} {B P frm n t : Nat} {d : Dev} (h : DevAt w B P d) (hn : 1 ≤ n) (hr : frm + n ≤ d.lies.length) (ht : t ≠ 0) : Calls Tryd.prog 9 #[.pointer (some ⟨P, 0, none⟩), .int .i64 (frm : Int), .int .i64 (n : Int), .int .u32 (t : Int)] w fun e w' =>
    ∃ J, e = .returned (.tuple #[.pointer (some ⟨J, 0, none⟩), .int .i64 0]) ∧ JAt w' J P frm n t 0 ∧ J = w.heap.size ∧ Below w.heap.size w w' := by
  have HD := Lib.hid h
  have hN : d.lies.length ≤ 8192 := h.ok.size
  have e1 : decide (0 ≤ (frm : Int) ∧ 1 ≤ (n : Int) ∧ (n : Int) ≤ (d.lies.length : Int) - (frm : Int)) = true := by simp; omega
  have HE := Lib.hid e1
  have hf2 : (frm : Int) ≤ 9223372036854775807 := by omega
  have t1 : ((t : Int) == 0) = false := by simp; omega
  clear h e1
  go_enter Tryd.func9, Tryd.ntmps9
  go_wp2_with (go_at_call 22; refine (johas_any HD.out hf2).mono ?_; rw [HE.out]; rintro e w' ⟨rfl, rfl⟩)
  go_ret2
  exact ⟨_, rfl, arr_new _ _ _, rfl, (Below.refl _ _).alloc (Nat.le_refl _) _⟩
set_option maxHeartbeats 2000000 in
theorem jonew_bad {w : World} {B P : Nat} {d : Dev} {f n t : Int} (h : DevAt w B P d) (hf2 : f ≤ 9223372036854775807) (hb : decide (0 ≤ f ∧ 1 ≤ n ∧ n ≤ (d.lies.length : Int) - f) = false ∨ t = 0) : Calls Tryd.prog 9 #[.pointer (some ⟨P, 0, none⟩), .int .i64 f, .int .i64 n, .int .u32 t] w fun e w' =>
    e = .returned (.tuple #[.pointer none, .int .i64 1]) ∧ w' = w := by
  have HD := Lib.hid h
  clear h
  obtain ⟨b, hbb⟩ : ∃ b, b = decide (0 ≤ f ∧ 1 ≤ n ∧ n ≤ (d.lies.length : Int) - f) := ⟨_, rfl⟩
  rw [← hbb] at hb
  have HE := Lib.hid hbb
  clear hbb
  go_enter Tryd.func9, Tryd.ntmps9
  cases b with
  | false =>
    clear hb
    go_wp2_with (go_at_call 22; refine (johas_any HD.out hf2).mono ?_; rw [← HE.out]; rintro e w' ⟨rfl, rfl⟩)
    go_ret2
    exact ⟨rfl, rfl⟩
  | true =>
    obtain rfl : t = 0 := hb.resolve_left (by simp)
    go_wp2_with (go_at_call 22; refine (johas_any HD.out hf2).mono ?_; rw [← HE.out]; rintro e w' ⟨rfl, rfl⟩)
    go_ret2
    exact ⟨rfl, rfl⟩
end Go.Proofs.YtngeilhdambgfaaDoor
