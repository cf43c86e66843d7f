/- What is armed counted and taken back; a device up again. -/
import Derived.Test.YtngeilhdambgfaaDoorDvAt
namespace Go.Proofs.YtngeilhdambgfaaDoor
open Go.RowKit

set_option maxHeartbeats 1000000 in
theorem count_none {w : World} {B P : Nat} {d : Dev} (h : DevAt w B P d) (ha : d.after = 0) : Calls Tryd.prog 40 #[.pointer (some ⟨P, 0, none⟩)] w fun e w' => e = .returned (.int .i64 0) ∧ w' = w := by
  obtain ⟨g1, g2, wv, h⟩ := h
  obtain ⟨_, _, _, _, c4, _⟩ := h.cells
  rw [ha] at c4
  clear h
  go_enter Tryd.func40, Tryd.ntmps40
  go_wp2
  go_ret
  exact ⟨rfl, rfl⟩
/-- nothing armed -/
def Dev.calm (d : Dev) : Dev := { d with after := 0, keep := 0, torn := 0, bytes := 0 }
theorem DevIn.free {w : World} {B P g1 g2 : Nat} {wv : Value} {d : Dev} (h : DevIn w B P g1 g2 wv d) (i : Nat) : w.frozen? ⟨P, i, none⟩ = false := h.blk.free i
set_option maxHeartbeats 4000000 in
theorem disarm_any {w : World} {B P g1 g2 : Nat} {wv : Value} {d : Dev} (h : DevIn w B P g1 g2 wv d) : Calls Tryd.prog 26 #[.pointer (some ⟨P, 0, none⟩)] w fun e w' => e = .returned (.tuple #[]) ∧ DevIn w' B P g1 g2 wv d.calm ∧ Only (fun k => k = P) w w' := by
  obtain ⟨_, _, _, _, c4, c5, c6, c7⟩ := h.cells
  have f4 := h.free 4
  have f5 := h.free 5
  have f6 := h.free 6
  have f7 := h.free 7
  have HD := Lib.hid h
  clear h
  go_enter Tryd.func26, Tryd.ntmps26
  go_wp2
  go_end0
  have HA := (((HD.out.blk.set 4 (.int .i64 0)).set 5 (.int .u64 0)).set 6 (.int .i64 0)).set 7 (.int .i64 0)
  have HO : Only (fun k => k = P) w ((((w.setCell ⟨P, 4, none⟩ (.int .i64 0)).setCell ⟨P, 5, none⟩ (.int .u64 0)).setCell ⟨P, 6, none⟩ (.int .i64 0)).setCell ⟨P, 7, none⟩ (.int .i64 0)) :=
    (((Only.setCell (S := fun k => k = P) _ (p := ⟨P, 4, none⟩) rfl _).trans (Only.setCell (S := fun k => k = P) _ (p := ⟨P, 5, none⟩) rfl _) (fun _ _ h => h)).trans (Only.setCell (S := fun k => k = P) _ (p := ⟨P, 6, none⟩) rfl _) (fun _ _ h => h)).trans (Only.setCell (S := fun k => k = P) _ (p := ⟨P, 7, none⟩) rfl _) (fun _ _ h => h)
  exact ⟨rfl, HD.out.reblk HO HA rfl rfl, HO⟩
set_option maxHeartbeats 4000000 in
theorem up_any {w : World} {B P : Nat} {d : Dev} (h : DevAt w B P d) : Calls Tryd.prog 17 #[.pointer (some ⟨P, 0, none⟩)] w fun e w' => e = .returned (.tuple #[]) ∧ DevAt w' B P d.up ∧ Kept P w w' := by
  obtain ⟨g1, g2, wv, h⟩ := h
  obtain ⟨_, _, _, c3, _⟩ := h.cells
  have f3 := h.free 3
  have HO : Hid (Only (fun k => k = P) w (w.setCell ⟨P, 3, none⟩ (.bool false))) := Lib.hid (Only.setCell (S := fun k => k = P) _ (p := ⟨P, 3, none⟩) rfl _)
  have HD1 : Hid (DevIn (w.setCell ⟨P, 3, none⟩ (.bool false)) B P g1 g2 wv { d with down := false }) := Lib.hid (h.reblk HO.out (h.blk.set 3 (.bool false)) rfl rfl)
  have HD := Lib.hid h
  clear h
  go_enter Tryd.func17, Tryd.ntmps17
  go_wp2_with (go_at_call 26; refine (disarm_any HD1.out).mono ?_; rintro e w' ⟨rfl, hd, ho⟩; have HD2 := Lib.hid hd; have HO2 := Lib.hid ho; clear hd ho)
  go_end0
  exact ⟨rfl, ⟨g1, g2, wv, HD2.out⟩, HD.out.keeps ((HO.out.trans HO2.out (fun _ _ h => h)).mono (fun _ _ h => .inl h)) HD2.out (fun _ h => .inl h)⟩
set_option maxHeartbeats 1000000 in
theorem up_none (w : World) : Calls Tryd.prog 17 #[.pointer none] w fun e w' => e = .returned (.tuple #[]) ∧ w' = w := by
  go_enter Tryd.func17, Tryd.ntmps17
  go_wp2
  (try simp only [Exit.inBlock, Exit.then])
  refine bodyPost_ret (results_none rfl _ _ _) rfl ?_
  exact ⟨rfl, rfl⟩
set_option maxHeartbeats 1000000 in
theorem crash_none (w : World) (x y z : Value) : Calls Tryd.prog 16 #[.pointer none, x, y, z] w fun e w' => e = .returned (.tuple #[]) ∧ w' = w := by
  go_enter Tryd.func16, Tryd.ntmps16
  go_wp2
  (try simp only [Exit.inBlock, Exit.then])
  refine bodyPost_ret (results_none rfl _ _ _) rfl ?_
  exact ⟨rfl, rfl⟩
set_option maxHeartbeats 1000000 in
theorem write_none (w : World) (x y : Value) : Calls Tryd.prog 31 #[.pointer none, x, y] w fun e w' => e = .returned (.int .i64 13) ∧ w' = w := by
  go_enter Tryd.func31, Tryd.ntmps31
  go_wp2_with (go_at_call 35; refine (down_none _).mono ?_; rintro e w' ⟨rfl, rfl⟩)
  go_ret
  exact ⟨rfl, rfl⟩
set_option maxHeartbeats 1000000 in
theorem flush_none (w : World) : Calls Tryd.prog 24 #[.pointer none] w fun e w' => e = .returned (.int .i64 13) ∧ w' = w := by
  go_enter Tryd.func24, Tryd.ntmps24
  go_wp2_with (go_at_call 35; refine (down_none _).mono ?_; rintro e w' ⟨rfl, rfl⟩)
  go_ret
  exact ⟨rfl, rfl⟩
end Go.Proofs.YtngeilhdambgfaaDoor
