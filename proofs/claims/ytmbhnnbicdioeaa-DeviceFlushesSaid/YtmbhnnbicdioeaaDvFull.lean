/- The law's own full; and its example. -/
import Derived.Test.YtmbhnnbicdioeaaDvJoin
import Derived.Test.YtmbhnnbicdioeaaDvNew
import Derived.Test.YtmbhnnbicdioeaaDvUp
import Derived.Test.YtmbhnnbicdioeaaDvFlush
import Derived.Test.YtmbhnnbicdioeaaDvWrite
import Derived.Test.YtmbhnnbicdioeaaDvCrash
namespace Go.Proofs.Ytmbhnnbicdioeaa
open Go.RowKit

def leftS : Value → Nat
  | .string s => 64 - s.size
  | _ => 0
set_option maxHeartbeats 2000000 in
theorem full_any (l : List Nat) (hl : l.length ≤ 1000000000) (w : World) : Calls Try.prog 11 #[.string (strOf l)] w fun e w' => e = .returned (.string (strOf (padB l))) ∧ w' = w := by
  go_enter Try.func11, Try.ntmps11
  go_wp2_with fail
  go_loopw [0] (fun v wr => ∃ k : Nat, v = .string (strOf (l ++ List.replicate k 0)) ∧ k ≤ 64 - l.length ∧ wr = w) (fun v _ => leftS v)
  case atStart => exact ⟨0, by simp, by omega, rfl⟩
  case round =>
    obtain ⟨k, rfl, hk, rfl⟩ := hrel
    have HS : Hid (strOf (l ++ List.replicate k 0) ++ ⟨#[0]⟩ = strOf (l ++ List.replicate (k + 1) 0)) := Lib.hid (by rw [List.replicate_succ', ← List.append_assoc, strOf_append (l ++ List.replicate k 0)]; rfl)
    have hsz : (strOf (l ++ List.replicate k 0)).size = l.length + k := by rw [strOf_size]; simp
    obtain ⟨s, hs⟩ : ∃ s, s = strOf (l ++ List.replicate k 0) := ⟨_, rfl⟩
    rw [← hs] at hsz HS ⊢
    have HSS := Lib.hid hs
    clear hs
    by_cases hlt : l.length + k < 64
    · have t1 : decide ((s.size : Int) < 64) = true := by rw [hsz]; simp only [decide_eq_true_eq]; omega
      go_wp2_with fail
      go_roundw
      case rel => exact ⟨k + 1, by rw [HS.out], by omega, by first | rfl | trivial⟩
      case measure => rw [HS.out]; simp only [leftS, hsz, strOf_size]; simp; omega
    · have t1 : decide ((s.size : Int) < 64) = false := by rw [hsz]; simp only [decide_eq_false_iff_not]; omega
      go_wp2_with fail
      go_ret
      have e : k = 64 - l.length := by omega
      exact ⟨by rw [HSS.out, e]; rfl, rfl⟩

theorem DevAt.kept_beyond {w W : World} {B P : Nat} {d : Dev} (h : DevAt w B P d) (hb : Below w.heap.size w W) : DevAt W B P d := h.beyond hb
/-- the example's device, behind each act -/
def exD : Dev := ((((((Dev.fresh 2).write 1 [97, 97]).flush).write 1 [98, 98]).crash 1 0 1).up)
theorem exD_read : ((exD.told.drop 1).take 1).flatten = 98 :: 97 :: List.replicate 62 0 := by decide +kernel
set_option maxHeartbeats 8000000 in
theorem lives_any (w : World) : Calls Try.prog 6 #[] w fun e w' => e = .returned (.bool true) ∧ Below w.heap.size w w' := by
  go_enter Try.func6, Try.ntmps6
  repeat (first | (go_at_call 7; refine (new_ok (n := 2) (by omega) (by omega) w).mono ?_; rintro e w1 ⟨P, rfl, hd1, hb1⟩; have HD1 := Lib.hid hd1; have HB1 := Lib.hid hb1; clear hd1 hb1; dsimp only) | (refine wpList_conv_const rfl 22 5 (.tmp 13) rfl (u8s [97, 97]).toArray 2 2 rfl Try.underlying22 Try.underlying5 ?_) | go_values | go_skip | go_guarded | go_step)
  have HC1 : Hid (DevAt (w1.alloc (.cells (u8s [97, 97]).toArray 5 (2, 3))) w.heap.size P (Dev.fresh 2)) := Lib.hid (HD1.out.beyond ((Below.refl _ w1).alloc (Nat.le_refl _) _))
  have hz1 : w.heap.size ≤ (w1.alloc (.cells (u8s [97, 97]).toArray 5 (2, 3))).heap.size := by have := HB1.out.size; simp; omega
  have HBC1 : Hid (Below w.heap.size w (w1.alloc (.cells (u8s [97, 97]).toArray 5 (2, 3)))) := Lib.hid (HB1.out.alloc HB1.out.size _)
  repeat (first | go_values | go_skip | go_guarded | go_step)
  refine (write_ok (at_ := 1) (bs := [97, 97]) HC1.out hz1 (const_lies w1 [97, 97] _) rfl rfl (by decide) (by decide) (by decide)).mono ?_
  rintro e w2 ⟨rfl, hd2, hk2⟩
  have HD2 := Lib.hid hd2
  have HB2 := Lib.hid (HBC1.out.trans (HC1.out.below hz1 hk2))
  clear hd2 hk2
  dsimp only
  repeat (first | go_values | go_skip | go_guarded | go_step)
  refine (flush_ok HD2.out rfl).mono ?_
  rintro e w3 ⟨rfl, hd3, hk3⟩
  have HD3 := Lib.hid hd3
  have HB3 := Lib.hid (HB2.out.trans (HD2.out.below HB2.out.size hk3))
  clear hd3 hk3
  dsimp only
  repeat (first | (refine wpList_conv_const rfl 22 5 (.tmp 19) rfl (u8s [98, 98]).toArray 2 2 rfl Try.underlying22 Try.underlying5 ?_) | go_values | go_skip | go_guarded | go_step)
  have HC3 : Hid (DevAt (w3.alloc (.cells (u8s [98, 98]).toArray 5 (2, 3))) w.heap.size P ((Dev.fresh 2).write 1 [97, 97]).flush) := Lib.hid (HD3.out.beyond ((Below.refl _ w3).alloc (Nat.le_refl _) _))
  have hz3 : w.heap.size ≤ (w3.alloc (.cells (u8s [98, 98]).toArray 5 (2, 3))).heap.size := by have := HB3.out.size; simp; omega
  have HBC3 : Hid (Below w.heap.size w (w3.alloc (.cells (u8s [98, 98]).toArray 5 (2, 3)))) := Lib.hid (HB3.out.alloc HB3.out.size _)
  refine (write_ok (at_ := 1) (bs := [98, 98]) HC3.out hz3 (const_lies w3 [98, 98] _) rfl rfl (by decide) (by decide) (by decide)).mono ?_
  rintro e w4 ⟨rfl, hd4, hk4⟩
  have HD4 := Lib.hid hd4
  have HB4 := Lib.hid (HBC3.out.trans (HC3.out.below hz3 hk4))
  clear hd4 hk4
  dsimp only
  repeat (first | go_values | go_skip | go_guarded | go_step)
  refine (crash_any (keep := 1) (torn := 0) (bytes := 1) HD4.out (by decide)).mono ?_
  rintro e w5 ⟨rfl, hd5, hk5⟩
  have HD5 := Lib.hid hd5
  have HB5 := Lib.hid (HB4.out.trans (HD4.out.below HB4.out.size hk5))
  clear hd5 hk5
  dsimp only
  repeat (first | go_values | go_skip | go_guarded | go_step)
  refine (up_any HD5.out).mono ?_
  rintro e w6 ⟨rfl, hd6, hk6⟩
  have HD6 : Hid (DevAt w6 w.heap.size P exD) := Lib.hid hd6
  have HB6 := Lib.hid (HB5.out.trans (HD5.out.below HB5.out.size hk6))
  clear hd6 hk6
  dsimp only
  repeat (first | go_values | go_skip | go_guarded | go_step)
  refine (read_ok (f := 1) (n := 1) HD6.out rfl (by decide +kernel)).mono ?_
  rintro e w7 ⟨v7, rfl, hown, hb7⟩
  rw [exD_read] at hown
  have HO7 := Lib.hid hown
  have HB7 := Lib.hid (HB6.out.trans (hb7.mono HB6.out.size))
  obtain ⟨g7, c7, hv7, hc7⟩ : ∃ g7 c7, v7 = .slice (some ⟨g7, 0, none⟩) 64 c7 ∧ 64 ≤ c7 := by
    rcases hown.2 with ⟨_, h0⟩ | ⟨g, cap, cur, hv, _, _, h1, _⟩
    · omega
    · exact ⟨g, cap, hv, by omega⟩
  subst hv7
  have hcv : (convert 22 9 (.slice (some ⟨g7, 0, none⟩) 3 c7)).run Try.prog w7 = .ok (.string ⟨#[98, 97, 0]⟩) w7 := by
    refine text_of (bs := [98, 97, 0]) (.inr (.inr ⟨g7, 0, c7, rfl, fun j hj => ?_⟩)) 9 Try.underlying9
    have hj3 : j < 3 := hj
    rw [Nat.zero_add, HO7.out.cellAt j (by omega), u8s_getD _ j (by simp; omega)]
    match j, hj3 with
    | 0, _ => rfl
    | 1, _ => rfl
    | 2, _ => rfl
  have h3c : 3 ≤ c7 := by omega
  have h3d : (3 : Int) ≤ (c7 : Int) := by omega
  have h30 : ¬ (c7 = 0) := by omega
  clear hown hb7
  dsimp only
  repeat (first | go_values | go_skip | go_guarded | go_step)
  go_ret
  exact ⟨rfl, HB7.out⟩
end Go.Proofs.Ytmbhnnbicdioeaa
