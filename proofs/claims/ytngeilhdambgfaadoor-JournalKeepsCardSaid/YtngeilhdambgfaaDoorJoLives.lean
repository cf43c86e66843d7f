/- The chapter's example. -/
import Derived.Test.YtngeilhdambgfaaDoorJoSess
import Derived.Test.YtngeilhdambgfaaDoorJoRead
import Derived.Test.YtngeilhdambgfaaDoorJoBegin
import Derived.Test.YtngeilhdambgfaaDoorDvNew
import Derived.Test.YtngeilhdambgfaaDoorDvCrash
namespace Go.Proofs.YtngeilhdambgfaaDoor
open Go.RowKit

/-- a journal on a new device -/
theorem sess_start {w1 w2 : World} {B J P N t frm n : Nat} (hd : DevAt w1 B P (Dev.fresh N)) (hB : B ≤ w1.heap.size) (hj : JAt w2 J P frm n t 0) (hJ : J = w1.heap.size) (hb : Below w1.heap.size w1 w2) (ht : t ≠ 0 ∧ t < 4294967296) (hr : frm + n ≤ N) : Sess B w2 J P true t frm n [] 0 (Dev.fresh N) :=
  ⟨hd.beyond hb, hj, JKeep.zero ht rfl rfl (by simpa [Dev.fresh] using hr) rfl (fun i y hi hy => by
    simp only [Dev.fresh, List.getElem?_replicate] at hy
    rw [if_pos (by omega)] at hy
    exact (Option.some.inj hy).symm), SmallD.fresh N, fun hh => by have := hd.lt (dblk_on hd hb hh); omega, by omega⟩
set_option maxRecDepth 1000000 in
set_option maxHeartbeats 8000000 in
theorem lives10_any (w : World) (hl : StepsLaid w) : Calls Tryd.prog 7 #[] w fun e w' => e = .returned (.bool true) ∧ Below w.heap.size w w' := by
  have hgB := hl.lt
  obtain ⟨B, hBB⟩ : ∃ B, B = w.heap.size := ⟨_, rfl⟩
  have HBW := Lib.hid hBB
  rw [← hBB] at hgB
  have HL := Lib.hid hl
  clear hl hBB
  have p1 : pieces 1 = 1 := by decide
  go_enter Tryd.func7, Tryd.ntmps7
  go_wp2_with (go_at_call 8; refine (new_ok (n := 9) (by omega) (by omega) w).mono ?_; rintro e w1 ⟨P, rfl, hd1, hb1⟩; have HD1 := Lib.hid hd1; have HB1 := Lib.hid hb1; clear hd1 hb1; dsimp only)
  rw [← HBW.out] at HD1 HB1
  refine (jonew_ok (frm := 1) (n := 6) (t := 7) HD1.out (by omega) (by simp [Dev.fresh]) (by omega)).mono ?_
  rintro e w2 ⟨J, rfl, hj2, hJ, hb2⟩
  have hs2 := sess_start HD1.out (by rw [HBW.out]; exact HB1.out.size) hj2 hJ hb2 (by omega) (by omega)
  have HS2 := Lib.hid hs2
  have HB2 : Hid (Below B w w2) := Lib.hid (HB1.out.trans (hb2.mono (by rw [HBW.out]; exact HB1.out.size)))
  clear hj2 hJ hb2 hs2
  dsimp only
  have HL2 : Hid (StepsLaid (w2.alloc (.cells (u8s [97]).toArray 5 (1, 2)))) := Lib.hid ((HL.out.keep HB2.out hgB).alloc _)
  have hB2 : B ≤ (w2.alloc (.cells (u8s [97]).toArray 5 (1, 2))).heap.size := by rw [World.size_alloc]; have := HB2.out.size; have := HBW.out; omega
  repeat (first | (go_at_call 11; refine (sess_commit (D := [97]) (HS2.out.on ((Below.refl _ _).alloc (Nat.le_refl _) _)) hB2 hgB HL2.out (const_lies w2 [97] (1, 2)) (by simp) (by show 0 + pieces 1 ≤ 6; omega)).mono ?_; rintro e w3 ⟨rfl, ⟨d3, hs3⟩, hk3⟩; have HS3 := Lib.hid hs3; have HB3 : Hid (Below B w w3) := Lib.hid ((HB2.out.alloc (by have := HB2.out.size; have := HBW.out; omega) _).trans ((HS2.out.on ((Below.refl _ _).alloc (Nat.le_refl _) _)).below hB2 hk3)); have hz3 : B ≤ w3.heap.size := Nat.le_trans (by rw [HBW.out]; exact Nat.le_refl _) HB3.out.size; have HL4 : Hid (StepsLaid (w3.alloc (.cells (u8s [98]).toArray 5 (1, 2)))) := Lib.hid ((HL.out.keep HB3.out hgB).alloc _); clear hs3 hk3; dsimp only) | (refine wpList_conv_const rfl 33 5 (.tmp 20) rfl (u8s [97]).toArray 1 1 rfl Tryd.underlying33 Tryd.underlying5 ?_) | (go_at_call 12; refine (sess_write (D := [98]) (HS3.out.on ((Below.refl _ _).alloc (Nat.le_refl _) _)) (by rw [World.size_alloc]; omega) hgB HL4.out (const_lies w3 [98] (1, 2)) (by simp) (by show (pieces 1 + 0) + pieces 1 ≤ 6; omega)).mono ?_; rintro e w4 ⟨rfl, ⟨d4, hs4⟩, hk4⟩; have HS4 := Lib.hid hs4; have HB4 : Hid (Below B w w4) := Lib.hid ((HB3.out.alloc hz3 _).trans ((HS3.out.on ((Below.refl _ _).alloc (Nat.le_refl _) _)).below (by rw [World.size_alloc]; omega) hk4)); clear hs4 hk4; dsimp only) | (refine wpList_conv_const rfl 33 5 (.tmp 24) rfl (u8s [98]).toArray 1 1 rfl Tryd.underlying33 Tryd.underlying5 ?_) | go_values | go_skip | go_guarded | go_step)
  have hz4 : B ≤ w4.heap.size := Nat.le_trans (by rw [HBW.out]; exact Nat.le_refl _) HB4.out.size
  go_wp2_with (go_at_call 16; refine (crash_any (keep := 0) (torn := -1) (bytes := 0) HS4.out.dev (by omega)).mono ?_; rintro e w5 ⟨rfl, hd5, hk5⟩; have HD5 := Lib.hid hd5; have HB5 : Hid (Below B w w5) := Lib.hid (HB4.out.trans (HS4.out.dev.below hz4 hk5)); clear hd5 hk5; dsimp only)
  have hz5 : B ≤ w5.heap.size := Nat.le_trans (by rw [HBW.out]; exact Nat.le_refl _) HB5.out.size
  go_wp2_with (go_at_call 17; refine (up_any HD5.out).mono ?_; rintro e w6 ⟨rfl, hd6, hk6⟩; have HD6 := Lib.hid hd6; have HB6 : Hid (Below B w w6) := Lib.hid (HB5.out.trans (HD5.out.below hz5 hk6)); clear hd6 hk6; dsimp only)
  have hok4 := HS4.out.dev.ok
  have hjk := HS4.out.jk.lost (-1) 0
  have hok6 := HD6.out.ok
  have hrd := hjk.reads hok6 rfl (by omega)
  have hft := hjk.first hok6 rfl (by omega)
  have HR := Lib.hid (joread_ok (frm := 1) (n := 6) HD6.out (by omega) hjk.range rfl ((HS4.out.sm.crash 0 (-1) 0).up))
  have hR : (([] ++ [[97]]) ++ [[98]] : List (List Nat)).take (([] : List (List Nat)).length + 1) = [[97]] := rfl
  rw [hrd, hft, hR, if_neg (by simp)] at HR
  clear hok4 hjk hok6 hrd hft
  go_wp2_with (go_at_call 18; refine (HR.out).mono ?_; rintro e w7 ⟨v, us, rfl, hro, hb7⟩; have HB7 := Lib.hid hb7; obtain ⟨a, c, rfl, hrows⟩ := hro.at; obtain ⟨b, off, ar, cr, rfl, cc, hli⟩ := rows_get (i := 0) (bs := [97]) hrows rfl; have x2 := text_of hli _ Tryd.underlying9; rw [show strOf [97] = ⟨#[97]⟩ from rfl] at x2; rw [Nat.add_zero] at cc; rw [show ([97] : List Nat).length = 1 from rfl] at cc x2; clear hro hb7 hrows hli; dsimp only)
  go_ret
  exact ⟨rfl, by
    have h := HB6.out.trans (HB7.out.mono (Nat.le_trans (by rw [HBW.out]; exact Nat.le_refl _) HB6.out.size))
    rw [HBW.out] at h
    exact h⟩
end Go.Proofs.YtngeilhdambgfaaDoor
