/- SeriesAgain, walked. -/
import Derived.Test.YtpgbeebpeldjdaaSePlain
import Derived.Test.YtpgbeebpeldjdaaSeSame
import Derived.Test.YtpgbeebpeldjdaaSeCut
namespace Go.Proofs.Ytpgbeebpeldjdaa
open Go.RowKit

set_option maxHeartbeats 16000000 in
set_option maxRecDepth 1000000 in
theorem seriesAgain_walk {w : World} {v : Value} {l : List Pt} (hv : PLies w v l) (hf : ∀ t ∈ l, t.fits) (hn : l.length ≤ maxLen) {a b : Int} (_ha : -9223372036854775808 ≤ a ∧ a ≤ 9223372036854775807) (_hb : -9223372036854775808 ≤ b ∧ b ≤ 9223372036854775807) :
    Calls Try.prog 5 #[v, .agg #[.int .i64 a, .int .i64 b]] w fun e w' => e = .returned (.bool true) ∧ Below w.heap.size w w' := by
  have HV := Lib.hid hv
  have HF := Lib.hid hf
  have HN := Lib.hid hn
  obtain ⟨a0, c0, rfl⟩ := hv.len
  clear hv hf hn
  go_enter Try.func5, Try.ntmps5
  repeat (first | go_values | go_skip | go_guarded | go_step)
  refine calls_name ?_
  intro W0 hW0
  obtain ⟨P, hP⟩ : ∃ P, P = w.heap.size := ⟨_, rfl⟩
  have hb0 : Below w.heap.size w W0 := by rw [hW0.out]; exact (Below.refl _ _).alloc (Nat.le_refl _) _
  have HG0 : Hid (RgAt W0 P a b) := Lib.hid (by rw [hW0.out, hP]; exact RgAt.new w a b)
  have HV0 := Lib.hid (HV.out.beyond hb0)
  have HB0 := Lib.hid hb0
  rw [← hP]
  clear hW0 hb0 hP HV
  refine (selives_any W0).mono ?_
  rintro e W1 ⟨rfl, hb1⟩
  have HB1 : Hid (Below W0.heap.size W0 W1) := Lib.hid hb1
  clear hb1
  dsimp only
  by_cases hbig : 60 < l.length
  · have tb : decide ((60 : Int) < (l.length : Int)) = true := decide_eq_true (by omega)
    go_wp2_with fail
    refine (selives_any W1).mono ?_
    rintro e W2 ⟨rfl, hb⟩
    have HB2 := Lib.hid (HB1.out.trans (hb.mono HB1.out.size))
    clear hb
    go_wp2_with fail
    go_ret
    exact ⟨rfl, HB0.out.trans (HB2.out.mono HB0.out.size)⟩
  · have tb : decide ((60 : Int) < (l.length : Int)) = false := decide_eq_false (by omega)
    go_wp2_with fail
    refine (senew_any W1).mono ?_
    rintro e W2 ⟨rfl, hs, hb⟩
    obtain ⟨s, hsz⟩ : ∃ s, s = W1.heap.size := ⟨_, rfl⟩
    have HS2 : Hid (SerV W2 s (.slice none 0 0) []) := Lib.hid (by rw [hsz]; exact hs)
    have HB2 := Lib.hid (HB1.out.trans (hb.mono HB1.out.size))
    have HSW : Hid (W0.heap.size ≤ s) := Lib.hid (by rw [hsz]; exact HB1.out.size)
    rw [← hsz]
    clear hs hb hsz HB1
    dsimp only
    go_wp2_with fail
    have hput := seput_any HS2.out (HV0.out.beyond HB2.out) HF.out HN.out
    by_cases hz0 : (putE [] l).2.1 = 0
    · obtain ⟨hpe, hpo, hpl⟩ := putE_ok hz0
      rw [hpe] at hput
      simp only [List.length_nil, Int.natCast_zero, Int.sub_zero] at hput
      have HAG := Lib.hid (again_put hpo hpl)
      have HHAS : Hid (∀ p ∈ l, hasP (putL [] l) p.a = true) := Lib.hid fun p hp => put_has srt_nil hp
      clear hpe hpo hz0
      obtain ⟨S, hS⟩ : ∃ S, S = putL [] l := ⟨_, rfl⟩
      rw [← hS] at hput HAG HHAS hpl
      clear hS
      refine hput.mono ?_
      clear hput
      rintro e W3 ⟨rfl, ⟨v3, hs3, hor⟩, ho3⟩
      have HS3 := Lib.hid hs3
      have HB3 : Hid (Below W0.heap.size W0 W3) := Lib.hid (HB2.out.trans (ho3.below HB2.out.size (fun k hk => by rw [hk]; exact HSW.out)))
      have HF3 : Hid (∀ k, v3.ownBlock = some k → W0.heap.size ≤ k) := Lib.hid fun k hk => by
        rcases hor with rfl | hr
        · cases hk
        · exact Nat.le_trans HB2.out.size (hr.lt _ hk).1
      clear hs3 ho3 HS2 hor
      dsimp only
      go_wp2_with fail
      have hput := seput_any HS3.out (HV0.out.beyond HB3.out) HF.out HN.out
      rw [HAG.out] at hput
      refine hput.mono ?_
      clear hput
      rintro e W4 ⟨rfl, ⟨v4, hs4, hor⟩, ho4⟩
      have HS4 : Hid (SerV W4 s v4 S) := Lib.hid hs4
      have HB4 : Hid (Below W0.heap.size W0 W4) := Lib.hid (HB3.out.trans (ho4.below HB3.out.size (fun k hk => by rw [hk]; exact HSW.out)))
      have HF4 : Hid (∀ k, v4.ownBlock = some k → W0.heap.size ≤ k) := Lib.hid fun k hk => by
        rcases hor with rfl | hr
        · exact HF3.out k hk
        · exact Nat.le_trans HB3.out.size (hr.lt _ hk).1
      clear hs4 ho4 HS3 hor HF3 HB3 HAG
      dsimp only
      go_wp2_with fail
      have hget := seget_any HS4.out 0 2199023255552
      rw [all_get HS4.out.good] at hget
      refine hget.mono ?_
      clear hget
      rintro e W5 ⟨v5, rfl, hr5, hb5⟩
      have HR5 := Lib.hid (hr5.base HB4.out.size)
      have HS5 := Lib.hid (HS4.out.keep hb5)
      have HB5 := Lib.hid (HB4.out.trans (hb5.mono HB4.out.size))
      have HR5F : Hid (∀ k, v5.ownBlock = some k → ¬ SBlk s v4 k) := Lib.hid fun k hk h => by
        have h1 := (hr5.lt _ hk).1
        have h2 := h.lt HS4.out
        omega
      clear hr5 hb5
      obtain ⟨g0, g1, -, -⟩ := (HG0.out.keep HB5.out).cells
      dsimp only
      go_wp2_with fail
      have HPUT := Lib.hid (back_put HS5.out.good a b)
      have HGP := Lib.hid (HS5.out.good.get a b)
      have hget := seget_any HS5.out a b
      refine hget.mono ?_
      clear hget
      rintro e W6 ⟨v6, rfl, hr6, hb6⟩
      have HR6 := Lib.hid hr6
      have HR56 := Lib.hid (HR5.out.keep hb6)
      have HS6 := Lib.hid (HS5.out.keep hb6)
      have HB6 := Lib.hid (HB5.out.trans (hb6.mono HB5.out.size))
      have HR6F : Hid (∀ k, v6.ownBlock = some k → ¬ SBlk s v4 k) := Lib.hid fun k hk h => by
        have h1 := (hr6.lt _ hk).1
        have h2 := h.lt HS5.out
        omega
      clear hr6 hb6 g0 g1 HR5
      obtain ⟨g0, g1, -, -⟩ := (HG0.out.keep HB6.out).cells
      dsimp only
      go_wp2_with fail
      refine (secut_any HS6.out a b).mono ?_
      rintro e W7 ⟨rfl, ⟨v7, hs7, hv7⟩, ho7⟩
      have HS7 := Lib.hid hs7
      have HR67 : Hid (PtRowB W5.heap.size W7 v6 (getL S a b)) := Lib.hid (row_only HR6.out ho7 HR6F.out)
      have HR57 : Hid (PtRowB W0.heap.size W7 v5 S) := Lib.hid (row_only HR56.out ho7 HR5F.out)
      have HB7 : Hid (Below W0.heap.size W0 W7) := Lib.hid (HB6.out.trans (ho7.below HB6.out.size (fun k hk => by
        rcases hk with rfl | hk
        · exact HSW.out
        · exact HF4.out k hk)))
      have HV7 := Lib.hid hv7
      clear hs7 hv7 ho7 g0 g1 HR56 HR6 HS6 HS5 HS4
      obtain ⟨a5, c5, e5⟩ := own_slice HR57.out
      obtain ⟨a6, c6, e6⟩ := own_slice HR67.out
      subst e5
      subst e6
      obtain ⟨L, hL⟩ : ∃ L, L = getL S a b := ⟨_, rfl⟩
      obtain ⟨C, hC⟩ : ∃ C, C = cutL S a b := ⟨_, rfl⟩
      rw [← hC, ← hL] at HPUT
      rw [← hL] at HR67 HGP ⊢
      rw [← hC] at HS7
      clear hL hC
      dsimp only
      go_wp2_with fail
      have hput := seput_any HS7.out HR67.out.plies HGP.out.fits (by have := HGP.out.len; unfold maxLen; omega)
      rw [HPUT.out] at hput
      refine hput.mono ?_
      clear hput
      rintro e W8 ⟨rfl, ⟨v8, hs8, hor⟩, ho8⟩
      have HS8 : Hid (SerV W8 s v8 S) := Lib.hid hs8
      have HR58 : Hid (PtRowB W0.heap.size W8 (.slice a5 S.length c5) S) := Lib.hid (row_only HR57.out ho8 (fun k hk e => HR5F.out k hk (.inl e)))
      have HB8 : Hid (Below W0.heap.size W0 W8) := Lib.hid (HB7.out.trans (ho8.below HB7.out.size (fun k hk => by rw [hk]; exact HSW.out)))
      clear hs8 hor ho8 HS7 HR67 HR57
      dsimp only
      go_wp2_with fail
      have hget := seget_any HS8.out 0 2199023255552
      rw [all_get HS8.out.good] at hget
      refine hget.mono ?_
      clear hget
      rintro e W9 ⟨v9, rfl, hr9, hb9⟩
      have HR9 := Lib.hid hr9
      have HR59 := Lib.hid (HR58.out.keep hb9)
      have HS9 := Lib.hid (HS8.out.keep hb9)
      have HB9 := Lib.hid (HB8.out.trans (hb9.mono HB8.out.size))
      clear hr9 hb9 HR58 HS8
      dsimp only
      go_wp2_with fail
      refine (same14_any HR9.out.plies HR59.out.plies (by omega) (by omega)).mono ?_
      rintro e W10 ⟨rfl, mm, hw⟩
      have HB10' : Hid (Below W9.heap.size W9 W10) := Lib.hid (by rw [hw]; exact (only_drewN (fun _ => False) W9 mm).below (Nat.le_refl _) (fun _ h => h.elim))
      have HB10 := Lib.hid (HB9.out.trans (HB10'.out.mono HB9.out.size))
      have HS10 := Lib.hid (HS9.out.keep HB10'.out)
      have hd : decide (S = S) = true := decide_eq_true rfl
      rw [hd]
      clear hw hd
      dsimp only
      go_wp2_with fail
      refine (sefree_there HS10.out (HV0.out.beyond HB10.out) HHAS.out HN.out).mono ?_
      rintro e W11 ⟨rfl, hb11⟩
      have HB11 := Lib.hid (HB10.out.trans (hb11.mono HB10.out.size))
      clear hb11
      go_wp2_with fail
      go_ret
      exact ⟨rfl, HB0.out.trans (HB11.out.mono HB0.out.size)⟩
    · obtain ⟨hn0, hS0⟩ := putE_err hz0
      rw [hn0, hS0] at hput
      obtain ⟨z, hz⟩ : ∃ z, z = (putE [] l).2.1 := ⟨_, rfl⟩
      rw [← hz] at hput hz0
      clear hz hn0 hS0
      refine hput.mono ?_
      clear hput
      rintro e W3 ⟨rfl, ⟨v3, hs3, -⟩, ho3⟩
      have HS3 := Lib.hid hs3
      have HB3 : Hid (Below W0.heap.size W0 W3) := Lib.hid (HB2.out.trans (ho3.below HB2.out.size (fun k hk => by rw [hk]; exact HSW.out)))
      clear hs3 ho3 HS2
      have tz : (z != 0) = true := by simpa using hz0
      dsimp only
      go_wp2_with fail
      refine (selen_any HS3.out).mono ?_
      rintro e w' ⟨rfl, hw⟩
      replace hw := hw.symm
      subst hw
      go_wp2_with fail
      go_ret
      exact ⟨rfl, HB0.out.trans (HB3.out.mono HB0.out.size)⟩
end Go.Proofs.Ytpgbeebpeldjdaa
