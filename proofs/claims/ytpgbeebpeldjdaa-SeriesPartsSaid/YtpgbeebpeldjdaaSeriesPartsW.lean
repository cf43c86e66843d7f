/- SeriesParts, walked. -/
import Derived.Test.YtpgbeebpeldjdaaSePlain
import Derived.Test.YtpgbeebpeldjdaaSeSame
import Derived.Test.YtpgbeebpeldjdaaPtApp
namespace Go.Proofs.Ytpgbeebpeldjdaa
open Go.RowKit

set_option maxHeartbeats 16000000 in
set_option maxRecDepth 1000000 in
theorem seriesParts_walk {w : World} {v : Value} {l : List Pt} (hv : PLies w v l) (hf : ∀ t ∈ l, t.fits) (hn : l.length ≤ maxLen) {a b c : Int} (_ha : -9223372036854775808 ≤ a) (_ha2 : a ≤ 9223372036854775807) (_hb : -9223372036854775808 ≤ b) (_hb2 : b ≤ 9223372036854775807) (_hc : -9223372036854775808 ≤ c) (_hc2 : c ≤ 9223372036854775807) :
    Calls Try.prog 4 #[v, .int .i64 a, .int .i64 b, .int .i64 c] w fun e w' => e = .returned (.bool true) ∧ Below w.heap.size w w' := by
  have HV := Lib.hid hv
  have HF := Lib.hid hf
  have HN := Lib.hid hn
  obtain ⟨a0, c0, rfl⟩ := hv.len
  clear hv hf hn
  go_enter Try.func4, Try.ntmps4
  go_wp2_with fail
  refine (selives_any w).mono ?_
  rintro e W1 ⟨rfl, hb⟩
  have HB1 := Lib.hid hb
  clear hb
  dsimp only
  by_cases hbig : 60 < l.length
  · have tb : decide ((60 : Int) < (l.length : Int)) = true := decide_eq_true (by omega)
    go_wp2_with fail
    refine (selives_any W1).mono ?_
    rintro e W2 ⟨rfl, hb⟩
    have HB2 := Lib.hid (HB1.out.trans (hb.mono HB1.out.size))
    clear hb
    go_wp2_with fail
    go_ret
    exact ⟨rfl, HB2.out⟩
  · have tb : decide ((60 : Int) < (l.length : Int)) = false := decide_eq_false (by omega)
    go_wp2_with fail
    refine (senew_any W1).mono ?_
    rintro e W2 ⟨rfl, hs, hb⟩
    obtain ⟨s, hsz⟩ : ∃ s, s = W1.heap.size := ⟨_, rfl⟩
    have HS2 : Hid (SerV W2 s (.slice none 0 0) []) := Lib.hid (by rw [hsz]; exact hs)
    have HB2 := Lib.hid (HB1.out.trans (hb.mono HB1.out.size))
    have HSW : Hid (w.heap.size ≤ s) := Lib.hid (by rw [hsz]; exact HB1.out.size)
    rw [← hsz]
    clear hs hb hsz
    dsimp only
    go_wp2_with fail
    have hput := seput_any HS2.out (HV.out.beyond HB2.out) HF.out HN.out
    obtain ⟨n, hnn⟩ : ∃ n, n = (putE [] l).1 := ⟨_, rfl⟩
    obtain ⟨z, hz⟩ : ∃ z, z = (putE [] l).2.1 := ⟨_, rfl⟩
    obtain ⟨S, hS⟩ : ∃ S, S = (putE [] l).2.2 := ⟨_, rfl⟩
    rw [← hnn, ← hz, ← hS] at hput
    clear hnn hS hz
    refine hput.mono ?_
    clear hput
    rintro e W3 ⟨rfl, ⟨v3, hs3, -⟩, ho3⟩
    have HS3 := Lib.hid hs3
    have HB3 : Hid (Below w.heap.size w W3) := Lib.hid (HB2.out.trans (ho3.below HB2.out.size (fun k hk => by rw [hk]; exact HSW.out)))
    clear hs3 ho3 HS2
    dsimp only
    by_cases hz0 : z = 0
    · subst hz0
      by_cases hab : b < a
      · have tab : decide (b < a) = true := decide_eq_true hab
        go_wp2_with fail
        go_ret
        exact ⟨rfl, HB3.out⟩
      · have tab : decide (b < a) = false := decide_eq_false hab
        by_cases hbc : c < b
        · have tbc : decide (c < b) = true := decide_eq_true hbc
          go_wp2_with fail
          go_ret
          exact ⟨rfl, HB3.out⟩
        · have tbc : decide (c < b) = false := decide_eq_false hbc
          have HPA : Hid (getL S a b ++ getL S b c = getL S a c) := Lib.hid (getL_parts HS3.out.good.srt (by omega) (by omega))
          have HL1 : Hid ((getL S a b).length ≤ 256) := Lib.hid (HS3.out.good.get a b).len
          have HL2 : Hid ((getL S b c).length ≤ 256) := Lib.hid (HS3.out.good.get b c).len
          clear hab hbc
          go_wp2_with fail
          refine (seget_any HS3.out a b).mono ?_
          rintro e W4 ⟨v4, rfl, hr4, hb4⟩
          have HR4 : Hid (PtRowB w.heap.size W4 v4 (getL S a b)) := Lib.hid (hr4.base HB3.out.size)
          have HS4 := Lib.hid (HS3.out.keep hb4)
          have HB4 := Lib.hid (HB3.out.trans (hb4.mono HB3.out.size))
          clear hr4 hb4
          dsimp only
          go_wp2_with fail
          refine (seget_any HS4.out b c).mono ?_
          rintro e W5 ⟨v5, rfl, hr5, hb5⟩
          have HR5 : Hid (PtRowB w.heap.size W5 v5 (getL S b c)) := Lib.hid (hr5.base HB4.out.size)
          have HR45 := Lib.hid (HR4.out.keep hb5)
          have HS5 := Lib.hid (HS4.out.keep hb5)
          have HB5 := Lib.hid (HB4.out.trans (hb5.mono HB4.out.size))
          clear hr5 hb5
          dsimp only
          have hbE : Below W5.heap.size W5 (W5.alloc (.cells #[] 26)) := (Below.refl _ _).alloc (Nat.le_refl _) _
          have HE := Lib.hid (own_emptyP W5)
          have HX4 := Lib.hid (HR45.out.src.keep hbE)
          have HX5 := Lib.hid HR5.out.src
          have HBE := Lib.hid hbE
          clear hbE
          repeat ((fail_if_success (with_reducible refine wpList_dst (some 54) rfl ?_)); first | ((with_reducible refine wpList_dst (some 53) rfl ?_); refine wpList_append_pts rfl (.tmp 51) (.tmp 52) rfl W5.heap.size (.slice (some ⟨W5.heap.size, 0, none⟩) 0 0) [] rfl HE.out v4 (getL S a b) rfl HX4.out (by have := HL1.out; simp; omega) (by simp) ?_; intro v6 W6 HR6 HG6) | go_values | go_skip | go_guarded | go_step)
          have hb6 : Below W5.heap.size W5 W6 := HBE.out.grown HG6.out (by simp) (fun b hb => (HE.out.lt b hb).1)
          have HX6 := Lib.hid (HX5.out.keep hb6)
          have HB6 := Lib.hid hb6
          have HS6 := Lib.hid (HS5.out.keep hb6)
          clear hb6 HX4 HX5 HE HBE HG6
          repeat (first | ((with_reducible refine wpList_dst (some 55) rfl ?_); refine wpList_append_pts rfl (.tmp 53) (.tmp 54) rfl W5.heap.size v6 ([] ++ getL S a b) rfl HR6.out v5 (getL S b c) rfl HX6.out (by have := HL1.out; have := HL2.out; simp; omega) HB6.out.size ?_; intro v7 W7 HR7 HG7) | go_values | go_skip | go_guarded | go_step)
          have hb7 : Below W5.heap.size W5 W7 := HB6.out.grown HG7.out HB6.out.size (fun b hb => (HR6.out.lt b hb).1)
          have HS7 := Lib.hid (HS5.out.keep hb7)
          have HB7 : Hid (Below w.heap.size w W7) := Lib.hid (HB5.out.trans (hb7.mono HB5.out.size))
          have HR7' : Hid (PtRowB W5.heap.size W7 v7 (getL S a c)) := Lib.hid (by rw [← HPA.out]; exact HR7.out)
          clear hb7 HX6 HB6 HS6 HG7 HR6 HR7
          refine (seget_any HS7.out a c).mono ?_
          rintro e W8 ⟨v8, rfl, hr8, hb8⟩
          have HR8 := Lib.hid hr8
          have HR78 := Lib.hid (HR7'.out.keep hb8)
          have HB8 := Lib.hid (HB7.out.trans (hb8.mono HB7.out.size))
          have HL3 : Hid ((getL S a c).length ≤ 256) := Lib.hid (HS7.out.good.get a c).len
          clear hr8 hb8
          dsimp only
          go_wp2_with fail
          refine (same14_any HR78.out.plies HR8.out.plies (by have := HL3.out; omega) (by have := HL3.out; omega)).mono ?_
          rintro e W9 ⟨rfl, mm, hw⟩
          have HB9 : Hid (Below w.heap.size w W9) := Lib.hid (by rw [hw]; exact HB8.out.trans ((only_drewN (fun _ => False) W8 mm).below HB8.out.size (fun _ h => h.elim)))
          clear hw
          go_wp2_with fail
          go_ret
          exact ⟨rfl, HB9.out⟩
    · have tz : (z != 0) = true := by simpa using hz0
      go_wp2_with fail
      go_ret
      exact ⟨rfl, HB3.out⟩
end Go.Proofs.Ytpgbeebpeldjdaa
