/- RollOf, walked. -/
import Derived.Test.YtdmlolagpbobeaaRoLives
import Derived.Test.YtdmlolagpbobeaaRoLaw
import Derived.Test.YtdmlolagpbobeaaPtApp
namespace Go.Proofs.Ytdmlolagpbobeaa
open Go.RowKit

theorem src_lies {w : World} {v : Value} {l : List Pt} (h : PLies w v l) (hne : l ≠ []) : SrcP w v l := by
  obtain ⟨a, b, off, cap, rfl, h1, h2⟩ := h
  have e := h1 hne
  subst e
  exact .inr ⟨_, cap, rfl, fun j u hu => by rw [add_at]; exact pts_cells h2 j u hu⟩
theorem ofA_of_one (k : Int) (g : List Pt) (v : Int) (h : g.length ≤ 1000000) : addA (ofA k g) v = ofA k (g ++ [⟨0, v⟩]) := ofA_add (p := ⟨0, v⟩) (by omega)
theorem right_of {k : Int} {l : List Pt} (hne : l ≠ []) : rightA (ofA k l) = true := by
  have key : ∀ g : List Pt, g ≠ [] → (ofA k g).lo ≤ (ofA k g).hi := by
    intro g
    refine rev_ind (P := fun g => g ≠ [] → (ofA k g).lo ≤ (ofA k g).hi) (fun h => absurd rfl h) (fun g p ih _ => ?_) g
    rw [ofA_snoc]
    unfold stepA
    by_cases h0 : (ofA k g).n = 0
    · rw [if_pos h0]; exact Int.le_refl _
    · rw [if_neg h0]
      have h1 := ih (by rintro rfl; exact h0 rfl)
      simp only
      (repeat' split) <;> omega
  unfold rightA
  have hn : (0 : Int) < (ofA k l).n := by
    rw [ofA_n]
    have := List.length_pos_iff.2 hne; omega
  rw [decide_eq_true hn, decide_eq_true (key l hne)]; rfl
set_option maxHeartbeats 16000000 in
set_option maxRecDepth 1000000 in
theorem rollOf_walk {w : World} {k x : Int} (hk0 : -9223372036854775808 ≤ k) (hk1 : k ≤ 9223372036854775807) {v : Value} {l : List Pt} (hv : PLies w v l) (_hfi : Fits v) (hf : ∀ p ∈ l, p.fits) (hm : l.length ≤ maxLen) (hx0 : -9223372036854775808 ≤ x) (hx1 : x ≤ 9223372036854775807) :
    Calls Try.prog 3 #[.int .i64 k, v, .int .i64 x] w fun e w' => e = .returned (.bool true) ∧ Below w.heap.size w w' := by
  have HV := Lib.hid hv
  have HF := Lib.hid hf
  obtain ⟨a, b, off, cap, rfl, hadr, hpts⟩ := hv
  have hmx : l.length ≤ 9223372036854775807 := by unfold maxLen at hm; omega
  clear hadr hpts hf hm
  by_cases h60 : 60 < l.length
  · have t60 : decide (60 < (l.length : Int)) = true := decide_eq_true (by omega)
    have t61 : decide (60 < l.length) = true := decide_eq_true h60
    clear h60
    go_enter Try.func3, Try.ntmps3
    go_wp2_with fail
    refine (rolives_any w).mono ?_
    rintro e W1 ⟨rfl, hb⟩
    have HB1 := Lib.hid hb
    clear hb
    dsimp only
    go_wp2_with fail
    refine (rolives_any W1).mono ?_
    rintro e W2 ⟨rfl, hb⟩
    have HB2 := Lib.hid (HB1.out.trans (hb.mono HB1.out.size))
    clear hb
    dsimp only
    go_wp2
    go_ret
    exact ⟨rfl, HB2.out⟩
  have t60 : decide (60 < (l.length : Int)) = false := decide_eq_false (by omega)
  have t61 : decide (60 < l.length) = false := decide_eq_false h60
  have HOF : Hid (∀ W, Below w.heap.size w W → Calls Try.prog 9 #[.int .i64 k, .slice a l.length cap] W fun e w' => e = .returned (.tuple #[agV (ofR k l), .bool (!l.isEmpty)]) ∧ Below W.heap.size W w') := Lib.hid fun W hb => roof_any hk0 hk1 (HV.out.beyond hb) HF.out (by omega)
  have HPT : Hid (∀ (W : World) (u : Value) (g : List Pt), PLies W u g → (∀ p ∈ g, p.fits) → g.length ≤ 1000000 → Calls Try.prog 10 #[.int .i64 k, u] W fun e w' => e = .returned (agV (ofA k g)) ∧ Below W.heap.size W w') := Lib.hid fun W u g h1 h2 h3 => lpts_any hk0 hk1 h1 h2 (by omega)
  have HAD : Hid (∀ (W : World) (t : Ag), t.fits → Calls Try.prog 11 #[agV t, .int .i64 x] W fun e w' => e = .returned (agV (addA t x)) ∧ Below W.heap.size W w') := Lib.hid fun W t ht => roadd_any W ht hx0 hx1
  have HK := Lib.hid (And.intro hk0 hk1)
  have HX := Lib.hid (And.intro hx0 hx1)
  have HFA := Lib.hid (ofA_fits hk0 hk1 HF.out (by omega))
  have HL : Hid (l.length ≤ 60) := Lib.hid (by omega)
  clear hk0 hk1 hx0 hx1 h60
  go_enter Try.func3, Try.ntmps3
  go_wp2_with fail
  refine (rolives_any w).mono ?_
  rintro e W1 ⟨rfl, hb⟩
  have HB1 := Lib.hid hb
  clear hb
  dsimp only
  go_wp2_with fail
  refine (HOF.out W1 HB1.out).mono ?_
  rintro e W2 ⟨rfl, hb⟩
  have HB2 := Lib.hid (HB1.out.trans (hb.mono HB1.out.size))
  clear hb
  dsimp only
  obtain ⟨R, hR⟩ : ∃ R, R = ofR k l := ⟨_, rfl⟩
  obtain ⟨S, hS⟩ : ∃ S, S = !l.isEmpty := ⟨_, rfl⟩
  rw [← hR, ← hS]
  have HR := Lib.hid hR
  have HS := Lib.hid hS
  clear hR hS HB1
  unfold agV
  go_upto_region 4 with fail
  refine wp_name fun W3 hW3 => ?_
  obtain ⟨P, hP⟩ : ∃ P, P = W2.heap.size := ⟨_, rfl⟩
  have hb3 : Below W2.heap.size W2 W3 := by rw [hW3.out]; exact (Below.refl _ _).alloc (Nat.le_refl _) _
  have HP3 : Hid (AgAt W3 P R) := Lib.hid (by rw [hW3.out, hP]; exact AgAt.new W2 R)
  have HB3 := Lib.hid (HB2.out.trans (hb3.mono HB2.out.size))
  rw [← hP]
  clear hb3 hW3 hP HB2
  go_wp2_with fail
  refine (HPT.out W3 _ l (HV.out.beyond HB3.out) HF.out (by have := HL.out; omega)).mono ?_
  rintro e W4 ⟨rfl, hb⟩
  have HP4 := Lib.hid (HP3.out.keep hb)
  have HB4 := Lib.hid (HB3.out.trans (hb.mono HB3.out.size))
  clear hb HP3 HB3
  dsimp only
  obtain ⟨T, hT⟩ : ∃ T, T = ofA k l := ⟨_, rfl⟩
  rw [← hT]
  have HT := Lib.hid hT
  rw [← hT] at HFA
  clear hT
  unfold agV
  go_upto_region 5 with fail
  refine wp_name fun W5 hW5 => ?_
  obtain ⟨Q, hQ⟩ : ∃ Q, Q = W4.heap.size := ⟨_, rfl⟩
  have hb5 : Below W4.heap.size W4 W5 := by rw [hW5.out]; exact (Below.refl _ _).alloc (Nat.le_refl _) _
  have HP5 := Lib.hid (HP4.out.keep hb5)
  have HQ5 : Hid (AgAt W5 Q T) := Lib.hid (by rw [hW5.out, hQ]; exact AgAt.new W4 T)
  have HB5 := Lib.hid (HB4.out.trans (hb5.mono HB4.out.size))
  rw [← hQ]
  clear hb5 hW5 hQ HB4 HP4
  obtain ⟨p0, p1, p2, p3, p4, -, -, -, -, -⟩ := HP5.out.cells
  obtain ⟨q0, q1, q2, q3, q4, -, -, -, -, -⟩ := HQ5.out.cells
  by_cases hl : l = []
  · subst hl
    obtain rfl : S = false := HS.out
    obtain rfl : R = zeroAg := HR.out
    obtain rfl : T = noAg k := HT.out
    have hadd := HAD.out W5 (noAg k) HFA.out
    rw [show addA (noAg k) x = ofA k ([] ++ [⟨0, x⟩]) from ofA_of_one k [] x (by simp)] at hadd
    obtain ⟨A, hA⟩ : ∃ A, A = ofA k ([] ++ [⟨0, x⟩]) := ⟨_, rfl⟩
    rw [← hA] at hadd
    have HA := Lib.hid hA
    have HADD := Lib.hid hadd
    unfold zeroAg at p0 p1 p2 p3 p4
    dsimp only at p0 p1 p2 p3 p4
    clear hadd hA q0 q1 q2 q3 q4 HAD HOF
    simp only [List.length_nil] at *
    go_wp2_with fail
    refine (HADD.out).mono ?_
    rintro e W6 ⟨rfl, hb⟩
    have HB6 := Lib.hid (HB5.out.trans (hb.mono HB5.out.size))
    clear hb HADD
    dsimp only
    go_wp2_with fail
    have hb7 : Below W6.heap.size W6 (W6.alloc (.cells #[.int .i64 0, .int .i64 x] 31)) := (Below.refl _ _).alloc (Nat.le_refl _) _
    have h7 := HPT.out (W6.alloc (.cells #[.int .i64 0, .int .i64 x] 31)) (.slice (some ⟨W6.heap.size, 0, none⟩) 1 1) [⟨0, x⟩] (builtV_lies W6 [⟨0, x⟩]) (by intro p hp; rw [List.mem_singleton.1 hp]; exact ⟨by simp, by simp, HX.out.1, HX.out.2⟩) (by simp)
    refine h7.mono ?_
    rintro e W7 ⟨rfl, hb⟩
    have HB7 := Lib.hid (HB6.out.trans ((hb7.trans (hb.mono hb7.size)).mono HB6.out.size))
    rw [show ofA k [⟨0, x⟩] = A from HA.out.symm]
    clear hb hb7 h7
    unfold agV
    dsimp only
    go_wp2
    go_ret
    exact ⟨rfl, HB7.out⟩
  · obtain rfl : S = true := by
      rw [HS.out]
      cases l with
      | nil => exact absurd rfl hl
      | cons => rfl
    obtain rfl : R = T := by rw [HR.out, HT.out]; unfold ofR; rw [if_neg hl]
    have hri := roright_any W5 R
    rw [show rightA R = true by rw [HT.out]; exact right_of hl] at hri
    have HRI := Lib.hid hri
    have HADD : Hid (∀ W, Calls Try.prog 11 #[.agg #[.int .i64 R.at_, .int .i64 R.n, .int .i64 R.s, .int .i64 R.lo, .int .i64 R.hi], .int .i64 x] W fun e w' => e = .returned (agV (addA R x)) ∧ Below W.heap.size W w') := Lib.hid fun W => HAD.out W R HFA.out
    have HAE : Hid (addA R x = ofA k (l ++ [⟨0, x⟩])) := Lib.hid (by rw [HT.out]; exact ofA_of_one k l x (by have := HL.out; omega))
    obtain ⟨A, hA⟩ : ∃ A, A = addA R x := ⟨_, rfl⟩
    rw [← hA] at HADD HAE
    have hln : ((l.length : Int) == 0) = false := by simpa using hl
    have hln2 : (l.length == 0) = false := by simpa using hl
    have hln3 : ¬ (l.length : Int) = 0 := by simpa using hl
    have HSRC : Hid (∀ W, Below w.heap.size w W → SrcP W (.slice a l.length cap) l) := Lib.hid fun W hb => src_lies (HV.out.beyond hb) hl
    have HXX : Hid (∀ p ∈ l ++ [⟨0, x⟩], p.fits) := Lib.hid fun p hp => by
      rcases List.mem_append.1 hp with h | h
      · exact HF.out p h
      · rw [List.mem_singleton.1 h]; exact ⟨by simp, by simp, HX.out.1, HX.out.2⟩
    clear hri hA hl q0 q1 q2 q3 q4 HR HS HT HAD HOF
    obtain ⟨q0, q1, q2, q3, q4, -, -, -, -, -⟩ := HQ5.out.cells
    repeat (first | go_values | go_skip | go_guarded | go_step)
    refine (HRI.out).mono ?_
    rintro e W6 ⟨rfl, hb⟩
    have HB6 := Lib.hid (HB5.out.trans (hb.mono HB5.out.size))
    have HP6 := Lib.hid (HP5.out.keep hb)
    obtain ⟨r0, r1, r2, r3, r4, -, -, -, -, -⟩ := HP6.out.cells
    clear hb p0 p1 p2 p3 p4 q0 q1 q2 q3 q4 HRI HP5 HQ5 HB5
    dsimp only
    repeat (first | go_values | go_skip | go_guarded | go_step)
    refine (HADD.out W6).mono ?_
    rintro e W7 ⟨rfl, hb⟩
    have HB7 := Lib.hid (HB6.out.trans (hb.mono HB6.out.size))
    clear hb r0 r1 r2 r3 r4 HADD HB6 HP6
    unfold agV
    dsimp only
    obtain ⟨E, hE⟩ : ∃ E, E = W7.alloc (.cells #[] 31) := ⟨_, rfl⟩
    have hbE : Below W7.heap.size W7 E := by rw [hE]; exact (Below.refl _ _).alloc (Nat.le_refl _) _
    have hBE := HB7.out.trans (hbE.mono HB7.out.size)
    have hRE : PtRowB W7.heap.size E (.slice (some ⟨W7.heap.size, 0, none⟩) 0 0) [] := by rw [hE]; exact own_emptyP W7
    obtain ⟨v8, W8, hj8, hr8, hb8⟩ := app_pts 22 hRE (HSRC.out E hBE) (by have := HL.out; simp; omega) hbE.size
    have hB8 : Below w.heap.size w W8 := HB7.out.trans ((hbE.trans hb8).mono HB7.out.size)
    obtain ⟨D, hD⟩ : ∃ D, D = W8.alloc (.cells #[.int .i64 0, .int .i64 x] 31) := ⟨_, rfl⟩
    have hbD : Below W8.heap.size W8 D := by rw [hD]; exact (Below.refl _ _).alloc (Nat.le_refl _) _
    have hl8 : PLies D (.slice (some ⟨W8.heap.size, 0, none⟩) 1 1) [⟨0, x⟩] := by rw [hD]; exact builtV_lies W8 [⟨0, x⟩]
    obtain ⟨v9, W9, hj9, hr9, hb9⟩ := app_pts 22 (hr8.keep hbD) (src_lies hl8 (by simp)) (by have := HL.out; simp; omega) (Nat.le_trans hbE.size (Nat.le_trans hb8.size hbD.size))
    have hB9 : Below w.heap.size w W9 := HB7.out.trans (((hbE.trans hb8).trans ((hbD.mono (Nat.le_trans hbE.size hb8.size)).trans hb9)).mono HB7.out.size)
    rw [hE] at hj8
    rw [hD] at hj9
    have HJ8 := Lib.hid hj8
    have HJ9 := Lib.hid hj9
    have HR9 : Hid (PtRowB W7.heap.size W9 v9 (l ++ [⟨0, x⟩])) := Lib.hid (by simpa using hr9)
    have HB9 := Lib.hid hB9
    clear hbE hBE hRE hj8 hr8 hb8 hB8 hbD hl8 hj9 hr9 hb9 hB9 hE hD
    repeat (first | ((with_reducible refine wpList_dst (some 66) rfl ?_); refine wpList_runs_want (some 66) rfl rfl (run_append_op (.tmp 64) (.tmp 65) 22 rfl rfl rfl HJ8.out) ?_) | ((with_reducible refine wpList_dst (some 70) rfl ?_); refine wpList_runs_want (some 70) rfl rfl (run_append_op (.tmp 66) (.tmp 69) 22 rfl rfl rfl HJ9.out) ?_) | go_values | go_skip | go_guarded | go_step)
    refine (HPT.out W9 v9 (l ++ [⟨0, x⟩]) HR9.out.plies HXX.out (by rw [List.length_append]; have := HL.out; simp; omega)).mono ?_
    rintro e W10 ⟨rfl, hb⟩
    have HB10 := Lib.hid (HB9.out.trans (hb.mono HB9.out.size))
    clear hb
    rw [← HAE.out]
    unfold agV
    dsimp only
    go_wp2
    go_ret
    exact ⟨rfl, HB10.out⟩
end Go.Proofs.Ytdmlolagpbobeaa
