/- PolicyStricter, walked. -/
import Derived.Test.YtbcbignlngcoiaaDoorPoLives
import Derived.Test.YtbcbignlngcoiaaDoorPoRight
import Derived.Test.YtbcbignlngcoiaaDoorPoStr
namespace Go.Proofs.YtbcbignlngcoiaaDoor
open Go.RowKit

/-- what the law holds: two policies, a range, the stricter one -/
structure PsSt (w : World) (P C : Nat) (a0 a1 a2 b0 b1 b2 frm til s0 s1 s2 : Int) (W : World) : Prop where
  pa : PolAt W P a0 a1 a2
  pb : PolAt W (P + 1) b0 b1 b2
  rg : RgAt W (P + 1 + 1) frm til
  pc : PolAt W C s0 s1 s2
  bel : Below w.heap.size w W
theorem PsSt.keep {w W W' : World} {P C : Nat} {a0 a1 a2 b0 b1 b2 frm til s0 s1 s2 : Int} (h : PsSt w P C a0 a1 a2 b0 b1 b2 frm til s0 s1 s2 W) (hb : Below W.heap.size W W') : PsSt w P C a0 a1 a2 b0 b1 b2 frm til s0 s1 s2 W' :=
  ⟨h.pa.keep hb, h.pb.keep hb, h.rg.keep hb, h.pc.keep hb, h.bel.trans (hb.mono h.bel.size)⟩
theorem PsSt.cells {w W : World} {P C : Nat} {a0 a1 a2 b0 b1 b2 frm til s0 s1 s2 : Int} (h : PsSt w P C a0 a1 a2 b0 b1 b2 frm til s0 s1 s2 W) :
    W.cell? ⟨P, 0, none⟩ = some (.int .i64 a0) ∧ W.cell? ⟨P, 1, none⟩ = some (.int .i64 a1) ∧ W.cell? ⟨P, 2, none⟩ = some (.int .i64 a2) ∧
    W.cell? ⟨P + 1, 0, none⟩ = some (.int .i64 b0) ∧ W.cell? ⟨P + 1, 1, none⟩ = some (.int .i64 b1) ∧ W.cell? ⟨P + 1, 2, none⟩ = some (.int .i64 b2) ∧
    W.cell? ⟨P + 1 + 1, 0, none⟩ = some (.int .i64 frm) ∧ W.cell? ⟨P + 1 + 1, 1, none⟩ = some (.int .i64 til) ∧
    W.cell? ⟨C, 0, none⟩ = some (.int .i64 s0) ∧ W.cell? ⟨C, 1, none⟩ = some (.int .i64 s1) ∧ W.cell? ⟨C, 2, none⟩ = some (.int .i64 s2) :=
  ⟨h.pa.cells.1, h.pa.cells.2.1, h.pa.cells.2.2.1, h.pb.cells.1, h.pb.cells.2.1, h.pb.cells.2.2.1, h.rg.cells.1, h.rg.cells.2.1, h.pc.cells.1, h.pc.cells.2.1, h.pc.cells.2.2.1⟩
theorem of_less (a0 a1 a2 b0 b1 b2 k : Int) : ofP (lessP a0 b0) (lessP a1 b1) (lessP a2 b2) k = lessP (ofP a0 a1 a2 k) (ofP b0 b1 b2 k) := by
  unfold ofP; split
  · rfl
  · split
    · rfl
    · split <;> rfl
theorem of_low {a b c : Int} (h : RightP a b c) (k : Int) : 0 ≤ ofP a b c k := by
  obtain ⟨h1, h2, h3, -⟩ := h
  unfold ofP; split
  · exact h1.1
  · split
    · exact h2.1
    · split
      · exact h3.1
      · exact Int.le_refl _
set_option maxHeartbeats 16000000 in
set_option maxRecDepth 1000000 in
theorem policyStricter_walk {w : World} {a0 a1 a2 b0 b1 b2 k frm til now later : Int} (_ : -9223372036854775808 ≤ a0 ∧ a0 ≤ 9223372036854775807) (_ : -9223372036854775808 ≤ a1 ∧ a1 ≤ 9223372036854775807) (_ : -9223372036854775808 ≤ a2 ∧ a2 ≤ 9223372036854775807)
    (_ : -9223372036854775808 ≤ b0 ∧ b0 ≤ 9223372036854775807) (_ : -9223372036854775808 ≤ b1 ∧ b1 ≤ 9223372036854775807) (_ : -9223372036854775808 ≤ b2 ∧ b2 ≤ 9223372036854775807)
    (_ : -9223372036854775808 ≤ k) (_ : k ≤ 9223372036854775807) (_ : -9223372036854775808 ≤ frm ∧ frm ≤ 9223372036854775807) (_ : -9223372036854775808 ≤ til ∧ til ≤ 9223372036854775807)
    (n0 : -9223372036854775808 ≤ now) (n1 : now ≤ 9223372036854775807) (l0 : 0 ≤ later) (l1 : later ≤ 4294967295) (_ : True) (_ : True) (hp : PowLaid w) :
    Calls Tryd.prog 3 #[.agg #[.int .i64 a0, .int .i64 a1, .int .i64 a2], .agg #[.int .i64 b0, .int .i64 b1, .int .i64 b2], .int .i64 k, .agg #[.int .i64 frm, .int .i64 til], .int .i64 now, .int .u32 later] w fun e w' => e = .returned (.bool true) ∧ Below w.heap.size w w' := by
  obtain ⟨RA, hRA⟩ : ∃ x, x = rightP a0 a1 a2 := ⟨_, rfl⟩
  obtain ⟨RB, hRB⟩ : ∃ x, x = rightP b0 b1 b2 := ⟨_, rfl⟩
  obtain ⟨s0, hs0⟩ : ∃ x, x = lessP a0 b0 := ⟨_, rfl⟩
  obtain ⟨s1, hs1⟩ : ∃ x, x = lessP a1 b1 := ⟨_, rfl⟩
  obtain ⟨s2, hs2⟩ : ∃ x, x = lessP a2 b2 := ⟨_, rfl⟩
  obtain ⟨RC, hRC⟩ : ∃ x, x = rightP s0 s1 s2 := ⟨_, rfl⟩
  obtain ⟨GA, hGA⟩ : ∃ x, x = goneP (ofP a0 a1 a2 k) til now := ⟨_, rfl⟩
  obtain ⟨GB, hGB⟩ : ∃ x, x = goneP (ofP b0 b1 b2 k) til now := ⟨_, rfl⟩
  obtain ⟨GC, hGC⟩ : ∃ x, x = goneP (ofP s0 s1 s2 k) til now := ⟨_, rfl⟩
  obtain ⟨NL, hNL⟩ : ∃ x, x = wrap64 (now + later) := ⟨_, rfl⟩
  have hNL1 : -9223372036854775808 ≤ NL ∧ NL ≤ 9223372036854775807 := by rw [hNL]; unfold wrap64; omega
  obtain ⟨GL, hGL⟩ : ∃ x, x = goneP (ofP s0 s1 s2 k) til NL := ⟨_, rfl⟩
  have HRC2 : Hid (RA = true → RB = true → RC = true) := Lib.hid fun h1 h2 => by
    rw [hRC, hs0, hs1, hs2]
    exact decide_eq_true (right_less (right_of (hRA.symm.trans h1)) (right_of (hRB.symm.trans h2)))
  have HGG : Hid (RA = true → RB = true → now ≤ 1125899906842624 → GC = (GA || GB) ∧ (GC = true → GL = true)) := Lib.hid fun h1 h2 h3 => by
    have g1 := of_low (right_of (hRA.symm.trans h1)) k
    have g2 := of_low (right_of (hRB.symm.trans h2)) k
    refine ⟨?_, fun h => ?_⟩
    · rw [hGC, hGA, hGB, hs0, hs1, hs2, of_less]; exact gone_less g1 g2 til now
    · rw [hGL, show NL = now + later by rw [hNL]; unfold wrap64; omega]
      exact gone_later l0 (hGC.symm.trans h)
  have HRA : Hid (∀ W, Calls Tryd.prog 8 #[.agg #[.int .i64 a0, .int .i64 a1, .int .i64 a2]] W fun e w' => e = .returned (.bool RA) ∧ Below W.heap.size W w') := Lib.hid fun W => by rw [hRA]; exact lpright_any W a0 a1 a2
  have HRB : Hid (∀ W, Calls Tryd.prog 8 #[.agg #[.int .i64 b0, .int .i64 b1, .int .i64 b2]] W fun e w' => e = .returned (.bool RB) ∧ Below W.heap.size W w') := Lib.hid fun W => by rw [hRB]; exact lpright_any W b0 b1 b2
  have HRC : Hid (∀ W, Calls Tryd.prog 8 #[.agg #[.int .i64 s0, .int .i64 s1, .int .i64 s2]] W fun e w' => e = .returned (.bool RC) ∧ Below W.heap.size W w') := Lib.hid fun W => by rw [hRC]; exact lpright_any W s0 s1 s2
  have HST : Hid (∀ W, Calls Tryd.prog 7 #[.agg #[.int .i64 a0, .int .i64 a1, .int .i64 a2], .agg #[.int .i64 b0, .int .i64 b1, .int .i64 b2]] W fun e w' => e = .returned (.agg #[.int .i64 s0, .int .i64 s1, .int .i64 s2]) ∧ Below W.heap.size W w') := Lib.hid fun W => by rw [hs0, hs1, hs2]; exact postrict_any W a0 a1 a2 b0 b1 b2
  have HGA : Hid (∀ W, Calls Tryd.prog 9 #[.agg #[.int .i64 a0, .int .i64 a1, .int .i64 a2], .int .i64 k, .agg #[.int .i64 frm, .int .i64 til], .int .i64 now] W fun e w' => e = .returned (.bool GA) ∧ Below W.heap.size W w') := Lib.hid fun W => by rw [hGA]; exact pogone_any W a0 a1 a2 k frm til now ⟨n0, n1⟩
  have HGB : Hid (∀ W, Calls Tryd.prog 9 #[.agg #[.int .i64 b0, .int .i64 b1, .int .i64 b2], .int .i64 k, .agg #[.int .i64 frm, .int .i64 til], .int .i64 now] W fun e w' => e = .returned (.bool GB) ∧ Below W.heap.size W w') := Lib.hid fun W => by rw [hGB]; exact pogone_any W b0 b1 b2 k frm til now ⟨n0, n1⟩
  have HGC : Hid (∀ W, Calls Tryd.prog 9 #[.agg #[.int .i64 s0, .int .i64 s1, .int .i64 s2], .int .i64 k, .agg #[.int .i64 frm, .int .i64 til], .int .i64 now] W fun e w' => e = .returned (.bool GC) ∧ Below W.heap.size W w') := Lib.hid fun W => by rw [hGC]; exact pogone_any W s0 s1 s2 k frm til now ⟨n0, n1⟩
  have HGL : Hid (∀ W, Calls Tryd.prog 9 #[.agg #[.int .i64 s0, .int .i64 s1, .int .i64 s2], .int .i64 k, .agg #[.int .i64 frm, .int .i64 til], .int .i64 NL] W fun e w' => e = .returned (.bool GL) ∧ Below W.heap.size W w') := Lib.hid fun W => by rw [hGL]; exact pogone_any W s0 s1 s2 k frm til NL hNL1
  rw [hNL] at HGL
  have HPW := Lib.hid hp
  clear hRA hRB hs0 hs1 hs2 hRC hGA hGB hGC hGL hNL1 hNL hp
  go_enter Tryd.func3, Tryd.ntmps3
  go_upto_region 1 with fail
  refine wp_name fun W1 hW1 => ?_
  obtain ⟨P, hP⟩ : ∃ P, P = w.heap.size := ⟨_, rfl⟩
  have e2 : (w.alloc (.cells #[.int .i64 a0, .int .i64 a1, .int .i64 a2] 23)).heap.size = P + 1 := by rw [hP]; simp
  have e3 : ((w.alloc (.cells #[.int .i64 a0, .int .i64 a1, .int .i64 a2] 23)).alloc (.cells #[.int .i64 b0, .int .i64 b1, .int .i64 b2] 23)).heap.size = P + 1 + 1 := by rw [hP]; simp
  have HA1 : Hid (PolAt W1 P a0 a1 a2) := Lib.hid (by rw [hW1.out, hP]; exact ((PolAt.new w a0 a1 a2).old _).old _)
  have HB1 : Hid (PolAt W1 (P + 1) b0 b1 b2) := Lib.hid (by rw [hW1.out, ← e2]; exact (PolAt.new _ b0 b1 b2).old _)
  have HR1 : Hid (RgAt W1 (P + 1 + 1) frm til) := Lib.hid (by rw [hW1.out, ← e3]; exact RgAt.new _ frm til)
  have HW1 : Hid (Below w.heap.size w W1) := Lib.hid (by rw [hW1.out]; exact (((Below.refl _ _).alloc (Nat.le_refl _) _).alloc (by simp) _).alloc (by simp; omega) _)
  rw [← hP]
  clear hW1 hP e2 e3
  go_wp2_with fail
  refine (lplives_any (HPW.out.keep HW1.out)).mono ?_
  rintro e W2 ⟨rfl, hb⟩
  have HA2 := Lib.hid (HA1.out.keep hb)
  have HB2 := Lib.hid (HB1.out.keep hb)
  have HR2 := Lib.hid (HR1.out.keep hb)
  have HW2 := Lib.hid (HW1.out.trans (hb.mono HW1.out.size))
  clear hb HA1 HB1 HR1 HW1
  dsimp only
  obtain ⟨a0c, a1c, a2c, -, -, -⟩ := HA2.out.cells
  obtain ⟨b0c, b1c, b2c, -, -, -⟩ := HB2.out.cells
  go_wp2_with fail
  refine (HST.out W2).mono ?_
  rintro e W3 ⟨rfl, hb⟩
  have HA3 := Lib.hid (HA2.out.keep hb)
  have HB3 := Lib.hid (HB2.out.keep hb)
  have HR3 := Lib.hid (HR2.out.keep hb)
  have HW3 := Lib.hid (HW2.out.trans (hb.mono HW2.out.size))
  clear hb HA2 HB2 HR2 HW2 a0c a1c a2c b0c b1c b2c
  dsimp only
  go_upto_region 4 with fail
  refine wp_name fun W4 hW4 => ?_
  obtain ⟨C, hC⟩ : ∃ C, C = W3.heap.size := ⟨_, rfl⟩
  have H4 : Hid (PsSt w P C a0 a1 a2 b0 b1 b2 frm til s0 s1 s2 W4) := Lib.hid (by
    rw [hW4.out, hC]
    exact ⟨HA3.out.old _, HB3.out.old _, HR3.out.old _, PolAt.new W3 s0 s1 s2, HW3.out.alloc HW3.out.size _⟩)
  rw [← hC]
  clear hW4 hC HA3 HB3 HR3 HW3
  obtain ⟨a0c, a1c, a2c, b0c, b1c, b2c, r0c, r1c, s0c, s1c, s2c⟩ := H4.out.cells
  cases RA with
  | false =>
    go_wp2_with fail
    refine (HRA.out W4).mono ?_
    rintro e W5 ⟨rfl, hb⟩
    have H5 := Lib.hid (H4.out.keep hb)
    clear hb H4 a0c a1c a2c b0c b1c b2c r0c r1c s0c s1c s2c
    obtain ⟨a0c, a1c, a2c, b0c, b1c, b2c, r0c, r1c, s0c, s1c, s2c⟩ := H5.out.cells
    dsimp only
    go_wp2_with fail
    refine (HRA.out W5).mono ?_
    rintro e W6 ⟨rfl, hb⟩
    have H6 := Lib.hid (H5.out.keep hb)
    clear hb H5 a0c a1c a2c b0c b1c b2c r0c r1c s0c s1c s2c
    obtain ⟨a0c, a1c, a2c, b0c, b1c, b2c, r0c, r1c, s0c, s1c, s2c⟩ := H6.out.cells
    dsimp only
    go_wp2
    go_ret
    exact ⟨rfl, H6.out.bel⟩
  | true =>
    cases RB with
    | false =>
      go_wp2_with fail
      refine (HRA.out W4).mono ?_
      rintro e W5 ⟨rfl, hb⟩
      have H5 := Lib.hid (H4.out.keep hb)
      clear hb H4 a0c a1c a2c b0c b1c b2c r0c r1c s0c s1c s2c
      obtain ⟨a0c, a1c, a2c, b0c, b1c, b2c, r0c, r1c, s0c, s1c, s2c⟩ := H5.out.cells
      dsimp only
      go_wp2_with fail
      refine (HRB.out W5).mono ?_
      rintro e W6 ⟨rfl, hb⟩
      have H6 := Lib.hid (H5.out.keep hb)
      clear hb H5 a0c a1c a2c b0c b1c b2c r0c r1c s0c s1c s2c
      obtain ⟨a0c, a1c, a2c, b0c, b1c, b2c, r0c, r1c, s0c, s1c, s2c⟩ := H6.out.cells
      dsimp only
      go_wp2_with fail
      refine (HRA.out W6).mono ?_
      rintro e W7 ⟨rfl, hb⟩
      have H7 := Lib.hid (H6.out.keep hb)
      clear hb H6 a0c a1c a2c b0c b1c b2c r0c r1c s0c s1c s2c
      obtain ⟨a0c, a1c, a2c, b0c, b1c, b2c, r0c, r1c, s0c, s1c, s2c⟩ := H7.out.cells
      dsimp only
      go_wp2_with fail
      refine (HRB.out W7).mono ?_
      rintro e W8 ⟨rfl, hb⟩
      have H8 := Lib.hid (H7.out.keep hb)
      clear hb H7 a0c a1c a2c b0c b1c b2c r0c r1c s0c s1c s2c
      obtain ⟨a0c, a1c, a2c, b0c, b1c, b2c, r0c, r1c, s0c, s1c, s2c⟩ := H8.out.cells
      dsimp only
      go_wp2
      go_ret
      exact ⟨rfl, H8.out.bel⟩
    | true =>
      obtain rfl : RC = true := HRC2.out rfl rfl
      by_cases hbig : 1125899906842624 < now
      · have tbig : decide (1125899906842624 < now) = true := decide_eq_true hbig
        clear hbig
        go_wp2_with fail
        refine (HRA.out W4).mono ?_
        rintro e W5 ⟨rfl, hb⟩
        have H5 := Lib.hid (H4.out.keep hb)
        clear hb H4 a0c a1c a2c b0c b1c b2c r0c r1c s0c s1c s2c
        obtain ⟨a0c, a1c, a2c, b0c, b1c, b2c, r0c, r1c, s0c, s1c, s2c⟩ := H5.out.cells
        dsimp only
        go_wp2_with fail
        refine (HRB.out W5).mono ?_
        rintro e W6 ⟨rfl, hb⟩
        have H6 := Lib.hid (H5.out.keep hb)
        clear hb H5 a0c a1c a2c b0c b1c b2c r0c r1c s0c s1c s2c
        obtain ⟨a0c, a1c, a2c, b0c, b1c, b2c, r0c, r1c, s0c, s1c, s2c⟩ := H6.out.cells
        dsimp only
        go_wp2_with fail
        refine (HRC.out W6).mono ?_
        rintro e W7 ⟨rfl, hb⟩
        have H7 := Lib.hid (H6.out.keep hb)
        clear hb H6 a0c a1c a2c b0c b1c b2c r0c r1c s0c s1c s2c
        obtain ⟨a0c, a1c, a2c, b0c, b1c, b2c, r0c, r1c, s0c, s1c, s2c⟩ := H7.out.cells
        dsimp only
        go_wp2_with fail
        refine (HRA.out W7).mono ?_
        rintro e W8 ⟨rfl, hb⟩
        have H8 := Lib.hid (H7.out.keep hb)
        clear hb H7 a0c a1c a2c b0c b1c b2c r0c r1c s0c s1c s2c
        obtain ⟨a0c, a1c, a2c, b0c, b1c, b2c, r0c, r1c, s0c, s1c, s2c⟩ := H8.out.cells
        dsimp only
        go_wp2_with fail
        refine (HRB.out W8).mono ?_
        rintro e W9 ⟨rfl, hb⟩
        have H9 := Lib.hid (H8.out.keep hb)
        clear hb H8 a0c a1c a2c b0c b1c b2c r0c r1c s0c s1c s2c
        obtain ⟨a0c, a1c, a2c, b0c, b1c, b2c, r0c, r1c, s0c, s1c, s2c⟩ := H9.out.cells
        dsimp only
        go_wp2
        go_ret
        exact ⟨rfl, H9.out.bel⟩
      · have tbig : decide (1125899906842624 < now) = false := decide_eq_false hbig
        clear hbig
        obtain ⟨hg1, hg2⟩ := HGG.out rfl rfl (by simpa using tbig)
        cases GA with
        | true =>
          obtain rfl : GC = true := by rw [hg1]; rfl
          obtain rfl : GL = true := hg2 rfl
          clear hg1 hg2
          go_wp2_with fail
          refine (HRA.out W4).mono ?_
          rintro e W5 ⟨rfl, hb⟩
          have H5 := Lib.hid (H4.out.keep hb)
          clear hb H4 a0c a1c a2c b0c b1c b2c r0c r1c s0c s1c s2c
          obtain ⟨a0c, a1c, a2c, b0c, b1c, b2c, r0c, r1c, s0c, s1c, s2c⟩ := H5.out.cells
          dsimp only
          go_wp2_with fail
          refine (HRB.out W5).mono ?_
          rintro e W6 ⟨rfl, hb⟩
          have H6 := Lib.hid (H5.out.keep hb)
          clear hb H5 a0c a1c a2c b0c b1c b2c r0c r1c s0c s1c s2c
          obtain ⟨a0c, a1c, a2c, b0c, b1c, b2c, r0c, r1c, s0c, s1c, s2c⟩ := H6.out.cells
          dsimp only
          go_wp2_with fail
          refine (HRC.out W6).mono ?_
          rintro e W7 ⟨rfl, hb⟩
          have H7 := Lib.hid (H6.out.keep hb)
          clear hb H6 a0c a1c a2c b0c b1c b2c r0c r1c s0c s1c s2c
          obtain ⟨a0c, a1c, a2c, b0c, b1c, b2c, r0c, r1c, s0c, s1c, s2c⟩ := H7.out.cells
          dsimp only
          go_wp2_with fail
          refine (HRA.out W7).mono ?_
          rintro e W8 ⟨rfl, hb⟩
          have H8 := Lib.hid (H7.out.keep hb)
          clear hb H7 a0c a1c a2c b0c b1c b2c r0c r1c s0c s1c s2c
          obtain ⟨a0c, a1c, a2c, b0c, b1c, b2c, r0c, r1c, s0c, s1c, s2c⟩ := H8.out.cells
          dsimp only
          go_wp2_with fail
          refine (HRB.out W8).mono ?_
          rintro e W9 ⟨rfl, hb⟩
          have H9 := Lib.hid (H8.out.keep hb)
          clear hb H8 a0c a1c a2c b0c b1c b2c r0c r1c s0c s1c s2c
          obtain ⟨a0c, a1c, a2c, b0c, b1c, b2c, r0c, r1c, s0c, s1c, s2c⟩ := H9.out.cells
          dsimp only
          go_wp2_with fail
          refine (HGA.out W9).mono ?_
          rintro e W10 ⟨rfl, hb⟩
          have H10 := Lib.hid (H9.out.keep hb)
          clear hb H9 a0c a1c a2c b0c b1c b2c r0c r1c s0c s1c s2c
          obtain ⟨a0c, a1c, a2c, b0c, b1c, b2c, r0c, r1c, s0c, s1c, s2c⟩ := H10.out.cells
          dsimp only
          go_wp2_with fail
          refine (HGC.out W10).mono ?_
          rintro e W11 ⟨rfl, hb⟩
          have H11 := Lib.hid (H10.out.keep hb)
          clear hb H10 a0c a1c a2c b0c b1c b2c r0c r1c s0c s1c s2c
          obtain ⟨a0c, a1c, a2c, b0c, b1c, b2c, r0c, r1c, s0c, s1c, s2c⟩ := H11.out.cells
          dsimp only
          go_wp2_with fail
          refine (HGL.out W11).mono ?_
          rintro e W12 ⟨rfl, hb⟩
          have H12 := Lib.hid (H11.out.keep hb)
          clear hb H11 a0c a1c a2c b0c b1c b2c r0c r1c s0c s1c s2c
          obtain ⟨a0c, a1c, a2c, b0c, b1c, b2c, r0c, r1c, s0c, s1c, s2c⟩ := H12.out.cells
          dsimp only
          go_wp2
          go_ret
          exact ⟨rfl, H12.out.bel⟩
        | false =>
          cases GB with
          | true =>
            obtain rfl : GC = true := by rw [hg1]; rfl
            obtain rfl : GL = true := hg2 rfl
            clear hg1 hg2
            go_wp2_with fail
            refine (HRA.out W4).mono ?_
            rintro e W5 ⟨rfl, hb⟩
            have H5 := Lib.hid (H4.out.keep hb)
            clear hb H4 a0c a1c a2c b0c b1c b2c r0c r1c s0c s1c s2c
            obtain ⟨a0c, a1c, a2c, b0c, b1c, b2c, r0c, r1c, s0c, s1c, s2c⟩ := H5.out.cells
            dsimp only
            go_wp2_with fail
            refine (HRB.out W5).mono ?_
            rintro e W6 ⟨rfl, hb⟩
            have H6 := Lib.hid (H5.out.keep hb)
            clear hb H5 a0c a1c a2c b0c b1c b2c r0c r1c s0c s1c s2c
            obtain ⟨a0c, a1c, a2c, b0c, b1c, b2c, r0c, r1c, s0c, s1c, s2c⟩ := H6.out.cells
            dsimp only
            go_wp2_with fail
            refine (HRC.out W6).mono ?_
            rintro e W7 ⟨rfl, hb⟩
            have H7 := Lib.hid (H6.out.keep hb)
            clear hb H6 a0c a1c a2c b0c b1c b2c r0c r1c s0c s1c s2c
            obtain ⟨a0c, a1c, a2c, b0c, b1c, b2c, r0c, r1c, s0c, s1c, s2c⟩ := H7.out.cells
            dsimp only
            go_wp2_with fail
            refine (HRA.out W7).mono ?_
            rintro e W8 ⟨rfl, hb⟩
            have H8 := Lib.hid (H7.out.keep hb)
            clear hb H7 a0c a1c a2c b0c b1c b2c r0c r1c s0c s1c s2c
            obtain ⟨a0c, a1c, a2c, b0c, b1c, b2c, r0c, r1c, s0c, s1c, s2c⟩ := H8.out.cells
            dsimp only
            go_wp2_with fail
            refine (HRB.out W8).mono ?_
            rintro e W9 ⟨rfl, hb⟩
            have H9 := Lib.hid (H8.out.keep hb)
            clear hb H8 a0c a1c a2c b0c b1c b2c r0c r1c s0c s1c s2c
            obtain ⟨a0c, a1c, a2c, b0c, b1c, b2c, r0c, r1c, s0c, s1c, s2c⟩ := H9.out.cells
            dsimp only
            go_wp2_with fail
            refine (HGA.out W9).mono ?_
            rintro e W10 ⟨rfl, hb⟩
            have H10 := Lib.hid (H9.out.keep hb)
            clear hb H9 a0c a1c a2c b0c b1c b2c r0c r1c s0c s1c s2c
            obtain ⟨a0c, a1c, a2c, b0c, b1c, b2c, r0c, r1c, s0c, s1c, s2c⟩ := H10.out.cells
            dsimp only
            go_wp2_with fail
            refine (HGB.out W10).mono ?_
            rintro e W11 ⟨rfl, hb⟩
            have H11 := Lib.hid (H10.out.keep hb)
            clear hb H10 a0c a1c a2c b0c b1c b2c r0c r1c s0c s1c s2c
            obtain ⟨a0c, a1c, a2c, b0c, b1c, b2c, r0c, r1c, s0c, s1c, s2c⟩ := H11.out.cells
            dsimp only
            go_wp2_with fail
            refine (HGC.out W11).mono ?_
            rintro e W12 ⟨rfl, hb⟩
            have H12 := Lib.hid (H11.out.keep hb)
            clear hb H11 a0c a1c a2c b0c b1c b2c r0c r1c s0c s1c s2c
            obtain ⟨a0c, a1c, a2c, b0c, b1c, b2c, r0c, r1c, s0c, s1c, s2c⟩ := H12.out.cells
            dsimp only
            go_wp2_with fail
            refine (HGL.out W12).mono ?_
            rintro e W13 ⟨rfl, hb⟩
            have H13 := Lib.hid (H12.out.keep hb)
            clear hb H12 a0c a1c a2c b0c b1c b2c r0c r1c s0c s1c s2c
            obtain ⟨a0c, a1c, a2c, b0c, b1c, b2c, r0c, r1c, s0c, s1c, s2c⟩ := H13.out.cells
            dsimp only
            go_wp2
            go_ret
            exact ⟨rfl, H13.out.bel⟩
          | false =>
            obtain rfl : GC = false := by rw [hg1]; rfl
            clear hg1 hg2
            go_wp2_with fail
            refine (HRA.out W4).mono ?_
            rintro e W5 ⟨rfl, hb⟩
            have H5 := Lib.hid (H4.out.keep hb)
            clear hb H4 a0c a1c a2c b0c b1c b2c r0c r1c s0c s1c s2c
            obtain ⟨a0c, a1c, a2c, b0c, b1c, b2c, r0c, r1c, s0c, s1c, s2c⟩ := H5.out.cells
            dsimp only
            go_wp2_with fail
            refine (HRB.out W5).mono ?_
            rintro e W6 ⟨rfl, hb⟩
            have H6 := Lib.hid (H5.out.keep hb)
            clear hb H5 a0c a1c a2c b0c b1c b2c r0c r1c s0c s1c s2c
            obtain ⟨a0c, a1c, a2c, b0c, b1c, b2c, r0c, r1c, s0c, s1c, s2c⟩ := H6.out.cells
            dsimp only
            go_wp2_with fail
            refine (HRC.out W6).mono ?_
            rintro e W7 ⟨rfl, hb⟩
            have H7 := Lib.hid (H6.out.keep hb)
            clear hb H6 a0c a1c a2c b0c b1c b2c r0c r1c s0c s1c s2c
            obtain ⟨a0c, a1c, a2c, b0c, b1c, b2c, r0c, r1c, s0c, s1c, s2c⟩ := H7.out.cells
            dsimp only
            go_wp2_with fail
            refine (HRA.out W7).mono ?_
            rintro e W8 ⟨rfl, hb⟩
            have H8 := Lib.hid (H7.out.keep hb)
            clear hb H7 a0c a1c a2c b0c b1c b2c r0c r1c s0c s1c s2c
            obtain ⟨a0c, a1c, a2c, b0c, b1c, b2c, r0c, r1c, s0c, s1c, s2c⟩ := H8.out.cells
            dsimp only
            go_wp2_with fail
            refine (HRB.out W8).mono ?_
            rintro e W9 ⟨rfl, hb⟩
            have H9 := Lib.hid (H8.out.keep hb)
            clear hb H8 a0c a1c a2c b0c b1c b2c r0c r1c s0c s1c s2c
            obtain ⟨a0c, a1c, a2c, b0c, b1c, b2c, r0c, r1c, s0c, s1c, s2c⟩ := H9.out.cells
            dsimp only
            go_wp2_with fail
            refine (HGA.out W9).mono ?_
            rintro e W10 ⟨rfl, hb⟩
            have H10 := Lib.hid (H9.out.keep hb)
            clear hb H9 a0c a1c a2c b0c b1c b2c r0c r1c s0c s1c s2c
            obtain ⟨a0c, a1c, a2c, b0c, b1c, b2c, r0c, r1c, s0c, s1c, s2c⟩ := H10.out.cells
            dsimp only
            go_wp2_with fail
            refine (HGB.out W10).mono ?_
            rintro e W11 ⟨rfl, hb⟩
            have H11 := Lib.hid (H10.out.keep hb)
            clear hb H10 a0c a1c a2c b0c b1c b2c r0c r1c s0c s1c s2c
            obtain ⟨a0c, a1c, a2c, b0c, b1c, b2c, r0c, r1c, s0c, s1c, s2c⟩ := H11.out.cells
            dsimp only
            go_wp2_with fail
            refine (HGC.out W11).mono ?_
            rintro e W12 ⟨rfl, hb⟩
            have H12 := Lib.hid (H11.out.keep hb)
            clear hb H11 a0c a1c a2c b0c b1c b2c r0c r1c s0c s1c s2c
            obtain ⟨a0c, a1c, a2c, b0c, b1c, b2c, r0c, r1c, s0c, s1c, s2c⟩ := H12.out.cells
            dsimp only
            go_wp2
            go_ret
            exact ⟨rfl, H12.out.bel⟩
end Go.Proofs.YtbcbignlngcoiaaDoor
