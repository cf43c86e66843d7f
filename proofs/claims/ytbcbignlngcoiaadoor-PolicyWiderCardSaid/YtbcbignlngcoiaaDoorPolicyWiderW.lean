/- PolicyWider, walked. -/
import Derived.Test.YtbcbignlngcoiaaDoorPoLives
import Derived.Test.YtbcbignlngcoiaaDoorPoRight
namespace Go.Proofs.YtbcbignlngcoiaaDoor
open Go.RowKit

set_option maxHeartbeats 16000000 in
set_option maxRecDepth 1000000 in
theorem policyWider_walk {w : World} {a b c frm til now : Int} (_ : -9223372036854775808 ≤ a ∧ a ≤ 9223372036854775807) (_ : -9223372036854775808 ≤ b ∧ b ≤ 9223372036854775807) (_ : -9223372036854775808 ≤ c ∧ c ≤ 9223372036854775807)
    (_ : -9223372036854775808 ≤ frm ∧ frm ≤ 9223372036854775807) (_ : -9223372036854775808 ≤ til ∧ til ≤ 9223372036854775807) (n0 : -9223372036854775808 ≤ now) (n1 : now ≤ 9223372036854775807) (_ : True) (_ : True) (hp : PowLaid w) :
    Calls Tryd.prog 5 #[.agg #[.int .i64 a, .int .i64 b, .int .i64 c], .agg #[.int .i64 frm, .int .i64 til], .int .i64 now] w fun e w' => e = .returned (.bool true) ∧ Below w.heap.size w w' := by
  have HRT : Hid (∀ W, Calls Tryd.prog 8 #[.agg #[.int .i64 a, .int .i64 b, .int .i64 c]] W fun e w' => e = .returned (.bool (rightP a b c)) ∧ Below W.heap.size W w') := Lib.hid fun W => lpright_any W a b c
  obtain ⟨RT, hRT⟩ : ∃ x, x = rightP a b c := ⟨_, rfl⟩
  obtain ⟨GA, hGA⟩ : ∃ x, x = goneP a til now := ⟨_, rfl⟩
  obtain ⟨GB, hGB⟩ : ∃ x, x = goneP b til now := ⟨_, rfl⟩
  obtain ⟨GC, hGC⟩ : ∃ x, x = goneP c til now := ⟨_, rfl⟩
  have HGG : Hid (RT = true → (GC = true → GB = true) ∧ (GB = true → GA = true)) := Lib.hid fun h => by
    obtain ⟨r1, r2, r3, r4, r5, r6, r7⟩ := right_of (hRT.symm.trans h)
    refine ⟨fun g => ?_, fun g => ?_⟩
    · rw [hGB]; exact gone_wider (by omega) (by omega) (hGC.symm.trans g)
    · rw [hGA]; exact gone_wider (by omega) (by omega) (hGB.symm.trans g)
  have HGA : Hid (∀ W, Calls Tryd.prog 9 #[.agg #[.int .i64 a, .int .i64 b, .int .i64 c], .int .i64 0, .agg #[.int .i64 frm, .int .i64 til], .int .i64 now] W fun e w' => e = .returned (.bool GA) ∧ Below W.heap.size W w') := Lib.hid fun W => by rw [hGA]; exact pogone_any W a b c 0 frm til now ⟨n0, n1⟩
  have HGB : Hid (∀ W, Calls Tryd.prog 9 #[.agg #[.int .i64 a, .int .i64 b, .int .i64 c], .int .i64 1, .agg #[.int .i64 frm, .int .i64 til], .int .i64 now] W fun e w' => e = .returned (.bool GB) ∧ Below W.heap.size W w') := Lib.hid fun W => by rw [hGB]; exact pogone_any W a b c 1 frm til now ⟨n0, n1⟩
  have HGC : Hid (∀ W, Calls Tryd.prog 9 #[.agg #[.int .i64 a, .int .i64 b, .int .i64 c], .int .i64 2, .agg #[.int .i64 frm, .int .i64 til], .int .i64 now] W fun e w' => e = .returned (.bool GC) ∧ Below W.heap.size W w') := Lib.hid fun W => by rw [hGC]; exact pogone_any W a b c 2 frm til now ⟨n0, n1⟩
  rw [← hRT] at HRT
  have HPW := Lib.hid hp
  clear hRT hGA hGB hGC hp
  go_enter Tryd.func5, Tryd.ntmps5
  go_upto_region 1 with fail
  refine wp_name fun W1 hW1 => ?_
  obtain ⟨P, hP⟩ : ∃ P, P = w.heap.size := ⟨_, rfl⟩
  have e2 : (w.alloc (.cells #[.int .i64 a, .int .i64 b, .int .i64 c] 23)).heap.size = P + 1 := by rw [hP]; simp
  have HP1 : Hid (PolAt W1 P a b c) := Lib.hid (by rw [hW1.out, hP]; exact (PolAt.new w a b c).old _)
  have HR1 : Hid (RgAt W1 (P + 1) frm til) := Lib.hid (by rw [hW1.out, ← e2]; exact RgAt.new _ frm til)
  have HB1 : Hid (Below w.heap.size w W1) := Lib.hid (by rw [hW1.out]; exact ((Below.refl _ _).alloc (Nat.le_refl _) _).alloc (by simp) _)
  rw [← hP]
  clear hW1 hP e2
  go_wp2_with fail
  refine (lplives_any (HPW.out.keep HB1.out)).mono ?_
  rintro e W2 ⟨rfl, hb⟩
  have HP2 := Lib.hid (HP1.out.keep hb)
  have HR2 := Lib.hid (HR1.out.keep hb)
  have HB2 := Lib.hid (HB1.out.trans (hb.mono HB1.out.size))
  clear hb HP1 HR1 HB1
  dsimp only
  obtain ⟨c0, c1, c2, -, -, -⟩ := HP2.out.cells
  go_wp2_with fail
  refine (HRT.out W2).mono ?_
  rintro e W3 ⟨rfl, hb⟩
  have HP3 := Lib.hid (HP2.out.keep hb)
  have HR3 := Lib.hid (HR2.out.keep hb)
  have HB3 := Lib.hid (HB2.out.trans (hb.mono HB2.out.size))
  have HL3 := Lib.hid (HPW.out.keep HB3.out)
  clear hb HP2 HR2 HB2 c0 c1 c2 HRT
  dsimp only
  cases RT with
  | false =>
    go_wp2_with fail
    refine (lplives_any HL3.out).mono ?_
    rintro e W4 ⟨rfl, hb⟩
    have HB4 := Lib.hid (HB3.out.trans (hb.mono HB3.out.size))
    clear hb
    dsimp only
    go_wp2
    go_ret
    exact ⟨rfl, HB4.out⟩
  | true =>
    have HP0 : Hid (PolAt W3.drew P a b c) := Lib.hid HP3.out.drew
    have HR0 : Hid (RgAt W3.drew (P + 1) frm til) := Lib.hid HR3.out.drew
    have HB0 : Hid (Below w.heap.size w W3.drew) := Lib.hid (below_drew HB3.out)
    have HC0 : Hid (W3.drew.cell? ⟨P, 0, none⟩ = some (.int .i64 a) ∧ W3.drew.cell? ⟨P, 1, none⟩ = some (.int .i64 b) ∧ W3.drew.cell? ⟨P, 2, none⟩ = some (.int .i64 c) ∧ W3.drew.cell? ⟨P + 1, 0, none⟩ = some (.int .i64 frm) ∧ W3.drew.cell? ⟨P + 1, 1, none⟩ = some (.int .i64 til)) := Lib.hid ⟨HP0.out.cells.1, HP0.out.cells.2.1, HP0.out.cells.2.2.1, HR0.out.cells.1, HR0.out.cells.2.1⟩
    go_upto_region 3 with fail
    clear HP3 HR3 HB3 HL3
    go_region_held3 (fun w' => w'.cell? ⟨P, 0, none⟩ = some (.int .i64 a) ∧ w'.cell? ⟨P, 1, none⟩ = some (.int .i64 b) ∧ w'.cell? ⟨P, 2, none⟩ = some (.int .i64 c) ∧ w'.cell? ⟨P + 1, 0, none⟩ = some (.int .i64 frm) ∧ w'.cell? ⟨P + 1, 1, none⟩ = some (.int .i64 til)) (first | with_reducible exact HC0.out | with_reducible exact HC1.out | with_reducible exact HC2.out | with_reducible exact HC3.out) (((first | (go_at_call 9; refine (HGA.out _).mono ?_; clear HGA; rintro e V1 ⟨rfl, hb0⟩; have HP1 := Lib.hid (HP0.out.keep hb0); have HR1 := Lib.hid (HR0.out.keep hb0); have HB1 := Lib.hid (HB0.out.trans (hb0.mono HB0.out.size)); have HC1 : Hid (V1.cell? ⟨P, 0, none⟩ = some (.int .i64 a) ∧ V1.cell? ⟨P, 1, none⟩ = some (.int .i64 b) ∧ V1.cell? ⟨P, 2, none⟩ = some (.int .i64 c) ∧ V1.cell? ⟨P + 1, 0, none⟩ = some (.int .i64 frm) ∧ V1.cell? ⟨P + 1, 1, none⟩ = some (.int .i64 til)) := Lib.hid ⟨HP1.out.cells.1, HP1.out.cells.2.1, HP1.out.cells.2.2.1, HR1.out.cells.1, HR1.out.cells.2.1⟩; clear hb0) | (go_at_call 9; refine (HGB.out _).mono ?_; clear HGB; rintro e V2 ⟨rfl, hb1⟩; have HP2 := Lib.hid (HP1.out.keep hb1); have HR2 := Lib.hid (HR1.out.keep hb1); have HB2 := Lib.hid (HB1.out.trans (hb1.mono HB1.out.size)); have HC2 : Hid (V2.cell? ⟨P, 0, none⟩ = some (.int .i64 a) ∧ V2.cell? ⟨P, 1, none⟩ = some (.int .i64 b) ∧ V2.cell? ⟨P, 2, none⟩ = some (.int .i64 c) ∧ V2.cell? ⟨P + 1, 0, none⟩ = some (.int .i64 frm) ∧ V2.cell? ⟨P + 1, 1, none⟩ = some (.int .i64 til)) := Lib.hid ⟨HP2.out.cells.1, HP2.out.cells.2.1, HP2.out.cells.2.2.1, HR2.out.cells.1, HR2.out.cells.2.1⟩; clear hb1) | (go_at_call 9; refine (HGC.out _).mono ?_; clear HGC; rintro e V3 ⟨rfl, hb2⟩; have HP3 := Lib.hid (HP2.out.keep hb2); have HR3 := Lib.hid (HR2.out.keep hb2); have HB3 := Lib.hid (HB2.out.trans (hb2.mono HB2.out.size)); have HC3 : Hid (V3.cell? ⟨P, 0, none⟩ = some (.int .i64 a) ∧ V3.cell? ⟨P, 1, none⟩ = some (.int .i64 b) ∧ V3.cell? ⟨P, 2, none⟩ = some (.int .i64 c) ∧ V3.cell? ⟨P + 1, 0, none⟩ = some (.int .i64 frm) ∧ V3.cell? ⟨P + 1, 1, none⟩ = some (.int .i64 til)) := Lib.hid ⟨HP3.out.cells.1, HP3.out.cells.2.1, HP3.out.cells.2.2.1, HR3.out.cells.1, HR3.out.cells.2.1⟩; clear hb2)); dsimp only))
    obtain ⟨g1, g2⟩ := HGG.out rfl
    cases GC with
    | true =>
      obtain rfl : GB = true := g1 rfl
      obtain rfl : GA = true := g2 rfl
      clear g1 g2
      go_wp2
      go_ret
      exact ⟨rfl, HB3.out⟩
    | false =>
      cases GB with
      | true =>
        obtain rfl : GA = true := g2 rfl
        clear g1 g2
        go_wp2
        go_ret
        exact ⟨rfl, HB3.out⟩
      | false =>
        clear g1 g2
        go_wp2
        go_ret
        exact ⟨rfl, HB3.out⟩
end Go.Proofs.YtbcbignlngcoiaaDoor
