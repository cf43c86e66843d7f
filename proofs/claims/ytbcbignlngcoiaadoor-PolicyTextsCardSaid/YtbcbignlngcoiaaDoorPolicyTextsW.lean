/- PolicyTexts, walked. -/
import Derived.Test.YtbcbignlngcoiaaDoorPoLives
import Derived.Test.YtbcbignlngcoiaaDoorPoRight
import Derived.Test.YtbcbignlngcoiaaDoorPoDigits
namespace Go.Proofs.YtbcbignlngcoiaaDoor
open Go.RowKit

set_option maxHeartbeats 16000000 in
set_option maxRecDepth 1000000 in
theorem policyTexts_walk {w : World} {a b c : Int} (_ : -9223372036854775808 ≤ a ∧ a ≤ 9223372036854775807) (_ : -9223372036854775808 ≤ b ∧ b ≤ 9223372036854775807) (_ : -9223372036854775808 ≤ c ∧ c ≤ 9223372036854775807) (_ : True) (_ : True) (hp : PowLaid w) :
    Calls Tryd.prog 4 #[.agg #[.int .i64 a, .int .i64 b, .int .i64 c]] w fun e w' => e = .returned (.bool true) ∧ Below w.heap.size w w' := by
  have HRT : Hid (∀ W, Calls Tryd.prog 8 #[.agg #[.int .i64 a, .int .i64 b, .int .i64 c]] W fun e w' => e = .returned (.bool (rightP a b c)) ∧ Below W.heap.size W w') := Lib.hid fun W => lpright_any W a b c
  have HR2 : Hid (rightP a b c = true → RightP a b c) := Lib.hid right_of
  obtain ⟨RT, hRT⟩ : ∃ x, x = rightP a b c := ⟨_, rfl⟩
  rw [← hRT] at HRT HR2
  have HPW := Lib.hid hp
  clear hRT hp
  go_enter Tryd.func4, Tryd.ntmps4
  go_upto_region 1 with fail
  refine wp_name fun W1 hW1 => ?_
  obtain ⟨P, hP⟩ : ∃ P, P = w.heap.size := ⟨_, rfl⟩
  have HP1 : Hid (PolAt W1 P a b c) := Lib.hid (by rw [hW1.out, hP]; exact PolAt.new w a b c)
  have HB1 : Hid (Below w.heap.size w W1) := Lib.hid (by rw [hW1.out]; exact (Below.refl _ _).alloc (Nat.le_refl _) _)
  rw [← hP]
  clear hW1 hP
  go_wp2_with fail
  refine (lplives_any (HPW.out.keep HB1.out)).mono ?_
  rintro e W2 ⟨rfl, hb⟩
  have HP2 := Lib.hid (HP1.out.keep hb)
  have HB2 := Lib.hid (HB1.out.trans (hb.mono HB1.out.size))
  clear hb HP1 HB1
  dsimp only
  obtain ⟨c0, c1, c2, -, -, -⟩ := HP2.out.cells
  go_wp2_with fail
  refine (HRT.out W2).mono ?_
  rintro e W3 ⟨rfl, hb⟩
  have HP3 := Lib.hid (HP2.out.keep hb)
  have HB3 := Lib.hid (HB2.out.trans (hb.mono HB2.out.size))
  have HL3 := Lib.hid (HPW.out.keep HB3.out)
  clear hb HP2 HB2 c0 c1 c2
  dsimp only
  cases RT with
  | false =>
    go_wp2_with fail
    refine (lplives_any HL3.out).mono ?_
    rintro e W4 ⟨rfl, hb⟩
    have HB4 := Lib.hid (HB3.out.trans (hb.mono HB3.out.size))
    clear hb
    dsimp only
    go_wp2
    go_ret
    exact ⟨rfl, HB4.out⟩
  | true =>
    obtain ⟨r1, r2, r3, -⟩ := HR2.out rfl
    have HTX : Hid (∀ W, PowLaid W → Calls Tryd.prog 10 #[.agg #[.int .i64 a, .int .i64 b, .int .i64 c]] W fun e w' => e = .returned (.string (textP a b c)) ∧ Below W.heap.size W w') := Lib.hid fun W h => potext_any ⟨r1.1, by omega⟩ ⟨r2.1, by omega⟩ ⟨r3.1, by omega⟩ h
    have HDA : Hid (∀ W, Calls Tryd.prog 11 #[.int .i64 a] W fun e w' => e = .returned (.string (strOf (numP a))) ∧ Below W.heap.size W w') := Lib.hid fun W => lpdigits_any W r1.1 (by omega)
    have HDB : Hid (∀ W, Calls Tryd.prog 11 #[.int .i64 b] W fun e w' => e = .returned (.string (strOf (numP b))) ∧ Below W.heap.size W w') := Lib.hid fun W => lpdigits_any W r2.1 (by omega)
    have HDC : Hid (∀ W, Calls Tryd.prog 11 #[.int .i64 c] W fun e w' => e = .returned (.string (strOf (numP c))) ∧ Below W.heap.size W w') := Lib.hid fun W => lpdigits_any W r3.1 (by omega)
    have sa := numP_size (n := a) (by omega)
    have sb := numP_size (n := b) (by omega)
    have sc := numP_size (n := c) (by omega)
    have HT : textP a b c = ⟨#[114, 97, 119, 61]⟩ ++ strOf (numP a) ++ ⟨#[32, 109, 105, 100, 61]⟩ ++ strOf (numP b) ++ ⟨#[32, 108, 111, 110, 103, 61]⟩ ++ strOf (numP c) := rfl
    obtain ⟨A, hA⟩ : ∃ A, A = strOf (numP a) := ⟨_, rfl⟩
    obtain ⟨B, hB⟩ : ∃ B, B = strOf (numP b) := ⟨_, rfl⟩
    obtain ⟨C, hC⟩ : ∃ C, C = strOf (numP c) := ⟨_, rfl⟩
    rw [← hA] at sa HDA HT
    rw [← hB] at sb HDB HT
    rw [← hC] at sc HDC HT
    clear hA hB hC r1 r2 r3
    obtain ⟨R1, h1⟩ : ∃ R, R = ⟨#[114, 97, 119, 61]⟩ ++ A := ⟨_, rfl⟩
    obtain ⟨R2, h2⟩ : ∃ R, R = R1 ++ ⟨#[32, 109, 105, 100, 61]⟩ := ⟨_, rfl⟩
    obtain ⟨R3, h3⟩ : ∃ R, R = R2 ++ B := ⟨_, rfl⟩
    obtain ⟨R4, h4⟩ : ∃ R, R = R3 ++ ⟨#[32, 108, 111, 110, 103, 61]⟩ := ⟨_, rfl⟩
    obtain ⟨R5, h5⟩ : ∃ R, R = R4 ++ C := ⟨_, rfl⟩
    have z1 : R1.size ≤ 100 := by rw [h1, ByteArray.size_append]; change 4 + _ ≤ _; omega
    have z2 : R2.size ≤ 200 := by rw [h2, ByteArray.size_append]; change _ + 5 ≤ _; omega
    have z3 : R3.size ≤ 300 := by rw [h3, ByteArray.size_append]; omega
    have z4 : R4.size ≤ 400 := by rw [h4, ByteArray.size_append]; change _ + 6 ≤ _; omega
    have s1 : ∀ w, (Op.stringOp .add ⟨#[114, 97, 119, 61]⟩ A).run Tryd.prog w = .ok (.string R1) w := fun w => (run_string_add_sum (P := Tryd.prog) (w := w) _ _ (by change 4 + _ ≤ _; omega)).trans (by rw [h1])
    have s2 : ∀ w, (Op.stringOp .add R1 ⟨#[32, 109, 105, 100, 61]⟩).run Tryd.prog w = .ok (.string R2) w := fun w => (run_string_add_sum (P := Tryd.prog) (w := w) _ _ (by change _ + 5 ≤ _; omega)).trans (by rw [h2])
    have s3 : ∀ w, (Op.stringOp .add R2 B).run Tryd.prog w = .ok (.string R3) w := fun w => (run_string_add_sum (P := Tryd.prog) (w := w) _ _ (by omega)).trans (by rw [h3])
    have s4 : ∀ w, (Op.stringOp .add R3 ⟨#[32, 108, 111, 110, 103, 61]⟩).run Tryd.prog w = .ok (.string R4) w := fun w => (run_string_add_sum (P := Tryd.prog) (w := w) _ _ (by change _ + 6 ≤ _; omega)).trans (by rw [h4])
    have s5 : ∀ w, (Op.stringOp .add R4 C).run Tryd.prog w = .ok (.string R5) w := fun w => (run_string_add_sum (P := Tryd.prog) (w := w) _ _ (by omega)).trans (by rw [h5])
    rw [← h1, ← h2, ← h3, ← h4, ← h5] at HT
    rw [HT] at HTX
    have tT : (R5.toList == R5.toList) = true := by simp
    clear h1 h2 h3 h4 h5 z1 z2 z3 z4 sa sb sc HT HR2 HRT
    have HP0 : Hid (PolAt W3.drew P a b c) := Lib.hid HP3.out.drew
    have HB0 : Hid (Below w.heap.size w W3.drew) := Lib.hid (below_drew HB3.out)
    have HL0 : Hid (PowLaid W3.drew) := Lib.hid HL3.out.drew
    have HC0 : Hid (W3.drew.cell? ⟨P, 0, none⟩ = some (.int .i64 a) ∧ W3.drew.cell? ⟨P, 1, none⟩ = some (.int .i64 b) ∧ W3.drew.cell? ⟨P, 2, none⟩ = some (.int .i64 c)) := Lib.hid ⟨HP0.out.cells.1, HP0.out.cells.2.1, HP0.out.cells.2.2.1⟩
    go_upto_region 3 with fail
    clear HP3 HB3 HL3
    go_region_held3 (fun w' => w'.cell? ⟨P, 0, none⟩ = some (.int .i64 a) ∧ w'.cell? ⟨P, 1, none⟩ = some (.int .i64 b) ∧ w'.cell? ⟨P, 2, none⟩ = some (.int .i64 c)) (first | with_reducible exact HC0.out | with_reducible exact HC1.out | with_reducible exact HC2.out | with_reducible exact HC3.out | with_reducible exact HC4.out) (((first | (go_at_call 10; refine (HTX.out _ HL0.out).mono ?_; clear HTX; rintro e V1 ⟨rfl, hb0⟩; have HP1 := Lib.hid (HP0.out.keep hb0); have HB1 := Lib.hid (HB0.out.trans (hb0.mono HB0.out.size)); have HC1 : Hid (V1.cell? ⟨P, 0, none⟩ = some (.int .i64 a) ∧ V1.cell? ⟨P, 1, none⟩ = some (.int .i64 b) ∧ V1.cell? ⟨P, 2, none⟩ = some (.int .i64 c)) := Lib.hid ⟨HP1.out.cells.1, HP1.out.cells.2.1, HP1.out.cells.2.2.1⟩; clear hb0) | (go_at_call 11; refine (HDA.out _).mono ?_; clear HDA; rintro e V2 ⟨rfl, hb1⟩; have HP2 := Lib.hid (HP1.out.keep hb1); have HB2 := Lib.hid (HB1.out.trans (hb1.mono HB1.out.size)); have HC2 : Hid (V2.cell? ⟨P, 0, none⟩ = some (.int .i64 a) ∧ V2.cell? ⟨P, 1, none⟩ = some (.int .i64 b) ∧ V2.cell? ⟨P, 2, none⟩ = some (.int .i64 c)) := Lib.hid ⟨HP2.out.cells.1, HP2.out.cells.2.1, HP2.out.cells.2.2.1⟩; clear hb1) | (go_at_call 11; refine (HDB.out _).mono ?_; clear HDB; rintro e V3 ⟨rfl, hb2⟩; have HP3 := Lib.hid (HP2.out.keep hb2); have HB3 := Lib.hid (HB2.out.trans (hb2.mono HB2.out.size)); have HC3 : Hid (V3.cell? ⟨P, 0, none⟩ = some (.int .i64 a) ∧ V3.cell? ⟨P, 1, none⟩ = some (.int .i64 b) ∧ V3.cell? ⟨P, 2, none⟩ = some (.int .i64 c)) := Lib.hid ⟨HP3.out.cells.1, HP3.out.cells.2.1, HP3.out.cells.2.2.1⟩; clear hb2) | (go_at_call 11; refine (HDC.out _).mono ?_; clear HDC; rintro e V4 ⟨rfl, hb3⟩; have HP4 := Lib.hid (HP3.out.keep hb3); have HB4 := Lib.hid (HB3.out.trans (hb3.mono HB3.out.size)); have HC4 : Hid (V4.cell? ⟨P, 0, none⟩ = some (.int .i64 a) ∧ V4.cell? ⟨P, 1, none⟩ = some (.int .i64 b) ∧ V4.cell? ⟨P, 2, none⟩ = some (.int .i64 c)) := Lib.hid ⟨HP4.out.cells.1, HP4.out.cells.2.1, HP4.out.cells.2.2.1⟩; clear hb3)); dsimp only))
    all_goals go_wp2
    all_goals go_ret
    all_goals exact ⟨rfl, HB4.out⟩
end Go.Proofs.YtbcbignlngcoiaaDoor
