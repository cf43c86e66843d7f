/- Package policy: Text. -/
import Derived.Test.YtbcbignlngcoiaaDoorPoOf
import Derived.Test.YtbcbignlngcoiaaDoorFmt
import Derived.Deep.RegionHeld3
namespace Go.Proofs.YtbcbignlngcoiaaDoor
open Go.RowKit

/-- how a number is read -/
def numP (n : Int) : List Nat := if n = 0 then [101, 118, 101, 114] else decN n.toNat
theorem numP_size {n : Int} (h : n ≤ 9223372036854775807) : (strOf (numP n)).size ≤ 20 := by
  rw [strOf_size]; unfold numP; split
  · simp
  · exact decN_small (by omega)
/-- a policy to be read -/
def textP (a b c : Int) : ByteArray := ⟨#[114, 97, 119, 61]⟩ ++ strOf (numP a) ++ ⟨#[32, 109, 105, 100, 61]⟩ ++ strOf (numP b) ++ ⟨#[32, 108, 111, 110, 103, 61]⟩ ++ strOf (numP c)
set_option maxHeartbeats 4000000 in
theorem ponumber_any {w : World} {n : Int} (h0 : 0 ≤ n) (h1 : n ≤ 9223372036854775807) (hp : PowLaid w) :
    Calls Tryd.prog 14 #[.int .i64 n] w fun e w' => e = .returned (.string (strOf (numP n))) ∧ Below w.heap.size w w' := by
  have HF : Hid (Calls Tryd.prog 16 #[.int .i64 n, .int .i64 10] w fun e w' => e = .returned (.string (strOf (decN n.toNat))) ∧ Below w.heap.size w w') := Lib.hid (by
    have := fmt_any n.toNat (by omega) hp
    rwa [show ((n.toNat : Nat) : Int) = n by omega] at this)
  have HN0 : Hid (numP 0 = [101, 118, 101, 114]) := Lib.hid rfl
  by_cases hz : n = 0
  · subst hz
    go_enter Tryd.func14, Tryd.ntmps14
    go_wp2
    go_ret
    exact ⟨by rw [HN0.out]; rfl, Below.refl _ _⟩
  · have tz : (n == 0) = false := by simpa using hz
    have HN : Hid (numP n = decN n.toNat) := Lib.hid (if_neg hz)
    clear hz
    go_enter Tryd.func14, Tryd.ntmps14
    go_wp2_with fail
    refine HF.out.mono ?_
    rintro e W1 ⟨rfl, hb⟩
    have HB := Lib.hid hb
    clear hb
    dsimp only
    go_wp2
    go_ret
    exact ⟨by rw [HN.out]; rfl, HB.out⟩
set_option maxHeartbeats 4000000 in
set_option maxRecDepth 100000 in
theorem potext_any {w : World} {a b c : Int} (ha : 0 ≤ a ∧ a ≤ 9223372036854775807) (hb : 0 ≤ b ∧ b ≤ 9223372036854775807) (hc : 0 ≤ c ∧ c ≤ 9223372036854775807) (hp : PowLaid w) :
    Calls Tryd.prog 10 #[.agg #[.int .i64 a, .int .i64 b, .int .i64 c]] w fun e w' => e = .returned (.string (textP a b c)) ∧ Below w.heap.size w w' := by
  have HNA : Hid (∀ W, PowLaid W → Calls Tryd.prog 14 #[.int .i64 a] W fun e w' => e = .returned (.string (strOf (numP a))) ∧ Below W.heap.size W w') := Lib.hid fun W h => ponumber_any ha.1 ha.2 h
  have HNB : Hid (∀ W, PowLaid W → Calls Tryd.prog 14 #[.int .i64 b] W fun e w' => e = .returned (.string (strOf (numP b))) ∧ Below W.heap.size W w') := Lib.hid fun W h => ponumber_any hb.1 hb.2 h
  have HNC : Hid (∀ W, PowLaid W → Calls Tryd.prog 14 #[.int .i64 c] W fun e w' => e = .returned (.string (strOf (numP c))) ∧ Below W.heap.size W w') := Lib.hid fun W h => ponumber_any hc.1 hc.2 h
  have HT : Hid (textP a b c = ⟨#[114, 97, 119, 61]⟩ ++ strOf (numP a) ++ ⟨#[32, 109, 105, 100, 61]⟩ ++ strOf (numP b) ++ ⟨#[32, 108, 111, 110, 103, 61]⟩ ++ strOf (numP c)) := Lib.hid rfl
  have sa := numP_size ha.2
  have sb := numP_size hb.2
  have sc := numP_size hc.2
  obtain ⟨A, hA⟩ : ∃ A, A = strOf (numP a) := ⟨_, rfl⟩
  obtain ⟨B, hB⟩ : ∃ B, B = strOf (numP b) := ⟨_, rfl⟩
  obtain ⟨C, hC⟩ : ∃ C, C = strOf (numP c) := ⟨_, rfl⟩
  rw [← hA] at sa HNA HT
  rw [← hB] at sb HNB HT
  rw [← hC] at sc HNC HT
  clear hA hB hC ha hb hc
  obtain ⟨R1, h1⟩ : ∃ R, R = ⟨#[114, 97, 119, 61]⟩ ++ A := ⟨_, rfl⟩
  obtain ⟨R2, h2⟩ : ∃ R, R = R1 ++ ⟨#[32, 109, 105, 100, 61]⟩ := ⟨_, rfl⟩
  obtain ⟨R3, h3⟩ : ∃ R, R = R2 ++ B := ⟨_, rfl⟩
  obtain ⟨R4, h4⟩ : ∃ R, R = R3 ++ ⟨#[32, 108, 111, 110, 103, 61]⟩ := ⟨_, rfl⟩
  obtain ⟨R5, h5⟩ : ∃ R, R = R4 ++ C := ⟨_, rfl⟩
  have z1 : R1.size ≤ 100 := by rw [h1, ByteArray.size_append]; change 4 + _ ≤ _; omega
  have z2 : R2.size ≤ 200 := by rw [h2, ByteArray.size_append]; change _ + 5 ≤ _; omega
  have z3 : R3.size ≤ 300 := by rw [h3, ByteArray.size_append]; omega
  have z4 : R4.size ≤ 400 := by rw [h4, ByteArray.size_append]; change _ + 6 ≤ _; omega
  have s1 : ∀ w, (Op.stringOp .add ⟨#[114, 97, 119, 61]⟩ A).run Tryd.prog w = .ok (.string R1) w := fun w => (run_string_add_sum (P := Tryd.prog) (w := w) _ _ (by change 4 + _ ≤ _; omega)).trans (by rw [h1])
  have s2 : ∀ w, (Op.stringOp .add R1 ⟨#[32, 109, 105, 100, 61]⟩).run Tryd.prog w = .ok (.string R2) w := fun w => (run_string_add_sum (P := Tryd.prog) (w := w) _ _ (by change _ + 5 ≤ _; omega)).trans (by rw [h2])
  have s3 : ∀ w, (Op.stringOp .add R2 B).run Tryd.prog w = .ok (.string R3) w := fun w => (run_string_add_sum (P := Tryd.prog) (w := w) _ _ (by omega)).trans (by rw [h3])
  have s4 : ∀ w, (Op.stringOp .add R3 ⟨#[32, 108, 111, 110, 103, 61]⟩).run Tryd.prog w = .ok (.string R4) w := fun w => (run_string_add_sum (P := Tryd.prog) (w := w) _ _ (by change _ + 6 ≤ _; omega)).trans (by rw [h4])
  have s5 : ∀ w, (Op.stringOp .add R4 C).run Tryd.prog w = .ok (.string R5) w := fun w => (run_string_add_sum (P := Tryd.prog) (w := w) _ _ (by omega)).trans (by rw [h5])
  rw [← h1, ← h2, ← h3, ← h4, ← h5] at HT
  clear h1 h2 h3 h4 h5 z1 z2 z3 z4 sa sb sc
  have HPW := Lib.hid hp
  clear hp
  go_enter Tryd.func10, Tryd.ntmps10
  go_upto_region 1 with fail
  refine wp_name fun W1 hW1 => ?_
  obtain ⟨P, hP⟩ : ∃ P, P = w.heap.size := ⟨_, rfl⟩
  have HB0 : Hid (Below w.heap.size w W1.drew) := Lib.hid (by rw [hW1.out]; exact below_drew ((Below.refl _ _).alloc (Nat.le_refl _) _))
  have HP0 : Hid (PolAt W1.drew P a b c) := Lib.hid (by rw [hW1.out, hP]; exact (PolAt.new w a b c).drew)
  have HL0 : Hid (PowLaid W1.drew) := Lib.hid (HPW.out.keep HB0.out)
  have HC0 : Hid (W1.drew.cell? ⟨P, 0, none⟩ = some (.int .i64 a) ∧ W1.drew.cell? ⟨P, 1, none⟩ = some (.int .i64 b) ∧ W1.drew.cell? ⟨P, 2, none⟩ = some (.int .i64 c)) := Lib.hid ⟨HP0.out.cells.1, HP0.out.cells.2.1, HP0.out.cells.2.2.1⟩
  rw [← hP]
  clear hW1 hP HPW
  go_region_held3 (fun w' => w'.cell? ⟨P, 0, none⟩ = some (.int .i64 a) ∧ w'.cell? ⟨P, 1, none⟩ = some (.int .i64 b) ∧ w'.cell? ⟨P, 2, none⟩ = some (.int .i64 c)) (first | with_reducible exact HC0.out | with_reducible exact HC1.out | with_reducible exact HC2.out | with_reducible exact HC3.out) (((first | (go_at_call 14; refine (HNA.out _ HL0.out).mono ?_; clear HNA; rintro e W2 ⟨rfl, hb1⟩; have HP1 := Lib.hid (HP0.out.keep hb1); have HL1 := Lib.hid (HL0.out.keep hb1); have HB1 := Lib.hid (HB0.out.trans (hb1.mono HB0.out.size)); have HC1 : Hid (W2.cell? ⟨P, 0, none⟩ = some (.int .i64 a) ∧ W2.cell? ⟨P, 1, none⟩ = some (.int .i64 b) ∧ W2.cell? ⟨P, 2, none⟩ = some (.int .i64 c)) := Lib.hid ⟨HP1.out.cells.1, HP1.out.cells.2.1, HP1.out.cells.2.2.1⟩; clear hb1) | (go_at_call 14; refine (HNB.out _ HL1.out).mono ?_; clear HNB; rintro e W3 ⟨rfl, hb2⟩; have HP2 := Lib.hid (HP1.out.keep hb2); have HL2 := Lib.hid (HL1.out.keep hb2); have HB2 := Lib.hid (HB1.out.trans (hb2.mono HB1.out.size)); have HC2 : Hid (W3.cell? ⟨P, 0, none⟩ = some (.int .i64 a) ∧ W3.cell? ⟨P, 1, none⟩ = some (.int .i64 b) ∧ W3.cell? ⟨P, 2, none⟩ = some (.int .i64 c)) := Lib.hid ⟨HP2.out.cells.1, HP2.out.cells.2.1, HP2.out.cells.2.2.1⟩; clear hb2) | (go_at_call 14; refine (HNC.out _ HL2.out).mono ?_; clear HNC; rintro e W4 ⟨rfl, hb3⟩; have HP3 := Lib.hid (HP2.out.keep hb3); have HL3 := Lib.hid (HL2.out.keep hb3); have HB3 := Lib.hid (HB2.out.trans (hb3.mono HB2.out.size)); have HC3 : Hid (W4.cell? ⟨P, 0, none⟩ = some (.int .i64 a) ∧ W4.cell? ⟨P, 1, none⟩ = some (.int .i64 b) ∧ W4.cell? ⟨P, 2, none⟩ = some (.int .i64 c)) := Lib.hid ⟨HP3.out.cells.1, HP3.out.cells.2.1, HP3.out.cells.2.2.1⟩; clear hb3)); dsimp only))
  go_wp2
  all_goals go_ret
  all_goals exact ⟨by rw [HT.out]; rfl, HB3.out⟩
end Go.Proofs.YtbcbignlngcoiaaDoor
