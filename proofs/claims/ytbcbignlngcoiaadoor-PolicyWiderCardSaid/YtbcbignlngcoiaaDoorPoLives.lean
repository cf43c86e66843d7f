/- The chapter's example, walked. -/
import Derived.Test.YtbcbignlngcoiaaDoorPoText
namespace Go.Proofs.YtbcbignlngcoiaaDoor
open Go.RowKit

theorem decN_hundred : decN 100 = [49, 48, 48] := by rw [decN_high (by omega), decN_high (by omega), decN_low (by omega)]; rfl
theorem text_lives : textP 100 0 0 = ⟨#[114, 97, 119, 61, 49, 48, 48, 32, 109, 105, 100, 61, 101, 118, 101, 114, 32, 108, 111, 110, 103, 61, 101, 118, 101, 114]⟩ := by
  have e1 : numP 100 = [49, 48, 48] := decN_hundred
  have e2 : numP 0 = [101, 118, 101, 114] := rfl
  unfold textP
  rw [e1, e2, show (⟨#[114, 97, 119, 61]⟩ : ByteArray) = strOf [114, 97, 119, 61] from rfl, show (⟨#[32, 109, 105, 100, 61]⟩ : ByteArray) = strOf [32, 109, 105, 100, 61] from rfl, show (⟨#[32, 108, 111, 110, 103, 61]⟩ : ByteArray) = strOf [32, 108, 111, 110, 103, 61] from rfl,
    ← strOf_append, ← strOf_append, ← strOf_append, ← strOf_append, ← strOf_append]
  rfl
set_option maxHeartbeats 4000000 in
set_option maxRecDepth 100000 in
theorem lplives_any {w : World} (hp : PowLaid w) :
    Calls Tryd.prog 6 #[] w fun e w' => e = .returned (.bool true) ∧ Below w.heap.size w w' := by
  have HG0 : Hid (∀ W, Calls Tryd.prog 9 #[.agg #[.int .i64 100, .int .i64 0, .int .i64 0], .int .i64 0, .agg #[.int .i64 0, .int .i64 150], .int .i64 250] W fun e w' => e = .returned (.bool true) ∧ Below W.heap.size W w') := Lib.hid fun W => pogone_any W 100 0 0 0 0 150 250 (by omega)
  have HG1 : Hid (∀ W, Calls Tryd.prog 9 #[.agg #[.int .i64 100, .int .i64 0, .int .i64 0], .int .i64 0, .agg #[.int .i64 0, .int .i64 151], .int .i64 250] W fun e w' => e = .returned (.bool false) ∧ Below W.heap.size W w') := Lib.hid fun W => pogone_any W 100 0 0 0 0 151 250 (by omega)
  obtain ⟨T, hT⟩ : ∃ T : ByteArray, T = ⟨#[114, 97, 119, 61, 49, 48, 48, 32, 109, 105, 100, 61, 101, 118, 101, 114, 32, 108, 111, 110, 103, 61, 101, 118, 101, 114]⟩ := ⟨_, rfl⟩
  have HTX : Hid (∀ W, PowLaid W → Calls Tryd.prog 10 #[.agg #[.int .i64 100, .int .i64 0, .int .i64 0]] W fun e w' => e = .returned (.string T) ∧ Below W.heap.size W w') := Lib.hid fun W h => by rw [hT, ← text_lives]; exact potext_any (by omega) (by omega) (by omega) h
  have HPW := Lib.hid hp
  clear hp
  go_enter Tryd.func6, Tryd.ntmps6
  rw [← hT]
  go_upto_region 2 with fail
  refine wp_name fun W1 hW1 => ?_
  obtain ⟨P, hP⟩ : ∃ P, P = w.heap.size := ⟨_, rfl⟩
  have HP1 : Hid (PolAt W1 P 100 0 0) := Lib.hid (by rw [hW1.out, hP]; exact PolAt.new w 100 0 0)
  have HB1 : Hid (Below w.heap.size w W1) := Lib.hid (by rw [hW1.out]; exact (Below.refl _ _).alloc (Nat.le_refl _) _)
  rw [← hP]
  obtain ⟨c0, c1, c2, -, -, -⟩ := HP1.out.cells
  clear hW1 hP
  go_wp2_with fail
  refine (HG0.out W1).mono ?_
  rintro e W2 ⟨rfl, hb⟩
  have HP2 := Lib.hid (HP1.out.keep hb)
  have HB2 := Lib.hid (HB1.out.trans (hb.mono HB1.out.size))
  clear hb HP1 HB1 c0 c1 c2
  dsimp only
  obtain ⟨c0, c1, c2, -, -, -⟩ := HP2.out.cells
  go_wp2_with fail
  refine (HG1.out W2).mono ?_
  rintro e W3 ⟨rfl, hb⟩
  have HP3 := Lib.hid (HP2.out.keep hb)
  have HB3 := Lib.hid (HB2.out.trans (hb.mono HB2.out.size))
  have HL3 := Lib.hid (HPW.out.keep HB3.out)
  clear hb HP2 HB2 c0 c1 c2
  dsimp only
  obtain ⟨c0, c1, c2, -, -, -⟩ := HP3.out.cells
  go_wp2_with fail
  refine (HTX.out W3 HL3.out).mono ?_
  rintro e W4 ⟨rfl, hb⟩
  have HB4 := Lib.hid (HB3.out.trans (hb.mono HB3.out.size))
  clear hb HP3 HB3 HL3 c0 c1 c2
  have tT : (T.toList == T.toList) = true := by simp
  dsimp only
  go_wp2
  go_ret
  exact ⟨rfl, HB4.out⟩
end Go.Proofs.YtbcbignlngcoiaaDoor
