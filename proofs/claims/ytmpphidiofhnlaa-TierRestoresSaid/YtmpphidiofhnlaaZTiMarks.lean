/- Package tier: rightMarks. Written by py/ti-marks.py. -/
import Derived.Test.YtmpphidiofhnlaaZTiAggs
import Derived.Test.YtmpphidiofhnlaaZTiRest
import Derived.Deep.DeepCutAuto
namespace Go.Proofs.Ytmpphidiofhnlaa
open Go.RowKit

/-- may that be a tier's mark? -/
def goodM (t m : Int) : Bool := decide (0 ≤ m) && decide (m ≤ 1099511631376) && decide (startW t m = m)
def marksB (m0 m1 m2 : Int) : Bool := goodM 0 m0 && goodM 1 m1 && goodM 2 m2 && decide (m0 = 0) && decide (m2 ≤ m1)
theorem marks_rest (m0 m1 m2 : Int) : marksB m0 m1 m2 = (decide (m0 = 0) && decide (0 ≤ m1) && decide (m1 ≤ 1099511631376) && decide (m1 % 300 = 0) && decide (0 ≤ m2) && decide (m2 ≤ m1) && decide (m2 % 3600 = 0)) := by
  unfold marksB goodM
  rw [start_mid, start_long, Bool.eq_iff_iff]
  have h0 : m0 = 0 → startW 0 m0 = m0 := fun h => by subst h; rfl
  simp only [decide_eq_true_eq, Bool.and_eq_true]
  constructor
  · rintro ⟨⟨⟨⟨⟨⟨_, _⟩, _⟩, ⟨a1, a2⟩, a3⟩, ⟨b1, b2⟩, b3⟩, c⟩, d⟩
    rw [if_pos a1] at a3
    rw [if_pos b1] at b3
    omega
  · rintro ⟨⟨⟨⟨⟨⟨a, b⟩, c⟩, d⟩, e⟩, f⟩, g⟩
    rw [if_pos b, if_pos e]
    have := h0 a
    omega
theorem cells3a {w : World} {P : Nat} {a b c : Value} {t : TypeId} (h : w.heap[P]? = some (.cells #[a, b, c] t (0, 0))) : w.cell? ⟨P, 0, none⟩ = some a ∧ w.cell? ⟨P, 1, none⟩ = some b ∧ w.cell? ⟨P, 2, none⟩ = some c := ⟨by simp [World.cell?, h], by simp [World.cell?, h], by simp [World.cell?, h]⟩
set_option maxHeartbeats 16000000 in
set_option maxRecDepth 1000000 in
theorem timarks_any {w : World} {m0 m1 m2 : Int} (h00 : -9223372036854775808 ≤ m0) (h01 : m0 ≤ 9223372036854775807) (h10 : -9223372036854775808 ≤ m1) (h11 : m1 ≤ 9223372036854775807) (h20 : -9223372036854775808 ≤ m2) (h21 : m2 ≤ 9223372036854775807) :
    Calls Try.prog 47 #[.agg #[.int .i64 m0, .int .i64 m1, .int .i64 m2]] w fun e w' => e = .returned (.bool (marksB m0 m1 m2)) ∧ Below w.heap.size w w' := by
  have HWI : Hid (∀ W, Calls Try.prog 73 #[.int .i64 2] W fun e w' => e = .returned (.int .i64 3600) ∧ w' = W) := Lib.hid fun W => wiwidth_any W 2 (by omega) (by omega)
  obtain ⟨Z, hZ⟩ : ∃ Z, Z = marksB m0 m1 m2 := ⟨_, rfl⟩
  rw [← hZ]
  have HZ := Lib.hid hZ
  clear hZ
  go_enter Try.func47, Try.ntmps47
  go_upto_region 1 with fail
  refine wp_name fun W0 hW0 => ?_
  obtain ⟨P, hP⟩ : ∃ P, P = w.heap.size := ⟨_, rfl⟩
  have HB0 : Hid (Below w.heap.size w W0) := Lib.hid (by rw [hW0.out]; exact (Below.refl _ _).alloc (Nat.le_refl _) _)
  have hh : W0.heap[P]? = some (.cells #[.int .i64 m0, .int .i64 m1, .int .i64 m2] 49 (0, 0)) := by rw [hW0.out, hP]; exact heap_alloc_new w _
  obtain ⟨c0, c1, c2⟩ := cells3a hh
  rw [← hP]
  clear hW0 hP hh
  go_wp2_with fail
  go_loopw [6] (fun c wr => ∃ k : Nat, k ≤ 3 ∧ c = .int .i64 k ∧ (1 ≤ k → goodM 0 m0 = true) ∧ (2 ≤ k → goodM 1 m1 = true) ∧ (3 ≤ k → goodM 2 m2 = true) ∧ wr = W0) (fun c _ => 3 - (intOf c).toNat)
  case atStart => exact ⟨0, by omega, rfl, by omega, by omega, by omega, rfl⟩
  case round =>
    obtain ⟨k, hk, hc, p0, p1, p2, hw⟩ := hrel
    replace hw := hw.symm
    subst hw
    have HP := Lib.hid (And.intro p0 (And.intro p1 p2))
    clear p0 p1 p2
    have hk4 : k = 0 ∨ k = 1 ∨ k = 2 ∨ k = 3 := by omega
    rcases hk4 with rfl | rfl | rfl | rfl
    · obtain rfl : u6 = .int .i64 0 := hc
      have hix : (Instr.index 49 (.agg #[.int .i64 m0, .int .i64 m1, .int .i64 m2]) (.int .i64 0)).run Try.prog W0 = .ok (.int .i64 m0) W0 := run_index_one W0 49 2 3 [.int .i64 m0, .int .i64 m1, .int .i64 m2] .i64 0 (.int .i64 m0) Try.underlying49 (.int .i64) Try.underlying2 rfl (by kernel_rfl) (by omega) rfl
      by_cases hneg : m0 < 0
      · have hbad : goodM 0 m0 = false := by unfold goodM; rw [decide_eq_false (show ¬ 0 ≤ m0 by omega)]; rfl
        have HNO : Hid (Z = false) := Lib.hid (by rw [HZ.out]; unfold marksB; rw [hbad]; simp)
        have t0 : decide (m0 < 0) = true := decide_eq_true hneg
        clear hneg hbad
        go_wp2_with fail
        go_ret
        exact ⟨by rw [HNO.out]; rfl, HB0.out⟩
      · have t0 : decide (m0 < 0) = false := decide_eq_false hneg
        by_cases hbig : 1099511631376 < m0
        · have hbad : goodM 0 m0 = false := by unfold goodM; rw [decide_eq_false (show ¬ m0 ≤ 1099511631376 by omega), Bool.and_false]; rfl
          have HNO : Hid (Z = false) := Lib.hid (by rw [HZ.out]; unfold marksB; rw [hbad]; simp)
          have t1 : decide (1099511631376 < m0) = true := decide_eq_true hbig
          clear hneg hbig hbad
          go_wp2_with fail
          refine (HWI.out W0).mono ?_
          rintro e Wx ⟨rfl, hw⟩; replace hw := hw.symm; subst hw
          dsimp only
          go_wp2_with fail
          go_ret
          exact ⟨by rw [HNO.out]; rfl, HB0.out⟩
        · have t1 : decide (1099511631376 < m0) = false := decide_eq_false hbig
          obtain ⟨S, hS⟩ : ∃ S, S = startW 0 m0 := ⟨_, rfl⟩
          have HST : Hid (∀ W, Calls Try.prog 66 #[.int .i64 0, .int .i64 m0] W fun e w' => e = .returned (.int .i64 S) ∧ w' = W) := Lib.hid fun W => by rw [hS]; exact wistart_any W 0 m0 (by omega) (by omega) (by omega) (by omega)
          by_cases hst : S = m0
          · have hok : goodM 0 m0 = true := by unfold goodM; rw [decide_eq_true (show 0 ≤ m0 by omega), decide_eq_true (show m0 ≤ 1099511631376 by omega), decide_eq_true (show startW 0 m0 = m0 by rw [← hS]; exact hst)]; rfl
            have HOK := Lib.hid hok
            have s1 : (S != m0) = false := by simpa using hst
            clear hneg hbig hok hst hS
            go_wp2_with fail
            refine (HWI.out W0).mono ?_
            rintro e Wx ⟨rfl, hw⟩; replace hw := hw.symm; subst hw
            dsimp only
            go_wp2_with fail
            refine (HST.out W0).mono ?_
            rintro e Wx ⟨rfl, hw⟩; replace hw := hw.symm; subst hw
            dsimp only
            go_wp2_with fail
            go_roundw
            case rel => exact ⟨1, by omega, rfl, by intro h; exact HOK.out, by intro h; omega, by intro h; omega, trivial⟩
            case measure => simp [intOf]
          · have hbad : goodM 0 m0 = false := by unfold goodM; rw [decide_eq_false (show ¬ startW 0 m0 = m0 by rw [← hS]; exact hst), Bool.and_false]
            have HNO : Hid (Z = false) := Lib.hid (by rw [HZ.out]; unfold marksB; rw [hbad]; simp)
            have s1 : (S != m0) = true := by simpa using hst
            clear hneg hbig hbad hst hS
            go_wp2_with fail
            refine (HWI.out W0).mono ?_
            rintro e Wx ⟨rfl, hw⟩; replace hw := hw.symm; subst hw
            dsimp only
            go_wp2_with fail
            refine (HST.out W0).mono ?_
            rintro e Wx ⟨rfl, hw⟩; replace hw := hw.symm; subst hw
            dsimp only
            go_wp2_with fail
            go_ret
            exact ⟨by rw [HNO.out]; rfl, HB0.out⟩
    · obtain rfl : u6 = .int .i64 1 := hc
      have hix : (Instr.index 49 (.agg #[.int .i64 m0, .int .i64 m1, .int .i64 m2]) (.int .i64 1)).run Try.prog W0 = .ok (.int .i64 m1) W0 := run_index_one W0 49 2 3 [.int .i64 m0, .int .i64 m1, .int .i64 m2] .i64 1 (.int .i64 m1) Try.underlying49 (.int .i64) Try.underlying2 rfl (by kernel_rfl) (by omega) rfl
      by_cases hneg : m1 < 0
      · have hbad : goodM 1 m1 = false := by unfold goodM; rw [decide_eq_false (show ¬ 0 ≤ m1 by omega)]; rfl
        have HNO : Hid (Z = false) := Lib.hid (by rw [HZ.out]; unfold marksB; rw [hbad]; simp)
        have t0 : decide (m1 < 0) = true := decide_eq_true hneg
        clear hneg hbad
        go_wp2_with fail
        go_ret
        exact ⟨by rw [HNO.out]; rfl, HB0.out⟩
      · have t0 : decide (m1 < 0) = false := decide_eq_false hneg
        by_cases hbig : 1099511631376 < m1
        · have hbad : goodM 1 m1 = false := by unfold goodM; rw [decide_eq_false (show ¬ m1 ≤ 1099511631376 by omega), Bool.and_false]; rfl
          have HNO : Hid (Z = false) := Lib.hid (by rw [HZ.out]; unfold marksB; rw [hbad]; simp)
          have t1 : decide (1099511631376 < m1) = true := decide_eq_true hbig
          clear hneg hbig hbad
          go_wp2_with fail
          refine (HWI.out W0).mono ?_
          rintro e Wx ⟨rfl, hw⟩; replace hw := hw.symm; subst hw
          dsimp only
          go_wp2_with fail
          go_ret
          exact ⟨by rw [HNO.out]; rfl, HB0.out⟩
        · have t1 : decide (1099511631376 < m1) = false := decide_eq_false hbig
          obtain ⟨S, hS⟩ : ∃ S, S = startW 1 m1 := ⟨_, rfl⟩
          have HST : Hid (∀ W, Calls Try.prog 66 #[.int .i64 1, .int .i64 m1] W fun e w' => e = .returned (.int .i64 S) ∧ w' = W) := Lib.hid fun W => by rw [hS]; exact wistart_any W 1 m1 (by omega) (by omega) (by omega) (by omega)
          by_cases hst : S = m1
          · have hok : goodM 1 m1 = true := by unfold goodM; rw [decide_eq_true (show 0 ≤ m1 by omega), decide_eq_true (show m1 ≤ 1099511631376 by omega), decide_eq_true (show startW 1 m1 = m1 by rw [← hS]; exact hst)]; rfl
            have HOK := Lib.hid hok
            have s1 : (S != m1) = false := by simpa using hst
            clear hneg hbig hok hst hS
            go_wp2_with fail
            refine (HWI.out W0).mono ?_
            rintro e Wx ⟨rfl, hw⟩; replace hw := hw.symm; subst hw
            dsimp only
            go_wp2_with fail
            refine (HST.out W0).mono ?_
            rintro e Wx ⟨rfl, hw⟩; replace hw := hw.symm; subst hw
            dsimp only
            go_wp2_with fail
            go_roundw
            case rel => exact ⟨2, by omega, rfl, by intro h; exact HP.out.1 (by omega), by intro h; exact HOK.out, by intro h; omega, trivial⟩
            case measure => simp [intOf]
          · have hbad : goodM 1 m1 = false := by unfold goodM; rw [decide_eq_false (show ¬ startW 1 m1 = m1 by rw [← hS]; exact hst), Bool.and_false]
            have HNO : Hid (Z = false) := Lib.hid (by rw [HZ.out]; unfold marksB; rw [hbad]; simp)
            have s1 : (S != m1) = true := by simpa using hst
            clear hneg hbig hbad hst hS
            go_wp2_with fail
            refine (HWI.out W0).mono ?_
            rintro e Wx ⟨rfl, hw⟩; replace hw := hw.symm; subst hw
            dsimp only
            go_wp2_with fail
            refine (HST.out W0).mono ?_
            rintro e Wx ⟨rfl, hw⟩; replace hw := hw.symm; subst hw
            dsimp only
            go_wp2_with fail
            go_ret
            exact ⟨by rw [HNO.out]; rfl, HB0.out⟩
    · obtain rfl : u6 = .int .i64 2 := hc
      have hix : (Instr.index 49 (.agg #[.int .i64 m0, .int .i64 m1, .int .i64 m2]) (.int .i64 2)).run Try.prog W0 = .ok (.int .i64 m2) W0 := run_index_one W0 49 2 3 [.int .i64 m0, .int .i64 m1, .int .i64 m2] .i64 2 (.int .i64 m2) Try.underlying49 (.int .i64) Try.underlying2 rfl (by kernel_rfl) (by omega) rfl
      by_cases hneg : m2 < 0
      · have hbad : goodM 2 m2 = false := by unfold goodM; rw [decide_eq_false (show ¬ 0 ≤ m2 by omega)]; rfl
        have HNO : Hid (Z = false) := Lib.hid (by rw [HZ.out]; unfold marksB; rw [hbad]; simp)
        have t0 : decide (m2 < 0) = true := decide_eq_true hneg
        clear hneg hbad
        go_wp2_with fail
        go_ret
        exact ⟨by rw [HNO.out]; rfl, HB0.out⟩
      · have t0 : decide (m2 < 0) = false := decide_eq_false hneg
        by_cases hbig : 1099511631376 < m2
        · have hbad : goodM 2 m2 = false := by unfold goodM; rw [decide_eq_false (show ¬ m2 ≤ 1099511631376 by omega), Bool.and_false]; rfl
          have HNO : Hid (Z = false) := Lib.hid (by rw [HZ.out]; unfold marksB; rw [hbad]; simp)
          have t1 : decide (1099511631376 < m2) = true := decide_eq_true hbig
          clear hneg hbig hbad
          go_wp2_with fail
          refine (HWI.out W0).mono ?_
          rintro e Wx ⟨rfl, hw⟩; replace hw := hw.symm; subst hw
          dsimp only
          go_wp2_with fail
          go_ret
          exact ⟨by rw [HNO.out]; rfl, HB0.out⟩
        · have t1 : decide (1099511631376 < m2) = false := decide_eq_false hbig
          obtain ⟨S, hS⟩ : ∃ S, S = startW 2 m2 := ⟨_, rfl⟩
          have HST : Hid (∀ W, Calls Try.prog 66 #[.int .i64 2, .int .i64 m2] W fun e w' => e = .returned (.int .i64 S) ∧ w' = W) := Lib.hid fun W => by rw [hS]; exact wistart_any W 2 m2 (by omega) (by omega) (by omega) (by omega)
          by_cases hst : S = m2
          · have hok : goodM 2 m2 = true := by unfold goodM; rw [decide_eq_true (show 0 ≤ m2 by omega), decide_eq_true (show m2 ≤ 1099511631376 by omega), decide_eq_true (show startW 2 m2 = m2 by rw [← hS]; exact hst)]; rfl
            have HOK := Lib.hid hok
            have s1 : (S != m2) = false := by simpa using hst
            clear hneg hbig hok hst hS
            go_wp2_with fail
            refine (HWI.out W0).mono ?_
            rintro e Wx ⟨rfl, hw⟩; replace hw := hw.symm; subst hw
            dsimp only
            go_wp2_with fail
            refine (HST.out W0).mono ?_
            rintro e Wx ⟨rfl, hw⟩; replace hw := hw.symm; subst hw
            dsimp only
            go_wp2_with fail
            go_roundw
            case rel => exact ⟨3, by omega, rfl, by intro h; exact HP.out.1 (by omega), by intro h; exact HP.out.2.1 (by omega), by intro h; exact HOK.out, trivial⟩
            case measure => simp [intOf]
          · have hbad : goodM 2 m2 = false := by unfold goodM; rw [decide_eq_false (show ¬ startW 2 m2 = m2 by rw [← hS]; exact hst), Bool.and_false]
            have HNO : Hid (Z = false) := Lib.hid (by rw [HZ.out]; unfold marksB; rw [hbad]; simp)
            have s1 : (S != m2) = true := by simpa using hst
            clear hneg hbig hbad hst hS
            go_wp2_with fail
            refine (HWI.out W0).mono ?_
            rintro e Wx ⟨rfl, hw⟩; replace hw := hw.symm; subst hw
            dsimp only
            go_wp2_with fail
            refine (HST.out W0).mono ?_
            rintro e Wx ⟨rfl, hw⟩; replace hw := hw.symm; subst hw
            dsimp only
            go_wp2_with fail
            go_ret
            exact ⟨by rw [HNO.out]; rfl, HB0.out⟩
    · obtain rfl : u6 = .int .i64 3 := hc
      by_cases hz0 : m0 = 0
      · have s0 : (m0 == 0) = true := by simpa using hz0
        have HYE : Hid (Z = decide (m2 ≤ m1)) := Lib.hid (by rw [HZ.out]; unfold marksB; rw [HP.out.1 (by omega), HP.out.2.1 (by omega), HP.out.2.2 (by omega), decide_eq_true hz0]; rfl)
        clear hz0
        go_wp2_with fail
        go_ret
        exact ⟨by rw [HYE.out]; rfl, HB0.out⟩
      · have s0 : (m0 == 0) = false := by simpa using hz0
        have HNO : Hid (Z = false) := Lib.hid (by rw [HZ.out]; unfold marksB; rw [decide_eq_false hz0]; simp)
        clear hz0
        go_wp2_with fail
        go_ret
        exact ⟨by rw [HNO.out]; rfl, HB0.out⟩
end Go.Proofs.Ytmpphidiofhnlaa
