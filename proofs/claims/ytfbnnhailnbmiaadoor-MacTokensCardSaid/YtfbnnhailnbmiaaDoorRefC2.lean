/- Cube and Square, walked. -/
import Derived.Test.YtfbnnhailnbmiaaDoorRefC
namespace Go.Proofs.YtfbnnhailnbmiaaDoor
open Go.RowKit

set_option maxHeartbeats 4000000 in
theorem cube_any {n : Nat} (hn : n ≤ 400) (w : World) :
    Calls Tryd.prog 25 #[.int .u64 (n : Int)] w fun e w' => (∃ whole, whole < 8 ∧ whole * whole * whole ≤ n ∧ n < (whole + 1) * (whole + 1) * (whole + 1) ∧ e = .returned (.int .u32 ((cubeF n whole : Nat) : Int))) ∧ w = w' := by
  go_enter Tryd.func25, Tryd.ntmps25
  go_wp2
  go_loopw [3] (fun c wr => w = wr ∧ ∃ d : Nat, d < 8 ∧ c = .int .u64 d ∧ d * d * d ≤ n) (fun c _ => 8 - (intOf c).toNat)
  case atStart => exact ⟨rfl, 0, by omega, rfl, by omega⟩
  case round =>
    obtain ⟨rfl, d, hd, rfl, hcu⟩ := hrel
    have k0 : IntKind.u64.wrap ((d : Int) + 1) = ((d + 1 : Nat) : Int) := by rw [IntKind.wrap_u64]; omega
    have h1 : (d + 1) * (d + 1) ≤ 64 := Nat.mul_le_mul (by omega : d + 1 ≤ 8) (by omega : d + 1 ≤ 8)
    have h2 : (d + 1) * (d + 1) * (d + 1) ≤ 512 := Nat.mul_le_mul h1 (by omega : d + 1 ≤ 8)
    have k1 : IntKind.u64.wrap (((d + 1 : Nat) : Int) * ((d + 1 : Nat) : Int)) = (((d + 1) * (d + 1) : Nat) : Int) := by rw [mulw]; congr 1; omega
    have k2 : IntKind.u64.wrap ((((d + 1) * (d + 1) : Nat) : Int) * ((d + 1 : Nat) : Int)) = (((d + 1) * (d + 1) * (d + 1) : Nat) : Int) := by rw [mulw]; congr 1; omega
    obtain ⟨c, hc⟩ : ∃ c, c = d + 1 := ⟨_, rfl⟩
    rw [← hc] at k0 k1 k2 h1 h2
    obtain ⟨s, hs⟩ : ∃ s, s = c * c := ⟨_, rfl⟩
    rw [← hs] at k1 k2 h1 h2
    obtain ⟨q, hq⟩ : ∃ q, q = s * c := ⟨_, rfl⟩
    rw [← hq] at k2 h2
    have HQ : Hid (q = (d + 1) * (d + 1) * (d + 1)) := Lib.hid (by rw [hq, hs, hc])
    have HC := Lib.hid hc
    clear hc hs hq h1
    by_cases hle : q ≤ n
    · have t1 : decide ((q : Int) ≤ n) = true := by simp only [decide_eq_true_eq]; omega
      have hd7 : d < 7 := by
        rcases Nat.lt_or_ge d 7 with h | h
        · exact h
        · have e := HQ.out
          have : d = 7 := by omega
          subst this; omega
      go_wp2
      go_roundw
      case rel => exact ⟨by trivial, c, by have := HC.out; omega, by go_num, by rw [HC.out, ← HQ.out]; exact hle⟩
      case measure => have := HC.out; simp [intOf]; omega
    · have t1 : decide ((q : Int) ≤ n) = false := by simp only [decide_eq_false_iff_not]; omega
      have HG : Hid (n < (d + 1) * (d + 1) * (d + 1)) := Lib.hid (by have := HQ.out; omega)
      have HCU := Lib.hid hcu
      clear hcu h2
      go_wp2
      go_loopw [4, 5] (fun k c wr => w = wr ∧ ∃ j : Nat, j ≤ 32 ∧ c = .int .i64 (31 - (j : Int)) ∧ k = .int .u64 ((rootK cubeHit n d j : Nat) : Int)) (fun _ c _ => (intOf c + 1).toNat)
      case atStart => exact ⟨rfl, 0, by omega, rfl, rfl⟩
      case round =>
        obtain ⟨rfl, j, hj, rfl, rfl⟩ := hrel
        by_cases hlt : j < 32
        · obtain ⟨b, hb⟩ : ∃ b, b = 31 - j := ⟨_, rfl⟩
          have hbi : (31 - (j : Int)) = (b : Int) := by omega
          obtain ⟨k, hk⟩ : ∃ k, k = rootK cubeHit n d j := ⟨_, rfl⟩
          rw [hbi, ← hk]
          have t1 : decide ((0 : Int) ≤ (b : Int)) = true := by simp
          have t1' : (0 : Int) ≤ b := by omega
          have e1 : IntKind.u64.wrap (b : Int) = b := by rw [IntKind.wrap_u64]; omega
          have hb32 : b < 32 := by omega
          have HB := Lib.hid hb
          have HK := Lib.hid hk
          obtain ⟨p2, hp2⟩ : ∃ p : Nat, p = 2 ^ b % 18446744073709551616 := ⟨_, rfl⟩
          obtain ⟨x, hx⟩ : ∃ x : Nat, x = triX d k b := ⟨_, rfl⟩
          have hx' : x = ((d * 4294967296 % 18446744073709551616 + k) % 18446744073709551616 + p2) % 18446744073709551616 := by rw [hx, triX, hp2]
          obtain ⟨y, hy⟩ : ∃ y : Nat, y = (d * 4294967296 + k) % 18446744073709551616 := ⟨_, rfl⟩
          have k3 : IntKind.u64.wrap ((d : Int) * 4294967296 + k) = (y : Int) := by rw [IntKind.wrap_u64, hy]; omega
          have k4 : IntKind.u64.wrap (2 ^ b) = (p2 : Int) := by
            rw [hp2, show (2 : Int) ^ b = ((2 ^ b : Nat) : Int) by simp, wrap_nat]
          have k5 : IntKind.u64.wrap ((y : Int) + p2) = (x : Int) := by rw [addw]; congr 1; rw [hx', hy]; congr 2; omega
          obtain ⟨k9, hk9⟩ : ∃ q : Nat, q = (k + p2) % 18446744073709551616 := ⟨_, rfl⟩
          have k6 : IntKind.u64.wrap ((k : Int) + p2) = (k9 : Int) := by rw [addw, hk9]
          have HSTEP : Hid (rootK cubeHit n d (j + 1) = if cubeHit n x then k9 else k) := Lib.hid (by rw [rootK, ← hk, ← hb, ← hx, hk9, hp2])
          obtain ⟨l, hl⟩ : ∃ l : Nat, l = x * x % 18446744073709551616 := ⟨_, rfl⟩
          obtain ⟨h, hh⟩ : ∃ h : Nat, h = highF x x := ⟨_, rfl⟩
          obtain ⟨a, ha⟩ : ∃ a : Nat, a = highF l x := ⟨_, rfl⟩
          obtain ⟨h2, hh2⟩ : ∃ q : Nat, q = h * x % 18446744073709551616 := ⟨_, rfl⟩
          obtain ⟨bb, hbb⟩ : ∃ q : Nat, q = (h2 + a) % 18446744073709551616 := ⟨_, rfl⟩
          obtain ⟨lx, hlx⟩ : ∃ q : Nat, q = l * x % 18446744073709551616 := ⟨_, rfl⟩
          have m1 : IntKind.u64.wrap ((x : Int) * x) = (l : Int) := by rw [mulw, hl]
          have m2 : IntKind.u64.wrap ((h : Int) * x) = (h2 : Int) := by rw [mulw, hh2]
          have m3 : IntKind.u64.wrap ((h2 : Int) + a) = (bb : Int) := by rw [addw, hbb]
          have m4 : IntKind.u64.wrap ((l : Int) * x) = (lx : Int) := by rw [mulw, hlx]
          have n1 : ((highF x x : Nat) : Int) = (h : Int) := by rw [hh]
          have n2 : ((highF l x : Nat) : Int) = (a : Int) := by rw [ha]
          have hhit : cubeHit n x = (decide (bb / 4294967296 < n) || (bb / 4294967296 == n && bb % 4294967296 == 0 && lx == 0)) := by
            unfold cubeHit; simp only; rw [← hl, ← hh, ← ha, ← hh2, ← hbb, ← hlx]
          have HHIT := Lib.hid hhit
          obtain ⟨g1, hg1⟩ : ∃ g : Nat, g = bb / 4294967296 := ⟨_, rfl⟩
          obtain ⟨g2, hg2⟩ : ∃ g : Nat, g = bb % 4294967296 := ⟨_, rfl⟩
          have n3 : (bb : Int) / 4294967296 = (g1 : Int) := by rw [divh, hg1]
          have n4 : (bb : Int) % 4294967296 = (g2 : Int) := by rw [modh, hg2]
          rw [← hg1, ← hg2] at HHIT
          clear hb hbi hk hx hx' hy hk9 hp2 hl hh ha hh2 hbb hlx hhit hg1 hg2
          by_cases c1 : g1 < n
          · have t2 : decide ((g1 : Int) < n) = true := by simp only [decide_eq_true_eq]; omega
            have HY : Hid (rootK cubeHit n d (j + 1) = k9) := Lib.hid (by rw [HSTEP.out, HHIT.out]; simp [c1])
            go_wp2_with (go_at_call 35; refine (high_any _ _ _).mono ?_; rintro e w' ⟨rfl, rfl⟩)
            go_roundw
            case rel => exact ⟨by trivial, j + 1, by omega, by have := HB.out; rw [show (31 : Int) - ((j + 1 : Nat) : Int) = (b : Int) - 1 by omega], by rw [HY.out]⟩
            case measure => simp [intOf]
          · have t2 : decide ((g1 : Int) < n) = false := by simp only [decide_eq_false_iff_not]; omega
            by_cases c2 : g1 = n
            · have t3 : ((g1 : Int) == n) = true := by simp; omega
              by_cases c3 : g2 = 0
              · have t4 : ((g2 : Int) == 0) = true := by simp; omega
                by_cases c4 : lx = 0
                · have t5 : ((lx : Int) == 0) = true := by simp; omega
                  have HY : Hid (rootK cubeHit n d (j + 1) = k9) := Lib.hid (by rw [HSTEP.out, HHIT.out]; simp [c2, c3, c4])
                  go_wp2_with (go_at_call 35; refine (high_any _ _ _).mono ?_; rintro e w' ⟨rfl, rfl⟩)
                  go_roundw
                  case rel => exact ⟨by trivial, j + 1, by omega, by have := HB.out; rw [show (31 : Int) - ((j + 1 : Nat) : Int) = (b : Int) - 1 by omega], by rw [HY.out]⟩
                  case measure => simp [intOf]
                · have t5 : ((lx : Int) == 0) = false := by simp; omega
                  have HY : Hid (rootK cubeHit n d (j + 1) = k) := Lib.hid (by rw [HSTEP.out, HHIT.out]; simp [c2, c4])
                  go_wp2_with (go_at_call 35; refine (high_any _ _ _).mono ?_; rintro e w' ⟨rfl, rfl⟩)
                  go_roundw
                  case rel => exact ⟨by trivial, j + 1, by omega, by have := HB.out; rw [show (31 : Int) - ((j + 1 : Nat) : Int) = (b : Int) - 1 by omega], by rw [HY.out]⟩
                  case measure => simp [intOf]
              · have t4 : ((g2 : Int) == 0) = false := by simp; omega
                have HY : Hid (rootK cubeHit n d (j + 1) = k) := Lib.hid (by rw [HSTEP.out, HHIT.out]; simp [c2, c3])
                go_wp2_with (go_at_call 35; refine (high_any _ _ _).mono ?_; rintro e w' ⟨rfl, rfl⟩)
                go_roundw
                case rel => exact ⟨by trivial, j + 1, by omega, by have := HB.out; rw [show (31 : Int) - ((j + 1 : Nat) : Int) = (b : Int) - 1 by omega], by rw [HY.out]⟩
                case measure => simp [intOf]
            · have t3 : ((g1 : Int) == n) = false := by simp; omega
              have HY : Hid (rootK cubeHit n d (j + 1) = k) := Lib.hid (by rw [HSTEP.out, HHIT.out]; simp [c1, c2])
              go_wp2_with (go_at_call 35; refine (high_any _ _ _).mono ?_; rintro e w' ⟨rfl, rfl⟩)
              go_roundw
              case rel => exact ⟨by trivial, j + 1, by omega, by have := HB.out; rw [show (31 : Int) - ((j + 1 : Nat) : Int) = (b : Int) - 1 by omega], by rw [HY.out]⟩
              case measure => simp [intOf]
        · obtain rfl : j = 32 := by omega
          have t1 : decide ((0 : Int) ≤ 31 - ((32 : Nat) : Int)) = false := by simp
          have e2 : IntKind.u32.wrap ((rootK cubeHit n d 32 : Nat) : Int) = ((cubeF n d : Nat) : Int) := by rw [IntKind.wrap_u32, cubeF]; omega
          obtain ⟨kk, hkk⟩ : ∃ kk, kk = rootK cubeHit n d 32 := ⟨_, rfl⟩
          rw [← hkk] at e2 ⊢
          clear hkk
          go_wp2
          go_ret
          exact ⟨⟨d, hd, HCU.out, HG.out, by first | rfl | (rw [e2]; rfl)⟩, by trivial⟩
set_option maxHeartbeats 4000000 in
theorem square_any {n : Nat} (hn : n ≤ 400) (w : World) :
    Calls Tryd.prog 26 #[.int .u64 (n : Int)] w fun e w' => (∃ whole, whole < 21 ∧ whole * whole ≤ n ∧ n < (whole + 1) * (whole + 1) ∧ e = .returned (.int .u32 ((squareF n whole : Nat) : Int))) ∧ w = w' := by
  go_enter Tryd.func26, Tryd.ntmps26
  go_wp2
  go_loopw [3] (fun c wr => w = wr ∧ ∃ d : Nat, d < 21 ∧ c = .int .u64 d ∧ d * d ≤ n) (fun c _ => 21 - (intOf c).toNat)
  case atStart => exact ⟨rfl, 0, by omega, rfl, by omega⟩
  case round =>
    obtain ⟨rfl, d, hd, rfl, hcu⟩ := hrel
    have k0 : IntKind.u64.wrap ((d : Int) + 1) = ((d + 1 : Nat) : Int) := by rw [IntKind.wrap_u64]; omega
    have h2 : (d + 1) * (d + 1) ≤ 441 := Nat.mul_le_mul (by omega : d + 1 ≤ 21) (by omega : d + 1 ≤ 21)
    have k1 : IntKind.u64.wrap (((d + 1 : Nat) : Int) * ((d + 1 : Nat) : Int)) = (((d + 1) * (d + 1) : Nat) : Int) := by rw [mulw]; congr 1; omega
    obtain ⟨c, hc⟩ : ∃ c, c = d + 1 := ⟨_, rfl⟩
    rw [← hc] at k0 k1 h2
    obtain ⟨q, hq⟩ : ∃ q, q = c * c := ⟨_, rfl⟩
    rw [← hq] at k1 h2
    have HQ : Hid (q = (d + 1) * (d + 1)) := Lib.hid (by rw [hq, hc])
    have HC := Lib.hid hc
    clear hc hq
    by_cases hle : q ≤ n
    · have t1 : decide ((q : Int) ≤ n) = true := by simp only [decide_eq_true_eq]; omega
      have hd7 : d < 20 := by
        rcases Nat.lt_or_ge d 20 with h | h
        · exact h
        · have e := HQ.out
          have : d = 20 := by omega
          subst this; omega
      go_wp2
      go_roundw
      case rel => exact ⟨by trivial, c, by have := HC.out; omega, by go_num, by rw [HC.out, ← HQ.out]; exact hle⟩
      case measure => have := HC.out; simp [intOf]; omega
    · have t1 : decide ((q : Int) ≤ n) = false := by simp only [decide_eq_false_iff_not]; omega
      have HG : Hid (n < (d + 1) * (d + 1)) := Lib.hid (by have := HQ.out; omega)
      have HCU := Lib.hid hcu
      clear hcu h2
      go_wp2
      go_loopw [4, 5] (fun k c wr => w = wr ∧ ∃ j : Nat, j ≤ 32 ∧ c = .int .i64 (31 - (j : Int)) ∧ k = .int .u64 ((rootK squareHit n d j : Nat) : Int)) (fun _ c _ => (intOf c + 1).toNat)
      case atStart => exact ⟨rfl, 0, by omega, rfl, rfl⟩
      case round =>
        obtain ⟨rfl, j, hj, rfl, rfl⟩ := hrel
        by_cases hlt : j < 32
        · obtain ⟨b, hb⟩ : ∃ b, b = 31 - j := ⟨_, rfl⟩
          have hbi : (31 - (j : Int)) = (b : Int) := by omega
          obtain ⟨k, hk⟩ : ∃ k, k = rootK squareHit n d j := ⟨_, rfl⟩
          rw [hbi, ← hk]
          have t1 : decide ((0 : Int) ≤ (b : Int)) = true := by simp
          have t1' : (0 : Int) ≤ b := by omega
          have e1 : IntKind.u64.wrap (b : Int) = b := by rw [IntKind.wrap_u64]; omega
          have hb32 : b < 32 := by omega
          have HB := Lib.hid hb
          have HK := Lib.hid hk
          obtain ⟨p2, hp2⟩ : ∃ p : Nat, p = 2 ^ b % 18446744073709551616 := ⟨_, rfl⟩
          obtain ⟨x, hx⟩ : ∃ x : Nat, x = triX d k b := ⟨_, rfl⟩
          have hx' : x = ((d * 4294967296 % 18446744073709551616 + k) % 18446744073709551616 + p2) % 18446744073709551616 := by rw [hx, triX, hp2]
          obtain ⟨y, hy⟩ : ∃ y : Nat, y = (d * 4294967296 + k) % 18446744073709551616 := ⟨_, rfl⟩
          have k3 : IntKind.u64.wrap ((d : Int) * 4294967296 + k) = (y : Int) := by rw [IntKind.wrap_u64, hy]; omega
          have k4 : IntKind.u64.wrap (2 ^ b) = (p2 : Int) := by
            rw [hp2, show (2 : Int) ^ b = ((2 ^ b : Nat) : Int) by simp, wrap_nat]
          have k5 : IntKind.u64.wrap ((y : Int) + p2) = (x : Int) := by rw [addw]; congr 1; rw [hx', hy]; congr 2; omega
          obtain ⟨k9, hk9⟩ : ∃ q : Nat, q = (k + p2) % 18446744073709551616 := ⟨_, rfl⟩
          have k6 : IntKind.u64.wrap ((k : Int) + p2) = (k9 : Int) := by rw [addw, hk9]
          have HSTEP : Hid (rootK squareHit n d (j + 1) = if squareHit n x then k9 else k) := Lib.hid (by rw [rootK, ← hk, ← hb, ← hx, hk9, hp2])
          obtain ⟨h, hh⟩ : ∃ h : Nat, h = highF x x := ⟨_, rfl⟩
          have n1 : ((highF x x : Nat) : Int) = (h : Int) := by rw [hh]
          have hhit : squareHit n x = decide (h < n) := by unfold squareHit; rw [← hh]
          have HHIT := Lib.hid hhit
          clear hb hbi hk hx hx' hy hk9 hp2 hh hhit
          by_cases c1 : h < n
          · have t2 : decide ((h : Int) < n) = true := by simp only [decide_eq_true_eq]; omega
            have HY : Hid (rootK squareHit n d (j + 1) = k9) := Lib.hid (by rw [HSTEP.out, HHIT.out]; simp [c1])
            go_wp2_with (go_at_call 35; refine (high_any _ _ _).mono ?_; rintro e w' ⟨rfl, rfl⟩)
            go_roundw
            case rel => exact ⟨by trivial, j + 1, by omega, by have := HB.out; rw [show (31 : Int) - ((j + 1 : Nat) : Int) = (b : Int) - 1 by omega], by rw [HY.out]⟩
            case measure => simp [intOf]
          · have t2 : decide ((h : Int) < n) = false := by simp only [decide_eq_false_iff_not]; omega
            have HY : Hid (rootK squareHit n d (j + 1) = k) := Lib.hid (by rw [HSTEP.out, HHIT.out]; simp [c1])
            go_wp2_with (go_at_call 35; refine (high_any _ _ _).mono ?_; rintro e w' ⟨rfl, rfl⟩)
            go_roundw
            case rel => exact ⟨by trivial, j + 1, by omega, by have := HB.out; rw [show (31 : Int) - ((j + 1 : Nat) : Int) = (b : Int) - 1 by omega], by rw [HY.out]⟩
            case measure => simp [intOf]
        · obtain rfl : j = 32 := by omega
          have t1 : decide ((0 : Int) ≤ 31 - ((32 : Nat) : Int)) = false := by simp
          have e2 : IntKind.u32.wrap ((rootK squareHit n d 32 : Nat) : Int) = ((squareF n d : Nat) : Int) := by rw [IntKind.wrap_u32, squareF]; omega
          obtain ⟨kk, hkk⟩ : ∃ kk, kk = rootK squareHit n d 32 := ⟨_, rfl⟩
          rw [← hkk] at e2 ⊢
          clear hkk
          go_wp2
          go_ret
          exact ⟨⟨d, hd, HCU.out, HG.out, by first | rfl | (rw [e2]; rfl)⟩, by trivial⟩
end Go.Proofs.YtfbnnhailnbmiaaDoor
