/- WindowCuts, walked. Written by py/window-cuts.py. -/
import Derived.Test.YtfbipeppnffmeaaWiPlain
import Derived.Deep.DeepCutAuto
import Derived.Deep.QuietTactic
namespace Go.Proofs.Ytfbipeppnffmeaa
open Go.RowKit

/-- the law's two ranges -/
def SitC (W : World) (P : Nat) (a0 a1 b0 b1 : Int) : Prop := RgAt W P a0 a1 ∧ RgAt W (P + 1) b0 b1
theorem SitC.keep {W W' : World} {P : Nat} {a0 a1 b0 b1 : Int} (h : SitC W P a0 a1 b0 b1) (hb : Below W.heap.size W W') : SitC W' P a0 a1 b0 b1 := ⟨h.1.keep hb, h.2.keep hb⟩
theorem SitC.cells {W : World} {P : Nat} {a0 a1 b0 b1 : Int} (h : SitC W P a0 a1 b0 b1) : W.cell? ⟨P, 0, none⟩ = some (.int .i64 a0) ∧ W.cell? ⟨P, 1, none⟩ = some (.int .i64 a1) ∧ W.cell? ⟨P + 1, 0, none⟩ = some (.int .i64 b0) ∧ W.cell? ⟨P + 1, 1, none⟩ = some (.int .i64 b1) :=
  ⟨h.1.cells.1, h.1.cells.2.1, h.2.cells.1, h.2.cells.2.1⟩
set_option maxHeartbeats 16000000 in
set_option maxRecDepth 1000000 in
theorem windowCuts_walk {a0 a1 b0 b1 x : Int} (_h0 : -9223372036854775808 ≤ a0 ∧ a0 ≤ 9223372036854775807) (_h1 : -9223372036854775808 ≤ a1 ∧ a1 ≤ 9223372036854775807) (_h2 : -9223372036854775808 ≤ b0 ∧ b0 ≤ 9223372036854775807) (_h3 : -9223372036854775808 ≤ b1 ∧ b1 ≤ 9223372036854775807) (_h4 : -9223372036854775808 ≤ x) (_h5 : x ≤ 9223372036854775807) (w : World) :
    Calls Try.prog 5 #[.agg #[.int .i64 a0, .int .i64 a1], .agg #[.int .i64 b0, .int .i64 b1], .int .i64 x] w fun e w' => e = .returned (.bool true) ∧ Below w.heap.size w w' := by
  have HL2 : Hid ((cutR a0 a1 b0 b1).length ≤ 2) := Lib.hid (cut_len a0 a1 b0 b1)
  have HFI : Hid (∀ (i : Nat) (p : Int × Int), (cutR a0 a1 b0 b1)[i]? = some p → p.1 < p.2) := Lib.hid fun i p h => cut_filled h
  have HOR : Hid (∀ (i : Nat) (p q : Int × Int), (cutR a0 a1 b0 b1)[i]? = some p → (cutR a0 a1 b0 b1)[i + 1]? = some q → p.2 ≤ q.1) := Lib.hid fun i p q h k => cut_order h k
  have HCO : Hid (cntR (cutR a0 a1 b0 b1) x = if (inR a0 a1 x && !inR b0 b1 x) = true then 1 else 0) := Lib.hid (cut_count a0 a1 b0 b1 x)
  have HCU : Hid (∀ W, Calls Try.prog 18 #[.agg #[.int .i64 a0, .int .i64 a1], .agg #[.int .i64 b0, .int .i64 b1]] W fun e w' => ∃ v, e = .returned v ∧ RgRow W.heap.size w' v (cutR a0 a1 b0 b1) ∧ Below W.heap.size W w') := Lib.hid fun W => wicut_any W a0 a1 b0 b1
  generalize cutR a0 a1 b0 b1 = L at HL2 HFI HOR HCO HCU
  go_enter Try.func5, Try.ntmps5
  repeat (first | go_values | go_skip | go_guarded | go_step)
  refine calls_name ?_
  intro W0 hW0
  obtain ⟨P, hP⟩ : ∃ P, P = w.heap.size := ⟨_, rfl⟩
  have e1 : (w.alloc (.cells #[.int .i64 a0, .int .i64 a1] 25)).heap.size = P + 1 := by rw [hP]; simp
  have HS0 : Hid (SitC W0 P a0 a1 b0 b1) := Lib.hid ⟨by rw [hW0.out, hP]; exact (RgAt.new w _ _).old _, by rw [hW0.out, ← e1]; exact RgAt.new _ _ _⟩
  have HB0 : Hid (Below w.heap.size w W0) := Lib.hid (by rw [hW0.out]; exact ((Below.refl _ _).alloc (Nat.le_refl _) _).alloc (by simp) _)
  have HQ := Lib.hid hP
  rw [← hP]
  clear hW0 hP e1
  refine (wilives_any W0).mono ?_
  rintro e W1 ⟨rfl, hb⟩
  have HS1 := Lib.hid (HS0.out.keep hb)
  have HB1 := Lib.hid (HB0.out.trans (hb.mono HB0.out.size))
  clear hb HS0 HB0
  dsimp only
  obtain ⟨p0, p1, p2, p3⟩ := HS1.out.cells
  repeat (first | go_values | go_skip | go_guarded | go_step)
  refine (HCU.out W1).mono ?_
  rintro e W2 ⟨v, rfl, hr, hb⟩
  have HS2 := Lib.hid (HS1.out.keep hb)
  have HB2 := Lib.hid (HB1.out.trans (hb.mono HB1.out.size))
  have HP1 : Hid (P + 1 < W1.heap.size) := Lib.hid (lt_of_block HS1.out.2)
  have HB12 := Lib.hid hb
  clear hb HS1 HB1 p0 p1 p2 p3
  obtain ⟨a, cap, rfl, hcap, hne, hg⟩ := hr.form2
  have HR2 := Lib.hid hr
  have HCAP := Lib.hid hcap
  have HNE := Lib.hid hne
  have HG := Lib.hid hg
  clear hr hcap hne hg
  dsimp only
  obtain ⟨p0, p1, p2, p3⟩ := HS2.out.cells
  repeat (first | go_values | go_skip | go_guarded | go_step)
  go_loopw [8, 21] (fun n z wr => ∃ k : Nat, k ≤ L.length ∧ z = .int .i64 k ∧ n = .int .i64 ((cntR (L.take k) x : Nat) : Int) ∧ Below W2.heap.size W2 wr) (fun _ z _ => L.length - (intOf z).toNat)
  case atStart => exact ⟨0, Nat.zero_le _, rfl, rfl, Below.refl _ _⟩
  case round =>
    obtain ⟨k, hk, rfl, hn, hbw⟩ := hrel
    obtain ⟨W3, hW3⟩ : ∃ W3, W3 = wr := ⟨_, rfl⟩
    subst hW3
    obtain ⟨m, hm⟩ : ∃ m, m = cntR (L.take k) x := ⟨_, rfl⟩
    rw [← hm] at hn
    subst hn
    have HM := Lib.hid hm
    have HML : Hid (m ≤ 2) := Lib.hid (by rw [hm]; have h1 := cnt_le (L.take k) x; have h2 := HL2.out; rw [List.length_take] at h1; omega)
    have HB3 := Lib.hid hbw
    have HK := Lib.hid hk
    have HR3 := Lib.hid (HR2.out.keep hbw)
    clear hbw hm p0 p1 p2 p3
    by_cases hlt : k < L.length
    · obtain ⟨p, hp⟩ : ∃ p, L[k]? = some p := ⟨L[k], List.getElem?_eq_getElem hlt⟩
      obtain ⟨g, rfl⟩ := HNE.out (by intro h; rw [h] at hlt; simp at hlt)
      obtain ⟨c0, c1⟩ := HR3.out.get hp
      obtain ⟨pa, pb⟩ := p
      simp only at c0 c1
      have HF : Hid (pa < pb) := Lib.hid (HFI.out k _ hp)
      have HPK := Lib.hid hp
      have HCN : Hid (cntR (L.take (k + 1)) x = m + if inR pa pb x = true then 1 else 0) := Lib.hid (by rw [HM.out]; exact cnt_take hp)
      clear hp
      go_upto_region 8 with fail
      refine wp_name fun W4 hW4 => ?_
      obtain ⟨T, hT⟩ : ∃ T, T = W3.heap.size := ⟨_, rfl⟩
      have HT4 : Hid (RgAt W4 T pa pb) := Lib.hid (by rw [hW4.out, hT]; exact RgAt.new W3 _ _)
      have hb34 : Below W3.heap.size W3 W4 := by rw [hW4.out]; exact (Below.refl _ W3).alloc (Nat.le_refl _) _
      have HR4 := Lib.hid (HR3.out.keep hb34)
      have HB4 := Lib.hid (HB3.out.trans (hb34.mono HB3.out.size))
      rw [← hT]
      clear hW4 hb34 c0 c1 hT HR3 HB3
      obtain ⟨t0, t1, -, -⟩ := HT4.out.cells
      have tge : decide (pb ≤ pa) = false := decide_eq_false (by have := HF.out; omega)
      have hm2 := HML.out
      by_cases hk0 : k = 0
      · subst hk0
        go_quiet (fail)
        obtain ⟨W5, hW5⟩ : ∃ W5, W5 = W4.drewN nq := ⟨_, rfl⟩
        rw [← hW5]
        have hh5 : W5.heap = W4.heap := by rw [hW5]; exact drewN_heap W4 nq
        have HB5 : Hid (Below W2.heap.size W2 W5) := Lib.hid (HB4.out.trans ((show Only (fun _ => False) W4 W5 by rw [hW5]; exact only_drewN _ _ _).below HB4.out.size (fun _ h => h.elim)))
        have HT5 : Hid (RgAt W5 T pa pb) := Lib.hid (by unfold RgAt; rw [hh5]; exact HT4.out)
        clear hW5 hh5 t0 t1 HT4 HB4
        obtain ⟨t0, t1, -, -⟩ := HT5.out.cells
        cases hi0 : decide (pa ≤ x) with
        | true =>
          cases hi1 : decide (x < pb) with
          | true =>
            have HC : Hid (cntR (L.take (0 + 1)) x = m + 1) := Lib.hid (by rw [HCN.out, if_pos (by unfold inR; rw [hi0, hi1]; rfl)])
            go_wp2_with fail
            go_roundw
            case rel => exact ⟨0 + 1, by omega, by go_num, by rw [HC.out]; go_num, HB5.out⟩
            case measure => simp [intOf]; omega
          | false =>
            have HC : Hid (cntR (L.take (0 + 1)) x = m) := Lib.hid (by rw [HCN.out, if_neg (by unfold inR; rw [hi0, hi1]; simp)]; rfl)
            go_wp2_with fail
            go_roundw
            case rel => exact ⟨0 + 1, by omega, by go_num, by rw [HC.out], HB5.out⟩
            case measure => simp [intOf]; omega
        | false =>
          have HC : Hid (cntR (L.take (0 + 1)) x = m) := Lib.hid (by rw [HCN.out, if_neg (by unfold inR; rw [hi0]; simp)]; rfl)
          go_wp2_with fail
          go_roundw
          case rel => exact ⟨0 + 1, by omega, by go_num, by rw [HC.out], HB5.out⟩
          case measure => simp [intOf]; omega
      · obtain ⟨j, hj⟩ : ∃ j, k = j + 1 := ⟨k - 1, by omega⟩
        obtain ⟨q, hq⟩ : ∃ q, L[j]? = some q := ⟨L[j], List.getElem?_eq_getElem (by omega)⟩
        obtain ⟨d0, d1⟩ := HR4.out.get hq
        have tpr : decide (pa < q.2) = false := decide_eq_false (by have h := HPK.out; rw [hj] at h; have := HOR.out j q _ hq h; simp only at this; omega)
        obtain ⟨qa, qb⟩ := q
        simp only at d0 d1 tpr
        have t0j : decide ((0 : Int) < (k : Int)) = true := decide_eq_true (by omega)
        have t0n : decide (0 < k) = true := decide_eq_true (by omega)
        have twj : IntKind.i64.wrap ((k : Int) - 1) = (j : Int) := by have := HL2.out; rw [IntKind.wrap_i64]; omega
        have tjl : j < L.length := by omega
        have hk2 : k < 2 := by have := HL2.out; omega
        clear hj
        clear hq
        go_quiet (fail)
        obtain ⟨W5, hW5⟩ : ∃ W5, W5 = W4.drewN nq := ⟨_, rfl⟩
        rw [← hW5]
        have hh5 : W5.heap = W4.heap := by rw [hW5]; exact drewN_heap W4 nq
        have HB5 : Hid (Below W2.heap.size W2 W5) := Lib.hid (HB4.out.trans ((show Only (fun _ => False) W4 W5 by rw [hW5]; exact only_drewN _ _ _).below HB4.out.size (fun _ h => h.elim)))
        have HT5 : Hid (RgAt W5 T pa pb) := Lib.hid (by unfold RgAt; rw [hh5]; exact HT4.out)
        clear hW5 hh5 t0 t1 HT4 HB4
        obtain ⟨t0, t1, -, -⟩ := HT5.out.cells
        cases hi0 : decide (pa ≤ x) with
        | true =>
          cases hi1 : decide (x < pb) with
          | true =>
            have HC : Hid (cntR (L.take (k + 1)) x = m + 1) := Lib.hid (by rw [HCN.out, if_pos (by unfold inR; rw [hi0, hi1]; rfl)])
            go_wp2_with fail
            go_roundw
            case rel => exact ⟨k + 1, by omega, by go_num, by rw [HC.out]; go_num, HB5.out⟩
            case measure => simp [intOf]; omega
          | false =>
            have HC : Hid (cntR (L.take (k + 1)) x = m) := Lib.hid (by rw [HCN.out, if_neg (by unfold inR; rw [hi0, hi1]; simp)]; rfl)
            go_wp2_with fail
            go_roundw
            case rel => exact ⟨k + 1, by omega, by go_num, by rw [HC.out], HB5.out⟩
            case measure => simp [intOf]; omega
        | false =>
          have HC : Hid (cntR (L.take (k + 1)) x = m) := Lib.hid (by rw [HCN.out, if_neg (by unfold inR; rw [hi0]; simp)]; rfl)
          go_wp2_with fail
          go_roundw
          case rel => exact ⟨k + 1, by omega, by go_num, by rw [HC.out], HB5.out⟩
          case measure => simp [intOf]; omega
    · obtain rfl : k = L.length := by omega
      rw [List.take_length] at HM
      have HWN : Hid (((m : Nat) : Int) = if (inR a0 a1 x && !inR b0 b1 x) = true then 1 else 0) := Lib.hid (by rw [HM.out, HCO.out]; split <;> rfl)
      have HD : Hid ((inR a0 a1 x && !inR b0 b1 x) = ((decide (a0 ≤ x) && decide (x < a1)) && !(decide (b0 ≤ x) && decide (x < b1)))) := Lib.hid rfl
      have HS3 := Lib.hid (HS2.out.keep HB3.out)
      have HBW : Hid (Below w.heap.size w W3) := Lib.hid (HB2.out.trans (HB3.out.mono HB2.out.size))
      have HR0 : Hid (∀ g, a = some ⟨g, 0, none⟩ → ∃ cur : List Value, Arr W3 g 25 cur ∧ L.length * 2 ≤ cur.length) := Lib.hid fun g h => by
        obtain ⟨_, hlt, cur, h1, h2⟩ := HG.out g h
        exact ⟨cur, (HB3.out.block g hlt).trans h1, h2⟩
      have HGB : Hid (∀ g, a = some ⟨g, 0, none⟩ → P + 1 < g) := Lib.hid fun g h => by have h1 := (HG.out g h).1; have h2 := HP1.out; omega
      clear HM HML HK HB3 HR3 HCO HS2 HB2 HB12 HR2 HG HP1 hlt hk HOR
      obtain ⟨p0, p1, p2, p3⟩ := HS3.out.cells
      generalize (inR a0 a1 x && !inR b0 b1 x) = D at HWN HD
      obtain ⟨N, hN⟩ : ∃ N : Int, N = (m : Int) := ⟨_, rfl⟩
      rw [← hN] at HWN ⊢
      clear hN m
      go_upto_region 14 with fail
      go_cut [81] (fun s81 W => s81 = .bool D ∧ W = W3)
      case first =>
        cases i0 : decide (a0 ≤ x) with
        | false =>
          go_wp2_with fail
          go_meet
          exact ⟨by rw [HD.out, i0]; rfl, rfl⟩
        | true =>
          cases i1 : decide (x < a1) with
          | false =>
            go_wp2_with fail
            go_meet
            exact ⟨by rw [HD.out, i0, i1]; rfl, rfl⟩
          | true =>
            cases i2 : decide (b0 ≤ x) with
            | false =>
              go_wp2_with fail
              go_meet
              exact ⟨by rw [HD.out, i0, i1, i2]; rfl, rfl⟩
            | true =>
              cases i3 : decide (x < b1) with
              | false =>
                go_wp2_with fail
                go_meet
                exact ⟨by rw [HD.out, i0, i1, i2, i3]; rfl, rfl⟩
              | true =>
                go_wp2_with fail
                go_meet
                exact ⟨by rw [HD.out, i0, i1, i2, i3]; rfl, rfl⟩
      case rest =>
        obtain ⟨rfl, hw⟩ := hcut
        subst hw
        go_upto_if 81 with fail
        go_cut [11] (fun s11 W => s11 = .int .i64 N ∧ W = wc)
        case first =>
          cases D with
          | true =>
            go_wp2_with fail
            go_meet
            exact ⟨by rw [HWN.out]; rfl, rfl⟩
          | false =>
            go_wp2_with fail
            go_meet
            exact ⟨by rw [HWN.out]; rfl, rfl⟩
        case rest =>
          obtain ⟨rfl, hw⟩ := hcut
          subst hw
          obtain ⟨W3, hW3⟩ : ∃ W3, W3 = wc := ⟨_, rfl⟩
          subst hW3
          clear HWN HD p0 p1 p2 p3
          repeat (first | go_values | go_skip | go_guarded | go_step)
          go_loopw [84] (fun z wr => ∃ k : Nat, k ≤ L.length ∧ z = .int .i64 k ∧ (∀ g, a = some ⟨g, 0, none⟩ → ∃ cur : List Value, Arr wr g 25 cur ∧ L.length * 2 ≤ cur.length) ∧ Only (fun i => a = some ⟨i, 0, none⟩) W3 wr) (fun z _ => L.length - (intOf z).toNat)
          case atStart => exact ⟨0, Nat.zero_le _, rfl, HR0.out, Only.refl _ _⟩
          case round =>
            obtain ⟨k, hk, rfl, hro, hon⟩ := hrel
            obtain ⟨W4, hW4⟩ : ∃ W4, W4 = wr := ⟨_, rfl⟩
            subst hW4
            have HRO := Lib.hid hro
            have HON := Lib.hid hon
            clear hro hon HR0
            by_cases hlt : k < L.length
            · obtain ⟨g, rfl⟩ := HNE.out (by intro h; rw [h] at hlt; simp at hlt)
              obtain ⟨cur, harr, hlen⟩ := HRO.out g rfl
              have c0 := harr.cell (List.getElem?_eq_getElem (show k * 2 < cur.length by omega))
              have c1 := harr.cell (List.getElem?_eq_getElem (show k * 2 + 1 < cur.length by omega))
              have f0 := harr.free (k * 2)
              have f1 := harr.free (k * 2 + 1)
              generalize cur[k * 2]'(show k * 2 < cur.length by omega) = y0 at c0
              generalize cur[k * 2 + 1]'(show k * 2 + 1 < cur.length by omega) = y1 at c1
              have HA := Lib.hid harr
              have hl2 := HL2.out
              clear harr
              go_wp2_with fail
              go_roundw
              case rel => exact ⟨k + 1, by omega, by go_num, fun g' h => by cases h; exact ⟨_, (HA.out.set (k * 2) (.int .i64 0)).set (k * 2 + 1) (.int .i64 0), by simpa using hlen⟩, HON.out.trans ((Only.setCell (S := fun i => some (⟨g, 0, none⟩ : Addr) = some ⟨i, 0, none⟩) _ rfl _).trans (Only.setCell (S := fun i => some (⟨g, 0, none⟩ : Addr) = some ⟨i, 0, none⟩) _ rfl _) (fun _ _ h => h)) (fun _ _ h => h)⟩
              case measure => simp [intOf]; omega
            · obtain rfl : k = L.length := by omega
              have HS4 : Hid (SitC W4 P a0 a1 b0 b1) := Lib.hid ⟨HS3.out.1.only HON.out (fun h => by have := HGB.out _ h; omega), HS3.out.2.only HON.out (fun h => by have := HGB.out _ h; omega)⟩
              have HB4 : Hid (Below w.heap.size w W4) := Lib.hid (HBW.out.trans (HON.out.below HBW.out.size (fun i h => by have h1 := HGB.out i h; have h2 := HQ.out; omega)))
              clear HS3 HBW HON HRO HGB HNE HCAP HQ hlt hk
              obtain ⟨p0, p1, p2, p3⟩ := HS4.out.cells
              repeat (first | go_values | go_skip | go_guarded | go_step)
              refine (HCU.out W4).mono ?_
              rintro e W5 ⟨v, rfl, hr, hb⟩
              have HB5 := Lib.hid (HB4.out.trans (hb.mono HB4.out.size))
              clear hb HB4 HS4 p0 p1 p2 p3 HCU
              obtain ⟨a2, cap2, rfl, hcap, hne, hg⟩ := hr.form2
              have HR5 := Lib.hid hr
              clear hr hcap hg
              dsimp only
              go_upto_region 22 with fail
              have tl2 : decide ((L.length : Int) ≤ 2) = true := decide_eq_true (by have := HL2.out; omega)
              have tl2n : decide (L.length ≤ 2) = true := decide_eq_true HL2.out
              by_cases hz : L.length = 0
              · rw [hz] at tl2 tl2n ⊢
                go_quiet (fail)
                go_wp2_with fail
                go_ret
                exact ⟨rfl, below_drewN HB5.out _⟩
              · obtain ⟨g2, rfl⟩ := hne (by intro h; rw [h] at hz; simp at hz)
                obtain ⟨p, hp⟩ : ∃ p, L[0]? = some p := ⟨L[0]'(by omega), List.getElem?_eq_getElem (by omega)⟩
                obtain ⟨c0, c1⟩ := HR5.out.get hp
                have tp : decide (p.1 < p.2) = true := decide_eq_true (HFI.out 0 p hp)
                obtain ⟨pa, pb⟩ := p
                simp only [Nat.zero_mul, Nat.zero_add] at c0 c1 tp
                have tz : ((L.length : Int) == 0) = false := beq_eq_false_iff_ne.2 (by omega)
                have tzn : (L.length == 0) = false := beq_eq_false_iff_ne.2 hz
                have h0 : 0 < L.length := by omega
                clear hp hne
                go_quiet (fail)
                go_wp2_with fail
                go_ret
                exact ⟨rfl, below_drewN HB5.out _⟩
end Go.Proofs.Ytfbipeppnffmeaa
