/- A run of VaultForgets: changes committed, some of them sealed, an image sealed in the end. -/
import Derived.Test.YtcdgbmeechnpiaaDoorMW
namespace Go.Proofs.YtcdgbmeechnpiaaDoor
open Go.RowKit

theorem text_new (w : World) (s : ByteArray) : ∃ W cap, (convert 9 31 (.string s)).run Tryd.prog w = .ok (.slice (some ⟨w.heap.size, 0, none⟩) s.size cap) W ∧ s.size ≤ cap ∧ Below w.heap.size w W ∧ Lies W (.slice (some ⟨w.heap.size, 0, none⟩) s.size cap) (ordsOf s) := by
  refine ⟨Lib.bytesWorld w 5 s, _, Lib.run_convert_string_bytes w 9 31 5 s Tryd.underlying9 Tryd.underlying31 Tryd.underlying5, grownCap_ge _ _ _ _, ⟨rfl, rfl, rfl, by rw [Lib.bytesWorld_size]; omega, fun k hk => Lib.bytesWorld_at_old w _ s k hk⟩, .inr (.inr ⟨_, 0, _, by rw [ordsOf_length], fun j hj => ?_⟩)⟩
  rw [ordsOf_length] at hj
  rw [Nat.zero_add, Lib.bytesWorld_cell w _ s j hj]
  congr 3
  have h2 : j < s.data.toList.length := by rw [Array.length_toList]; exact hj
  unfold ordsOf
  simp [List.getD, List.getElem?_map, List.getElem?_eq_getElem h2]
theorem far_in {w w' : World} {B P : Nat} {d : Dev} {u : Value} {bs : List Nat} (h : Lies w u bs) (hB : B = w.heap.size) (hd : DevAt w' B P d) : ∀ q, u.ownBlock = some q → bs ≠ [] → ¬ DBlk w' P q := fun q hq hne hh => by
  have h1 := h.block hq hne
  have h2 := hd.low hh
  omega
theorem far_new {w w' : World} {B P b n c : Nat} {d : Dev} {bs : List Nat} (hd : DevAt w B P d) (hb : Below w.heap.size w w') (hbb : w.heap.size ≤ b) : ∀ q, (Value.slice (some ⟨b, 0, none⟩) n c).ownBlock = some q → bs ≠ [] → ¬ DBlk w' P q := fun q hq _ hh => by
  have hq : b = q := by injection hq
  have h1 := hd.lt (dblk_on hd hb hh)
  omega
theorem ords_small (s : ByteArray) : ∀ x ∈ ordsOf s, x < 256 := fun x hx => by
  unfold ordsOf at hx
  obtain ⟨y, _, rfl⟩ := List.mem_map.1 hx
  exact y.toNat_lt
set_option maxRecDepth 1000000 in
set_option maxHeartbeats 16000000 in
theorem vrun_any {w : World} {vl : Value} {Ls : List (List Nat)} {fs : ByteArray} {B6 B7 s0 ci : Nat} {ai : Option Addr} {img : List Nat} (hl : RowsAt w vl Ls) (sl : SmallL Ls) (hn : Ls.length ≤ 20) (hfs : fs.size ≤ 100) (h6 : w.cell? ⟨B6, 0, none⟩ = some (.int .u8 (s0 : Int))) (hs0 : s0 < 256) (h7 : w.cell? ⟨B7, 0, none⟩ = some (.slice ai img.length ci))
    (hi : Lies w (.slice ai img.length ci) img) (si : ∀ x ∈ img, x < 256) (hil : img.length ≤ 300) (hst : StepsLaid w) :
    Calls Tryd.prog 19 #[vl, .string fs, .pointer (some ⟨B6, 0, none⟩), .pointer (some ⟨B7, 0, none⟩)] w fun e w' => ∃ v ok, e = .returned (.tuple #[v, .bool ok]) ∧ Below w.heap.size w w' ∧ (ok = true → ∃ d, VState 60 ((s0 % 5 + 1) % 2) (s0 % 5 + 2) [img] d ∧ Lies w' v d.lies.flatten) := by
  obtain ⟨aL, cL, rfl, hrL⟩ := hl
  obtain ⟨B, hB⟩ : ∃ B, B = w.heap.size := ⟨_, rfl⟩
  have HBB := Lib.hid hB
  have hgB : 0 < B := by rw [hB]; exact hst.lt
  have HL := Lib.hid hst
  have HRL := Lib.hid hrL
  have HSL := Lib.hid sl
  have HSI := Lib.hid si
  have HI := Lib.hid (And.intro hi h7)
  have H6 := Lib.hid h6
  obtain ⟨n, hnn⟩ : ∃ n, n = Ls.length := ⟨_, rfl⟩
  obtain ⟨ni, hni⟩ : ∃ n, n = img.length := ⟨_, rfl⟩
  have HN : Hid (n = Ls.length ∧ ni = img.length ∧ fs.size ≤ 100 ∧ s0 < 256 ∧ ni ≤ 300 ∧ n ≤ 20) := Lib.hid ⟨hnn, hni, hfs, hs0, by omega, by omega⟩
  obtain ⟨s, hs⟩ : ∃ s, s = s0 % 5 := ⟨_, rfl⟩
  have HS := Lib.hid hs
  rw [← hnn, ← hs]
  rw [← hB]
  clear hB hst hrL sl si hi h7 h6 hnn hni hs hn hfs hil
  have hs5 : s < 5 := by have := HS.out; omega
  have hn20 : n ≤ 20 := HN.out.2.2.2.2.2
  go_enter Tryd.func19, Tryd.ntmps19
  repeat (first | go_values | go_skip | go_guarded | go_step)
  refine (new_ok (n := 120) (by omega) (by omega) w).mono ?_
  rintro e w1 ⟨P, rfl, hd1, hb1⟩
  rw [← HBB.out] at hd1 hb1
  have HD1 := Lib.hid hd1
  have HB1 := Lib.hid hb1
  clear hd1 hb1
  obtain ⟨W2, c2, hr2, hc2, hb2, hli2⟩ := text_new w1 fs
  have hz1 : B ≤ w1.heap.size := Nat.le_trans (by rw [HBB.out]; exact Nat.le_refl _) HB1.out.size
  have HBW2 : Hid (Below B w W2) := Lib.hid (HB1.out.trans (hb2.mono hz1))
  have HZ2 : Hid (B ≤ W2.heap.size) := Lib.hid (Nat.le_trans hz1 hb2.size)
  have HF := Lib.hid (vau_format (N := 60) (D := ordsOf fs) (HD1.out.beyond hb2) HZ2.out hgB (by omega) hli2 (far_new HD1.out hb2 (Nat.le_refl _)) (ords_small fs) (HL.out.keep HBW2.out hgB) (by rw [ordsOf_length]; have := HN.out; unfold pieces; omega))
  have HDW2 := Lib.hid (HD1.out.beyond hb2)
  clear hc2 hb2 hli2
  dsimp only
  repeat (first | go_values | go_skip | go_guarded | go_step)
  refine (HF.out).mono ?_
  rintro e w2 ⟨V, J, d2, rfl, hs2, ha2, hk2, hV2, hJ2⟩
  have HS2 := Lib.hid hs2
  have HA2 := Lib.hid ha2
  have HB2 : Hid (Below B w w2) := Lib.hid (HBW2.out.trans (HDW2.out.below HZ2.out hk2))
  clear hs2 ha2 hk2 hV2 hJ2 HF HDW2 hr2
  dsimp only
  go_wp2_with fail
  go_loopw [28] (fun x wr => ∃ (i J : Nat) (R : List (List Nat)) (d : Dev), i ≤ n ∧ x = .int .i64 (i : Int) ∧ Vau B wr V J P (min i s % 2) 60 (min i s + 1) R d ∧ d.after = 0 ∧ Below B w wr) (fun x _ => n - (intOf x).toNat)
  case atStart => exact ⟨0, J, [ordsOf fs], d2, Nat.zero_le _, rfl, by rw [Nat.zero_min]; exact HS2.out, HA2.out, HB2.out⟩
  case round =>
    clear HS2 HA2 HB2 d2 J
    obtain ⟨i, J, R, d, hi, rfl, hvs, hda, hb⟩ := hrel
    have HVS := Lib.hid hvs
    have HDA := Lib.hid hda
    have HB := Lib.hid hb
    have hzr : B ≤ wr.heap.size := Nat.le_trans (by rw [HBB.out]; exact Nat.le_refl _) hb.size
    have HBW : Hid (Below w.heap.size w wr) := Lib.hid (by rw [← HBB.out]; exact hb)
    clear hvs hda hb
    by_cases hlt : i < n
    · obtain ⟨g, hgi⟩ : ∃ g, Ls[i]? = some g := ⟨_, List.getElem?_eq_getElem (by have := HN.out; omega)⟩
      obtain ⟨b1, o1, a1, c1, rfl, cc1, l1⟩ := rows_get HRL.out hgi
      have cw : wr.cell? ⟨b1, o1 + i, none⟩ = some (.slice a1 g.length c1) := (HBW.out.cell (cell_lt cc1)).trans cc1
      have hg256 := HSL.out g (List.mem_of_getElem? hgi)
      obtain ⟨ng, hng⟩ : ∃ q, q = g.length := ⟨_, rfl⟩
      have HG := Lib.hid (And.intro l1 (And.intro hg256 hng))
      rw [← hng] at cw
      have ti : (i : Int) < (n : Int) := by omega
      clear cc1 l1 hgi hg256
      by_cases h100 : 100 < ng
      · have t1 : decide ((100 : Int) < (ng : Int)) = true := by simp; omega
        clear hng
        go_wp2
        go_ret2
        exact ⟨_, false, rfl, HB.out, fun h => by cases h⟩
      · have t1 : decide ((100 : Int) < (ng : Int)) = false := by simp; omega
        have t1' : ¬ (100 < ng) := h100
        by_cases hfull : 60 < usedJ R + pieces g.length
        · have HC := vau_full (v := .slice a1 g.length c1) (D := g) HVS.out (lies_on HG.out.1 HBW.out) (by omega) hfull
          rw [← hng] at HC
          replace HC := Lib.hid HC
          clear hng hfull
          go_wp2_with (go_at_call 8; refine (HC.out).mono ?_; rintro e w3 ⟨rfl, hb3⟩; have HB3 : Hid (Below B w w3) := Lib.hid (HB.out.trans (hb3.mono hzr)); clear hb3; dsimp only)
          go_ret2
          exact ⟨_, false, rfl, HB3.out, fun h => by cases h⟩
        · have HC := vau_commit (v := .slice a1 g.length c1) (D := g) HVS.out hzr hgB (lies_on HG.out.1 HBW.out) HG.out.2.1 (HL.out.below HBW.out) (by omega)
          rw [← hng] at HC
          replace HC := Lib.hid HC
          clear hng hfull
          by_cases his : i < s
          · have t2 : decide ((i : Int) < (s0 : Int) % 5) = true := by have := HS.out; simp; omega
            have t2' : (i : Int) < (s0 : Int) % 5 := by have := HS.out; omega
            go_wp2_with (first | (go_at_call 8; refine (HC.out).mono ?_; rintro e w3 ⟨hk3, hx⟩; obtain ⟨rfl, d3, hs3, ha3⟩ := hx.resolve_right (fun h => h.2.1 HDA.out); have HS3 := Lib.hid hs3; have HA3 := Lib.hid (ha3 HDA.out); have HB3 : Hid (Below B w w3) := Lib.hid (HB.out.trans (HVS.out.sit.below hzr hk3)); have HBW3 : Hid (Below w.heap.size w w3) := Lib.hid (by rw [← HBB.out]; exact HB3.out); have hz3 : B ≤ w3.heap.size := Nat.le_trans (by rw [HBB.out]; exact Nat.le_refl _) HB3.out.size; have c6 : w3.cell? ⟨B6, 0, none⟩ = some (.int .u8 (s0 : Int)) := (HBW3.out.cell (cell_lt H6.out)).trans H6.out; clear hs3 ha3 hk3 hx; dsimp only) | (go_at_call 11; have HSE := vau_seal (v := .slice a1 g.length c1) (D := g) HS3.out hz3 hgB (lies_on HG.out.1 HBW3.out) (far_in HG.out.1 HBB.out HS3.out.sit.dev) HG.out.2.1 (HL.out.below HBW3.out) (by rw [← HG.out.2.2]; unfold pieces; omega) (by omega); rw [← HG.out.2.2] at HSE; refine HSE.mono ?_; clear HSE; rintro e w4 ⟨hk4, hx⟩; obtain ⟨rfl, J4, d4, hJ4, hs4, ha4⟩ := hx.resolve_right (fun h => h.2.1 HA3.out); have HS4 := Lib.hid hs4; have HA4 := Lib.hid (ha4 HA3.out); have HB4 : Hid (Below B w w4) := Lib.hid (HB3.out.trans (HS3.out.sit.below hz3 hk4.vault)); clear hs4 ha4 hk4 hx hJ4; dsimp only))
            go_roundw
            case rel => exact ⟨i + 1, J4, [g], d4, by omega, by simp, by
              have h := HS4.out
              rw [show min (i + 1) s % 2 = 1 - min i s % 2 by omega, show min (i + 1) s = min i s + 1 by omega]
              exact h, HA4.out, HB4.out⟩
            case measure => simp [intOf]; omega
          · have t2 : decide ((i : Int) < (s0 : Int) % 5) = false := by have := HS.out; simp; omega
            have t2' : ¬ ((i : Int) < (s0 : Int) % 5) := by have := HS.out; omega
            go_wp2_with (go_at_call 8; refine (HC.out).mono ?_; rintro e w3 ⟨hk3, hx⟩; obtain ⟨rfl, d3, hs3, ha3⟩ := hx.resolve_right (fun h => h.2.1 HDA.out); have HS3 := Lib.hid hs3; have HA3 := Lib.hid (ha3 HDA.out); have HB3 : Hid (Below B w w3) := Lib.hid (HB.out.trans (HVS.out.sit.below hzr hk3)); have HBW3 : Hid (Below w.heap.size w w3) := Lib.hid (by rw [← HBB.out]; exact HB3.out); have hz3 : B ≤ w3.heap.size := Nat.le_trans (by rw [HBB.out]; exact Nat.le_refl _) HB3.out.size; have c6 : w3.cell? ⟨B6, 0, none⟩ = some (.int .u8 (s0 : Int)) := (HBW3.out.cell (cell_lt H6.out)).trans H6.out; clear hs3 ha3 hk3 hx; dsimp only)
            go_roundw
            case rel => exact ⟨i + 1, J, R ++ [g], d3, by omega, by simp, by
              have h := HS3.out
              rw [show min (i + 1) s = min i s by omega]
              exact h, HA3.out, HB3.out⟩
            case measure => simp [intOf]; omega
    · obtain rfl : i = n := by omega
      go_wp2_with fail
      go_loopw [14] (fun x wq => ∃ (q J : Nat) (R : List (List Nat)) (d : Dev), i ≤ q ∧ (q ≤ i ∨ q ≤ s) ∧ x = .int .i64 (q : Int) ∧ Vau B wq V J P (min q s % 2) 60 (min q s + 1) R d ∧ d.after = 0 ∧ Below B w wq) (fun x _ => s - (intOf x).toNat)
      case atStart => exact ⟨i, J, R, d, Nat.le_refl _, .inl (Nat.le_refl _), rfl, HVS.out, HDA.out, HB.out⟩
      case round =>
        clear HVS HDA HB HBW hzr hlt hi d R J
        obtain ⟨q, J, R, d, hiq, hqs, rfl, hvs, hda, hb⟩ := hrel
        have HVS := Lib.hid hvs
        have HDA := Lib.hid hda
        have HB := Lib.hid hb
        have hzr : B ≤ wr.heap.size := Nat.le_trans (by rw [HBB.out]; exact Nat.le_refl _) hb.size
        have HBW : Hid (Below w.heap.size w wr) := Lib.hid (by rw [← HBB.out]; exact hb)
        have c6 : wr.cell? ⟨B6, 0, none⟩ = some (.int .u8 (s0 : Int)) := (HBW.out.cell (cell_lt H6.out)).trans H6.out
        clear hvs hda hb
        by_cases hlt : q < s
        · have t2 : decide ((q : Int) < (s0 : Int) % 5) = true := by have := HS.out; simp; omega
          have t2' : (q : Int) < (s0 : Int) % 5 := by have := HS.out; omega
          obtain ⟨W5, c5, hr5, _, hb5, hli5⟩ := text_new wr fs
          have HB5 : Hid (Below B w W5) := Lib.hid (HB.out.trans (hb5.mono hzr))
          have hz5 : B ≤ W5.heap.size := Nat.le_trans hzr hb5.size
          have HVS5 := Lib.hid (HVS.out.on hb5)
          have HSE := vau_seal (D := ordsOf fs) HVS5.out hz5 hgB hli5 (far_new HVS.out.sit.dev hb5 (Nat.le_refl _)) (ords_small fs) (HL.out.keep HB5.out hgB) (by rw [ordsOf_length]; have := HN.out; unfold pieces; omega) (by omega)
          replace HSE := Lib.hid HSE
          clear hb5 hli5
          go_wp2_with (go_at_call 11; refine (HSE.out).mono ?_; rintro e w6 ⟨hk6, hx⟩; obtain ⟨rfl, J6, d6, hJ6, hs6, ha6⟩ := hx.resolve_right (fun h => h.2.1 HDA.out); have HS6 := Lib.hid hs6; have HA6 := Lib.hid (ha6 HDA.out); have HB6 : Hid (Below B w w6) := Lib.hid (HB5.out.trans (HVS5.out.sit.below hz5 hk6.vault)); clear hs6 ha6 hk6 hx hJ6; dsimp only)
          go_roundw
          case rel => exact ⟨q + 1, J6, [ordsOf fs], d6, by omega, by omega, by simp, by
            have h := HS6.out
            rw [show min (q + 1) s % 2 = 1 - min q s % 2 by omega, show min (q + 1) s = min q s + 1 by omega]
            exact h, HA6.out, HB6.out⟩
          case measure => simp [intOf]; omega
        · have t2 : decide ((q : Int) < (s0 : Int) % 5) = false := by have := HS.out; simp; omega
          have t2' : ¬ ((q : Int) < (s0 : Int) % 5) := by have := HS.out; omega
          have c7 : wr.cell? ⟨B7, 0, none⟩ = some (.slice ai img.length ci) := (HBW.out.cell (cell_lt HI.out.2)).trans HI.out.2
          have HSE := vau_seal (D := img) HVS.out hzr hgB (lies_on HI.out.1 HBW.out) (far_in HI.out.1 HBB.out HVS.out.sit.dev) HSI.out (HL.out.below HBW.out) (by rw [← HN.out.2.1]; have := HN.out; unfold pieces; omega) (by omega)
          rw [← HN.out.2.1] at HSE c7
          replace HSE := Lib.hid HSE
          have hqq : min q s = s := by omega
          have HQ := Lib.hid hqq
          go_wp2_with (go_at_call 11; refine (HSE.out).mono ?_; rintro e w6 ⟨hk6, hx⟩; obtain ⟨rfl, J6, d6, hJ6, hs6, ha6⟩ := hx.resolve_right (fun h => h.2.1 HDA.out); have HS6 := Lib.hid hs6; have HB6 : Hid (Below B w w6) := Lib.hid (HB.out.trans (HVS.out.sit.below hzr hk6.vault)); clear hs6 ha6 hk6 hx hJ6; dsimp only)
          refine (image_any HS6.out.sit.dev).mono ?_
          rintro e w7 ⟨v7, rfl, hown, hb7⟩
          have hlie : Lies w7 v7 d6.lies.flatten := (LiesFrom.of_row (B := w6.heap.size) (by rw [flat_length HS6.out.st.ok.sect]; exact hown)).lies
          have HLI := Lib.hid hlie
          have HB7 : Hid (Below B w w7) := Lib.hid (HB6.out.trans (hb7.mono (Nat.le_trans (by rw [HBB.out]; exact Nat.le_refl _) HB6.out.size)))
          clear hown hb7 hlie
          dsimp only
          go_wp2
          go_ret2
          refine ⟨v7, true, rfl, HB7.out, fun _ => ⟨d6, ?_, HLI.out⟩⟩
          have h := HS6.out.st
          rw [HQ.out] at h
          rw [show (s + 1) % 2 = 1 - s % 2 by omega]
          exact h
end Go.Proofs.YtcdgbmeechnpiaaDoor
