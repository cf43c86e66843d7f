/- StampJoins, walked. -/
import Derived.Test.YtmclhnbilghnjaaStLives
import Derived.Test.YtmclhnbilghnjaaStBad
import Derived.Test.YtmclhnbilghnjaaStTurned
import Derived.Deep.DeepCutAuto
namespace Go.Proofs.Ytmclhnbilghnjaa
open Go.RowKit

set_option maxHeartbeats 16000000 in
set_option maxRecDepth 1000000 in
theorem stampJoins_walk {w : World} {t p k0 way : Int} {v : Value} {D : List Nat} (ht0 : 0 ≤ t) (ht1 : t ≤ 4294967295) (hp0 : 0 ≤ p) (hp1 : p ≤ 4294967295) (hu : Lies w v D) (_hf : Fits v) (_hb : ∀ x ∈ D, x < 256) (_hm : D.length ≤ maxLen) (hk0 : 0 ≤ k0) (hk1 : k0 ≤ 255) (hw0 : 0 ≤ way) (hw1 : way ≤ 255) :
    Calls Try.prog 4 #[.int .u32 t, .int .u32 p, v, .int .u8 k0, .int .u8 way] w fun e w' => e = .returned (.bool true) ∧ Below w.heap.size w w' := by
  obtain ⟨a, c, rfl⟩ := lies_len hu
  obtain ⟨t, rfl⟩ : ∃ n : Nat, t = n := ⟨t.toNat, by omega⟩
  obtain ⟨p, rfl⟩ : ∃ n : Nat, p = n := ⟨p.toNat, by omega⟩
  obtain ⟨k0, rfl⟩ : ∃ n : Nat, k0 = n := ⟨k0.toNat, by omega⟩
  have ht : t < 4294967296 := by omega
  have hp : p < 4294967296 := by omega
  obtain ⟨N, hN⟩ : ∃ n, n = D.length := ⟨_, rfl⟩
  rw [← hN] at hu ⊢
  obtain ⟨n, hn⟩ : ∃ n, n = pieces N := ⟨_, rfl⟩
  have HU := Lib.hid hu
  have HN := Lib.hid hN
  have HP := Lib.hid hn
  have HTT := Lib.hid ht
  have HPP := Lib.hid hp
  have HK0 := Lib.hid (show k0 ≤ 255 by omega)
  have HWAY : Hid (0 ≤ way ∧ way ≤ 255) := Lib.hid ⟨hw0, hw1⟩
  have hn1 : 1 ≤ n := by rw [hn]; exact pieces_pos N
  have HLV : Hid (∀ W, Calls Try.prog 5 #[] W fun e w' => e = .returned (.bool true) ∧ Below W.heap.size W w') := Lib.hid lives_any
  clear hu hN _hf _hb _hm ht0 ht1 hp0 hp1 hk0 hk1 hw0 hw1 ht hp
  by_cases h600 : 600 < N
  · have t1 : decide ((600 : Int) < (N : Int)) = true := by simp; omega
    clear h600 hn
    go_enter Try.func4, Try.ntmps4
    have HBw : Hid (Below w.heap.size w w) := Lib.hid (Below.refl _ _)
    repeat (first | (go_at_call 5; refine (HLV.out _).mono ?_; rintro e w1 ⟨rfl, hb1⟩; replace HBw := Lib.hid (HBw.out.trans (hb1.mono HBw.out.size)); clear hb1; dsimp only) | go_values | go_skip | go_guarded | go_step)
    go_ret
    exact ⟨rfl, HBw.out⟩
  · have t1 : decide ((600 : Int) < (N : Int)) = false := by simp; omega
    have e1 : IntKind.i64.wrap ((N : Int) + 46) = N + 46 := by rw [IntKind.wrap_i64]; omega
    obtain ⟨q, hq⟩ : ∃ q : Nat, q = (N + 46) / 47 := ⟨_, rfl⟩
    have e2 : ((N : Int) + 46) / 47 = q := by omega
    have e22 : wrap64 (((N : Int) + 46).tdiv 47) = q := by rw [Int.tdiv_eq_ediv_of_nonneg (by omega), e2]; unfold wrap64; omega
    have hN6 : N ≤ 600 := by omega
    have hqn : (q = 0 ∧ n = 1) ∨ (q ≠ 0 ∧ q = n) := by rw [hn]; unfold pieces; omega
    have HQ := Lib.hid hqn
    have hn14 : n ≤ 14 := by rw [hn]; unfold pieces; omega
    clear hq hn hqn h600
    by_cases ht0 : t = 0
    · have HT0 := Lib.hid ht0
      clear ht0
      go_enter Try.func4, Try.ntmps4
      go_wp2_with fail
      refine (HLV.out _).mono ?_
      rintro e w1 ⟨rfl, hb1⟩
      have HB1 := Lib.hid hb1
      clear hb1
      go_wp2_with fail
      refine (split_any (t := t) (p := p) (D := D) (by have h := lies_keep HU.out HB1.out; exact h) HPP.out (by rw [← HN.out]; omega)).mono ?_
      rintro e w2 (⟨hne, rfl, hb2⟩ | ⟨h0, _⟩)
      rotate_left
      · exact absurd h0 (by unfold splitE; rw [if_pos HT0.out]; decide)
      have hE : splitE t p D.length = 1 := by unfold splitE; rw [if_pos HT0.out]
      rw [hE]
      have HB2 : Hid (Below w.heap.size w w2) := Lib.hid (HB1.out.trans (hb2.mono HB1.out.size))
      clear hne hb2 hE
      have t2 : ((t : Int) == 0) = true := by have := HT0.out; simp; omega
      by_cases hq0 : q = 0
      · have e3 : ((q : Int) == 0) = true := by simp; omega
        clear hq0
        go_wp2
        go_ret
        exact ⟨rfl, HB2.out⟩
      · have e3 : ((q : Int) == 0) = false := by simp; omega
        clear hq0
        go_wp2
        go_ret
        exact ⟨rfl, HB2.out⟩
    · have t2 : ((t : Int) == 0) = false := by simp; omega
      have HT0 := Lib.hid ht0
      clear ht0
      obtain ⟨k, hk⟩ : ∃ k, k = n - 1 := ⟨_, rfl⟩
      have hkn : k < n := by omega
      have e4 : IntKind.i64.wrap ((n : Int) - 1) = k := by rw [IntKind.wrap_i64]; omega
      have e5 : IntKind.u64.wrap (p : Int) = p := by have := HPP.out; rw [IntKind.wrap_u64]; omega
      have e6 : IntKind.u64.wrap (k : Int) = k := by rw [IntKind.wrap_u64]; omega
      have e7 : IntKind.u64.wrap ((p : Int) + k) = p + k := by have := HPP.out; rw [IntKind.wrap_u64]; omega
      have HK := Lib.hid hk
      clear hk
      by_cases hf : p + k ≤ 4294967295
      · have t3 : decide ((4294967295 : Int) < (p : Int) + (k : Int)) = false := by simp; omega
        have HF := Lib.hid hf
        clear hf
        go_enter Try.func4, Try.ntmps4
        go_wp2_with fail
        refine (HLV.out _).mono ?_
        rintro e w1 ⟨rfl, hb1⟩
        have HB1 := Lib.hid hb1
        clear hb1
        go_wp2_with fail
        refine (split_any (t := t) (p := p) (D := D) (by have h := lies_keep HU.out HB1.out; exact h) HPP.out (by rw [← HN.out]; omega)).mono ?_
        rintro e w2 (⟨hne, _⟩ | ⟨_, g, r, rfl, hr, hg, ha, hl, hb2⟩)
        · exact absurd (by unfold splitE; rw [if_neg HT0.out, ← HN.out, ← HP.out, ← HK.out, if_pos HF.out]) hne
        have hrn : r.length = n := by rw [← List.length_map (f := Prod.fst), hr, splitS_length, ← HN.out, ← HP.out]
        rw [hrn]
        have HA2 := Lib.hid ha
        have HR := Lib.hid hr
        have HLL := Lib.hid hl
        have HRN := Lib.hid hrn
        have HB2 : Hid (Below w.heap.size w w2) := Lib.hid (HB1.out.trans (hb2.mono HB1.out.size))
        clear ha hr hl hrn hb2 hg
        go_upto_if 42 with fail
        go_cut [13] (fun s13 W => s13 = .int .i64 (n : Int) ∧ W = w2)
        case first =>
          rcases HQ.out with ⟨q0, q1⟩ | ⟨q0, q1⟩
          · have e3 : ((q : Int) == 0) = true := by simp; omega
            have HQ1 := Lib.hid q1
            clear q0 q1
            go_wp2_with fail
            go_meet
            exact ⟨congrArg (Value.int .i64) (by have := HQ1.out; omega), rfl⟩
          · have e3 : ((q : Int) == 0) = false := by simp; omega
            have HQ1 := Lib.hid q1
            clear q0 q1
            go_wp2_with fail
            go_meet
            exact ⟨congrArg (Value.int .i64) (by have := HQ1.out; omega), rfl⟩
        case rest =>
        obtain ⟨rfl, rfl⟩ := hcut
        clear e1 e2 e22
        have HSE : Hid (SecsAt wc (.slice (some ⟨g, 0, none⟩) n n) r) := Lib.hid (by rw [← HRN.out]; exact (RowIn.secs ⟨[], by rw [List.append_nil]; exact HA2.out⟩ (fun x hx => (HLL.out x hx).1.lies)))
        have HPS : Hid (p + (pieces D.length - 1) ≤ 4294967295) := Lib.hid (by rw [← HN.out, ← HP.out, ← HK.out]; exact HF.out)
        have HPL : Hid (∀ x ∈ r, x.1.place < 4294967296) := Lib.hid fun x hx => places_split HPS.out _ (by rw [← HR.out]; exact List.mem_map_of_mem hx)
        have HDL : Hid (dataL (r.map Prod.fst) = D) := Lib.hid (by rw [HR.out]; exact dataL_split t p D)
        go_wp2_with fail
        refine (stjoin_any HSE.out HPL.out (by rw [HDL.out, ← HN.out]; omega) (by rw [HRN.out]; omega)).mono ?_
        rintro e w3 (⟨_, v14, rfl, hown, hb3⟩ | ⟨hno, _⟩)
        rotate_left
        · exact absurd (by rw [HR.out]; exact joinOk_split HPS.out) hno
        rw [HDL.out, ← HN.out] at hown
        obtain ⟨a14, c14, rfl⟩ := own_slice hown
        have HB3 : Hid (Below w.heap.size w w3) := Lib.hid (HB2.out.trans (hb3.mono HB2.out.size))
        have HB23 := Lib.hid hb3
        obtain ⟨DS, hDS⟩ : ∃ x, x = strOf D := ⟨_, rfl⟩
        have hcv1 : (convert 25 9 (.slice a14 N c14)).run Try.prog w3 = .ok (.string DS) w3 := by rw [hDS]; exact text_of (ownsRow_lies hown) _ Try.underlying9
        have hcv2 : (convert 25 9 (.slice a N c)).run Try.prog w3 = .ok (.string DS) w3 := by rw [hDS]; exact text_of (lies_keep HU.out HB3.out) _ Try.underlying9
        clear hown hb3 hDS
        go_wp2_with fail
        clear hcv1 hcv2 e5 e6 e7 t3
        have HRI : Hid (∀ W, Below wc.heap.size wc W → RowIn W g r) := Lib.hid fun W hW => RowIn.only (w := wc) ⟨[], by rw [List.append_nil]; exact HA2.out⟩ (only_beyond (S := fun _ => False) hW) (fun h => h)
        have HLI : Hid (∀ W, Below wc.heap.size wc W → ∀ x ∈ r, Lies W x.2 x.1.data) := Lib.hid fun W hW x hx => lies_keep (HLL.out x hx).1.lies hW
        have HXS : Hid (∀ i, i < n → ∃ u, r[i]? = some (pieceS t p D i, u)) := Lib.hid fun i hi => sec_at HR.out (by rw [← HN.out, ← HP.out]; exact hi)
        go_loopw [94] (fun c wr => ∃ i : Nat, i ≤ n ∧ c = .int .i64 i ∧ Below w3.heap.size w3 wr) (fun c _ => n - (intOf c).toNat)
        case atStart => exact ⟨0, by omega, rfl, Below.refl _ _⟩
        case round =>
          obtain ⟨i, hi, rfl, hbr⟩ := hrel
          have HBR : Hid (Below wc.heap.size wc wr) := Lib.hid (HB23.out.trans (hbr.mono HB23.out.size))
          have HBR3 := Lib.hid hbr
          clear hbr
          by_cases hlt : i < n
          · obtain ⟨u, hx⟩ := HXS.out i hlt
            have hri := HRI.out wr HBR.out
            obtain ⟨c0, c1, c2, c3⟩ := strow_cells (b := g) (off := 0) (fun j u hu => by rw [Nat.zero_add]; exact hri.cell hu) hx
            have hlx := HLI.out wr HBR.out _ (List.mem_of_getElem? hx)
            obtain ⟨ax, cx, hux⟩ := lies_len hlx
            simp only at hux c0 c1 c2 c3
            subst hux
            clear hlx hri hx
            rw [Nat.zero_add] at c0 c1 c2 c3
            obtain ⟨Pi, hPi⟩ : ∃ q, q = p + i := ⟨_, rfl⟩
            have e8 : IntKind.u32.wrap (i : Int) = i := by rw [IntKind.wrap_u32]; omega
            have e9 : IntKind.u32.wrap ((p : Int) + i) = Pi := by have := HF.out; have := HK.out; rw [IntKind.wrap_u32]; omega
            unfold pieceS at c0 c1 c2 c3
            simp only at c0 c1 c2 c3
            rw [← HN.out, ← HP.out, ← HK.out] at c2
            rw [← hPi] at c1
            clear hPi
            by_cases hik : i < k
            · have d1 : ((i : Int) == (k : Int)) = false := by simp; omega
              have d2 : decide ((i : Int) < (k : Int)) = true := by simp; omega
              rw [decide_eq_false (by omega : ¬ i = k)] at c2
              have hl47 : ((D.drop (47 * i)).take 47).length = 47 := by have h1 := HN.out; have h2 := HP.out; have h3 := HK.out; unfold pieces at h2; rw [List.length_take, List.length_drop]; omega
              rw [hl47] at c3
              clear hl47
              have hikI : (i : Int) < (k : Int) := by omega
              go_wp2
              go_roundw
              case rel => exact ⟨i + 1, by omega, by go_num, HBR3.out.alloc HBR3.out.size _⟩
              case measure => simp [intOf]; omega
            · obtain rfl : k = i := by have := HK.out; omega
              rw [decide_eq_true rfl] at c2
              obtain ⟨nx, hnx⟩ : ∃ m, m = ((D.drop (47 * k)).take 47).length := ⟨_, rfl⟩
              rw [← hnx] at c3
              clear hnx hik
              go_wp2
              go_roundw
              case rel => exact ⟨k + 1, by omega, by go_num, HBR3.out.alloc HBR3.out.size _⟩
              case measure => simp [intOf]; omega
          · obtain rfl : n = i := by omega
            clear hlt
            have hkk : k0 % n < n := Nat.mod_lt _ (by omega)
            obtain ⟨kk, hkd⟩ : ∃ x, x = k0 % n := ⟨_, rfl⟩
            rw [← hkd] at hkk
            have ekk : (wrap64 (k0 : Int)).tmod (n : Int) = (kk : Int) := by have h : wrap64 (k0 : Int) = k0 := (by have := HK0.out; unfold wrap64; omega); rw [h, hkd, Int.tmod_eq_emod_of_nonneg (by omega)]; exact (Int.natCast_emod k0 n).symm
            clear hkd
            have HGD : Hid (Good wr r) := Lib.hid fun x hx => ⟨HPL.out x hx, data_split (by rw [← HR.out]; exact List.mem_map_of_mem hx), HLI.out wr HBR.out x hx⟩
            have HBwr : Hid (Below w.heap.size w wr) := Lib.hid (HB3.out.trans (HBR3.out.mono HB3.out.size))
            have HNW : Hid (∀ o j u, (rowC r)[j]? = some u → (wr.alloc o).cell? ((⟨g, 0, none⟩ : Addr).add j) = some u) := Lib.hid fun o j u hu => by rw [add_at, Nat.zero_add]; exact (HRI.out (wr.alloc o) (HBR.out.alloc HBR.out.size _)).cell hu
            obtain ⟨i0, hi1, hi2, hi3, hi4⟩ := info_parts infoSec
            have HI : Hid (_ ∧ _ ∧ _ ∧ _) := Lib.hid ⟨hi1, hi2, hi3, hi4⟩
            clear hi1 hi2 hi3 hi4
            go_wp2_with (at_builtin; refine wpList_append_own _ rfl _ _ 35 rfl wr.heap.size 27 i0 _ 4 40 Try.underlying35 HI.out.1 HI.out.2.1 HI.out.2.2.1 HI.out.2.2.2 rfl (by decide) _ _ _ rfl (World.ownsRow_made wr #[] 0 (Nat.le_refl _) (Nat.zero_le _) rfl) ⟨g, 0, none⟩ n n (rowC r) rfl ?qc1 ?qc2 ?qc3 ?qc4 ?qc5 ?qc6 ?_)
            case qc1 => rw [rowC_length, HRN.out, Nat.mul_comm]
            case qc2 => exact HNW.out _
            case qc3 => exact rowC_one (fun x hx => lies_one ((HGD.out x hx).2.2))
            case qc4 => unfold maxLen; omega
            case qc5 => omega
            case qc6 => simp
            intro v5 w5 hown5 hgr5 _
            obtain ⟨hh, cap, rfl, hhB, hnc, hrow⟩ := own_rowIn hown5 hn1
            have HRW := Lib.hid hrow
            have HHB := Lib.hid hhB
            have HB5 : Hid (Below wr.heap.size wr w5) := Lib.hid (((Below.refl _ wr).alloc (Nat.le_refl _) _).grown hgr5 (by simp) (by intro b hb; simp [Value.ownBlock] at hb; omega))
            clear hown5 hgr5 hrow hhB
            have HBw5 : Hid (Below w.heap.size w w5) := Lib.hid (HBwr.out.trans (HB5.out.mono HBwr.out.size))
            have HGD5 : Hid (Good w5 r) := Lib.hid (HGD.out.keep HB5.out)
            have hw0 := HWAY.out.1
            have hw1 := HWAY.out.2
            obtain ⟨m, hm⟩ : ∃ m : Int, way % 3 = m := ⟨_, rfl⟩
            have hmt : way.tmod 3 = m := by rw [Int.tmod_eq_emod_of_nonneg hw0]; exact hm
            have hm3 : m = 0 ∨ m = 1 ∨ m = 2 := by have := HWAY.out; omega
            rcases hm3 with rfl | rfl | rfl
            · have e11 : IntKind.i64.wrap ((kk : Int) + 1) = ((kk + 1 : Nat) : Int) := by rw [IntKind.wrap_i64]; omega
              obtain ⟨k1, hk1⟩ : ∃ x, x = kk + 1 := ⟨_, rfl⟩
              rw [← hk1] at e11
              have hk1n : k1 ≤ n := by omega
              have HK1 := Lib.hid hk1
              clear hk1
              go_upto_region 24 with fail
              refine wp_region_held_drew (S := fun _ => True) (by kernel_rfl) trivial (fun _ => ?_)
              refine anyH_take (i := 0) (some 151) (v := _) rfl rfl (by kernel_rfl) (by kernel_rfl) (by kernel_rfl) (fun _ _ _ h => h) (by rfl) (trivial) (by intro w hSw; go_simp; try with_reducible rfl) ?_
              (try simp only [Act.put, List.setIfInBounds_toArray, List.set_cons_zero, List.set_cons_succ])
              refine anyH_take (i := 1) (some 152) (v := _) rfl rfl (by kernel_rfl) (by kernel_rfl) (by kernel_rfl) (fun _ _ _ h => h) (by rfl) (trivial) (by intro w hSw; go_simp; try with_reducible rfl) ?_
              (try simp only [Act.put, List.setIfInBounds_toArray, List.set_cons_zero, List.set_cons_succ])
              refine anyH_take (i := 2) (some 153) (v := _) rfl rfl (by kernel_rfl) (by kernel_rfl) (by kernel_rfl) (fun _ _ _ h => h) (by rfl) (trivial) (by intro w hSw; go_simp; try with_reducible rfl) ?_
              (try simp only [Act.put, List.setIfInBounds_toArray, List.set_cons_zero, List.set_cons_succ])
              refine anyH_take (i := 3) (some 154) (v := _) rfl rfl (by kernel_rfl) (by kernel_rfl) (by kernel_rfl) (fun _ _ _ h => h) (by rfl) (trivial) (fun W _ => run_head_op W (.tmp 151) (.tmp 152) (.tmp 153) rfl hh n cap kk rfl rfl rfl (by omega)) ?_
              (try simp only [Act.put, List.setIfInBounds_toArray, List.set_cons_zero, List.set_cons_succ])
              refine anyH_take (i := 4) (some 155) (v := _) rfl rfl (by kernel_rfl) (by kernel_rfl) (by kernel_rfl) (fun _ _ _ h => h) (by rfl) (trivial) (by intro w hSw; go_simp; try with_reducible rfl) ?_
              (try simp only [Act.put, List.setIfInBounds_toArray, List.set_cons_zero, List.set_cons_succ])
              refine anyH_take (i := 5) (some 156) (v := _) rfl rfl (by kernel_rfl) (by kernel_rfl) (by kernel_rfl) (fun _ _ _ h => h) (by rfl) (trivial) (by intro w hSw; go_simp; try with_reducible rfl) ?_
              (try simp only [Act.put, List.setIfInBounds_toArray, List.set_cons_zero, List.set_cons_succ])
              refine anyH_take (i := 6) (some 157) (v := _) rfl rfl (by kernel_rfl) (by kernel_rfl) (by kernel_rfl) (fun _ _ _ h => h) (by rfl) (trivial) (by intro w hSw; go_simp; try with_reducible rfl) ?_
              (try simp only [Act.put, List.setIfInBounds_toArray, List.set_cons_zero, List.set_cons_succ])
              refine anyH_take (i := 7) (some 158) (v := _) rfl rfl (by kernel_rfl) (by kernel_rfl) (by kernel_rfl) (fun _ _ _ h => h) (by rfl) (trivial) (fun W _ => run_rest_op W (.tmp 155) (.tmp 157) rfl hh n cap k1 rfl rfl hk1n) ?_
              (try simp only [Act.put, List.setIfInBounds_toArray, List.set_cons_zero, List.set_cons_succ])
              have hrn := HRN.out
              obtain ⟨a6, c6, w6, hr6, ha6, hb6⟩ := cut_append (w := w5.drew) (g := hh) (k := kk) (c2 := cap - k1) (r := r) (ad := if cap = k1 then ⟨hh, 0, none⟩ else ⟨hh, k1 * 4, none⟩) 35 (HRW.out.only (Only.drew (fun _ => False) w5) (fun h => h)) (by omega) (by omega) (fun h => by rw [if_neg (by have := HK1.out; omega), HK1.out])
              rw [hrn, ← HK1.out] at hr6
              rw [hrn] at ha6
              refine wpAnyH_ready (rs := [8]) (by kernel_rfl) (by simp) (AllReadyH.cons rfl (fun K hK => ?_) AllReadyH.nil)
              refine step_runs (some 159) rfl rfl (run_append_op (.tmp 154) (.tmp 158) 35 rfl rfl rfl hr6) ?_
              clear hr6
              have HA6 := Lib.hid ha6
              have HB6 : Hid (Below w5.heap.size w5 w6) := Lib.hid (below_undrew (w := w5) hb6)
              clear ha6 hb6 hrn
              refine hK.out _ _ (trivial) (fun _ => ?_)
              clear hK K
              (try simp only [Act.put, List.setIfInBounds_toArray, List.set_cons_zero, List.set_cons_succ])
              refine anyH_take (i := 9) (some 19) (v := _) rfl rfl (by kernel_rfl) (by kernel_rfl) (by kernel_rfl) (fun _ _ _ h => h) (by rfl) (trivial) (by intro w hSw; go_simp; try with_reducible rfl) ?_
              (try simp only [Act.put, List.setIfInBounds_toArray, List.set_cons_zero, List.set_cons_succ])
              refine wpAnyH_done (by kernel_rfl) ?_ _
              have HBR6 : Hid (Below wr.heap.size wr w6) := Lib.hid (HB5.out.trans (HB6.out.mono HB5.out.size))
              have HBw6 : Hid (Below w.heap.size w w6) := Lib.hid (HBwr.out.trans (HBR6.out.mono HBwr.out.size))
              by_cases hz : kk = 0
              · by_cases h1n : 1 < n
                · have HKZ := Lib.hid hz
                  have z0 : ((kk : Int) == 0) = true := by simp; omega
                  have z3 : decide ((1 : Int) < (n : Int)) = true := by simp; omega
                  clear hz h1n
                  go_wp2
                  all_goals go_ret
                  all_goals exact ⟨rfl, HBw6.out⟩
                · have z0 : ((kk : Int) == 0) = true := by simp; omega
                  have z3 : decide ((1 : Int) < (n : Int)) = false := by simp; omega
                  have hse : SecsAt w6 (.slice a6 (n - 1) c6) (r.take kk ++ r.drop (kk + 1)) := secs_cut HA6.out HRN.out hkk (HGD.out.keep HBR6.out)
                  have hgd := (HGD.out.keep HBR6.out).sub (r' := r.take kk ++ r.drop (kk + 1)) (fun x hx => by rcases List.mem_append.1 hx with h | h; exact List.mem_of_mem_take h; exact List.mem_of_mem_drop h)
                  have hno := not_drop (t := t) (p := p) (D := D) (k := kk) (by rw [← HN.out, ← HP.out]; exact hkk) (by rw [← HN.out, ← HP.out]; intro h; omega)
                  rw [← HR.out, ← List.map_take, ← List.map_drop, ← List.map_append] at hno
                  have hbw := HBw6.out
                  have HSEx := Lib.hid hse
                  have HGDx := Lib.hid hgd
                  have HNOx := Lib.hid hno
                  have HBx := Lib.hid hbw
                  clear hse hgd hno hbw
                  have HLE : Hid (_ ≤ 1000) := Lib.hid (show (r.take kk ++ r.drop (kk + 1)).length ≤ 1000 by rw [List.length_append, List.length_take, List.length_drop, HRN.out]; omega)
                  go_wp2_with (go_at_call 10; refine (join_bad HSEx.out HGDx.out HLE.out HNOx.out).mono ?_; rintro e w9 ⟨z, hz, rfl, hb9⟩; have z1 : (z == 0) = false := (by simpa using hz); have z2 : (z != 0) = true := (by simpa using hz); have HB9 : Hid (Below w.heap.size w w9) := Lib.hid (HBx.out.trans (hb9.mono HBx.out.size)); clear hz hb9)
                  all_goals go_ret
                  all_goals exact ⟨rfl, HB9.out⟩
              · have z0 : ((kk : Int) == 0) = false := by simp; omega
                have hse : SecsAt w6 (.slice a6 (n - 1) c6) (r.take kk ++ r.drop (kk + 1)) := secs_cut HA6.out HRN.out hkk (HGD.out.keep HBR6.out)
                have hgd := (HGD.out.keep HBR6.out).sub (r' := r.take kk ++ r.drop (kk + 1)) (fun x hx => by rcases List.mem_append.1 hx with h | h; exact List.mem_of_mem_take h; exact List.mem_of_mem_drop h)
                have hno := not_drop (t := t) (p := p) (D := D) (k := kk) (by rw [← HN.out, ← HP.out]; exact hkk) (by rw [← HN.out, ← HP.out]; intro h; omega)
                rw [← HR.out, ← List.map_take, ← List.map_drop, ← List.map_append] at hno
                have hbw := HBw6.out
                have HSEx := Lib.hid hse
                have HGDx := Lib.hid hgd
                have HNOx := Lib.hid hno
                have HBx := Lib.hid hbw
                clear hse hgd hno hbw
                have HLE : Hid (_ ≤ 1000) := Lib.hid (show (r.take kk ++ r.drop (kk + 1)).length ≤ 1000 by rw [List.length_append, List.length_take, List.length_drop, HRN.out]; omega)
                go_wp2_with (go_at_call 10; refine (join_bad HSEx.out HGDx.out HLE.out HNOx.out).mono ?_; rintro e w9 ⟨z, hz, rfl, hb9⟩; have z1 : (z == 0) = false := (by simpa using hz); have z2 : (z != 0) = true := (by simpa using hz); have HB9 : Hid (Below w.heap.size w w9) := Lib.hid (HBx.out.trans (hb9.mono HBx.out.size)); clear hz hb9)
                all_goals go_ret
                all_goals exact ⟨rfl, HB9.out⟩
            · by_cases hz : kk = 0
              · have HKZ := Lib.hid hz
                have z0 : decide ((0 : Int) < (kk : Int)) = false := by simp; omega
                have zz : ¬ 0 < kk := by omega
                have zi : ¬ (0 : Int) < (kk : Int) := by omega
                clear hz
                obtain ⟨uc, hxc⟩ := HXS.out kk (by omega)
                obtain ⟨c0, c1, c2, c3⟩ := strow_cells (b := hh) (off := 0) (fun j u hu => by rw [Nat.zero_add]; exact HRW.out.cell hu) hxc
                rw [Nat.zero_add] at c0 c1 c2 c3
                have HXC := Lib.hid hxc
                obtain ⟨Lx, hLx⟩ : ∃ b, b = (pieceS t p D kk).last := ⟨_, rfl⟩
                simp only at c2
                rw [← hLx] at c2
                have HLX := Lib.hid hLx
                have f2 := HRW.out.free (kk * 4 + 2)
                clear c0 c1 c3 hxc hLx
                have hrs : RowIn (w5.setCell ⟨hh, kk * 4 + 2, none⟩ (.bool (!Lx))) hh (r.set kk ({ pieceS t p D kk with last := !Lx }, uc)) := HRW.out.set HXC.out (by omega) rfl
                have hbs : Below wr.heap.size wr (w5.setCell ⟨hh, kk * 4 + 2, none⟩ (.bool (!Lx))) := HB5.out.trans ((Only.setCell (S := fun b => b = hh) w5 (p := ⟨hh, kk * 4 + 2, none⟩) rfl _).below HB5.out.size (fun b hb => hb ▸ HHB.out))
                have hgx := HGD.out _ (List.mem_of_getElem? HXC.out)
                have hgs : Good (w5.setCell ⟨hh, kk * 4 + 2, none⟩ (.bool (!Lx))) (r.set kk ({ pieceS t p D kk with last := !Lx }, uc)) := (HGD.out.set kk (x := ({ pieceS t p D kk with last := !Lx }, uc)) hgx).keep hbs
                have HRS := Lib.hid hrs
                have HBS := Lib.hid hbs
                have HGS := Lib.hid hgs
                clear hrs hbs hgs hgx
                have hse : SecsAt (w5.setCell ⟨hh, kk * 4 + 2, none⟩ (.bool (!Lx))) (.slice (some ⟨hh, 0, none⟩) n cap) (r.set kk ({ pieceS t p D kk with last := !Lx }, uc)) := by have h := HRS.out.secs (c := cap) (fun x hx => (HGS.out x hx).2.2); rw [List.length_set, HRN.out] at h; exact h
                have hgd := HGS.out
                have hno := not_flip (t := t) (p := p) (D := D) (s := { pieceS t p D kk with last := !Lx }) (by rw [HLX.out, HKZ.out])
                rw [← HR.out] at hno
                have hmap : (r.set kk ({ pieceS t p D kk with last := !Lx }, uc)).map Prod.fst = (r.map Prod.fst).set 0 { pieceS t p D kk with last := !Lx } := by rw [List.map_set, HKZ.out]
                rw [← hmap] at hno
                clear hmap
                have hbw := HBwr.out.trans (HBS.out.mono HBwr.out.size)
                have HSEx := Lib.hid hse
                have HGDx := Lib.hid hgd
                have HNOx := Lib.hid hno
                have HBx := Lib.hid hbw
                clear hse hgd hno hbw
                have HLE : Hid (_ ≤ 1000) := Lib.hid (show (r.set kk ({ pieceS t p D kk with last := !Lx }, uc)).length ≤ 1000 by rw [List.length_set, HRN.out]; omega)
                go_wp2_with (go_at_call 10; refine (join_bad HSEx.out HGDx.out HLE.out HNOx.out).mono ?_; rintro e w9 ⟨z, hz, rfl, hb9⟩; have z1 : (z == 0) = false := (by simpa using hz); have z2 : (z != 0) = true := (by simpa using hz); have HB9 : Hid (Below w.heap.size w w9) := Lib.hid (HBx.out.trans (hb9.mono HBx.out.size)); clear hz hb9)
                all_goals go_ret
                all_goals exact ⟨rfl, HB9.out⟩
              · have HKZ := Lib.hid hz
                have z0 : decide ((0 : Int) < (kk : Int)) = true := by simp; omega
                have zz : 0 < kk := by omega
                have zi : (0 : Int) < (kk : Int) := by omega
                clear hz
                go_upto_region 28 with fail
                obtain ⟨km, hkm⟩ : ∃ x, x = kk - 1 := ⟨_, rfl⟩
                have hkm1 : kk = km + 1 := by omega
                have e13 : IntKind.i64.wrap ((kk : Int) - 1) = (km : Int) := by rw [IntKind.wrap_i64]; omega
                have hkmn : km < n := by omega
                obtain ⟨uc, hxc⟩ := HXS.out kk (by omega)
                obtain ⟨c0, c1, c2, c3⟩ := strow_cells (b := hh) (off := 0) (fun j u hu => by rw [Nat.zero_add]; exact HRW.out.cell hu) hxc
                rw [Nat.zero_add] at c0 c1 c2 c3
                obtain ⟨ud, hxd⟩ := HXS.out km (by omega)
                obtain ⟨d0, d1, d2, d3⟩ := strow_cells (b := hh) (off := 0) (fun j u hu => by rw [Nat.zero_add]; exact HRW.out.cell hu) hxd
                rw [Nat.zero_add] at d0 d1 d2 d3
                obtain ⟨ac, cc, hcc⟩ := lies_len (HGD.out _ (List.mem_of_getElem? hxc)).2.2
                obtain ⟨ad, cd, hcd⟩ := lies_len (HGD.out _ (List.mem_of_getElem? hxd)).2.2
                simp only at hcc hcd
                subst hcc hcd
                have HKM := Lib.hid hkm1
                have HXC := Lib.hid hxc
                have HXD := Lib.hid hxd
                clear hkm hkm1 hxc hxd
                unfold pieceS at c0 c1 c2 c3 d0 d1 d2 d3
                simp only at c0 c1 c2 c3 d0 d1 d2 d3
                obtain ⟨Pc, hPc⟩ : ∃ x, x = p + kk := ⟨_, rfl⟩
                obtain ⟨Mc, hMc⟩ : ∃ x, x = decide (kk = pieces D.length - 1) := ⟨_, rfl⟩
                obtain ⟨Nc, hNc⟩ : ∃ x, x = ((D.drop (47 * kk)).take 47).length := ⟨_, rfl⟩
                rw [← hPc] at c1
                rw [← hMc] at c2
                rw [← hNc] at c3
                have HPMNc := Lib.hid (And.intro hPc (And.intro hMc hNc))
                clear hPc hMc hNc
                obtain ⟨Pd, hPd⟩ : ∃ x, x = p + km := ⟨_, rfl⟩
                obtain ⟨Md, hMd⟩ : ∃ x, x = decide (km = pieces D.length - 1) := ⟨_, rfl⟩
                obtain ⟨Nd, hNd⟩ : ∃ x, x = ((D.drop (47 * km)).take 47).length := ⟨_, rfl⟩
                rw [← hPd] at d1
                rw [← hMd] at d2
                rw [← hNd] at d3
                have HPMNd := Lib.hid (And.intro hPd (And.intro hMd hNd))
                clear hPd hMd hNd
                have fkk0 := HRW.out.free (kk * 4)
                have fkk1 := HRW.out.free (kk * 4 + 1)
                have fkk2 := HRW.out.free (kk * 4 + 2)
                have fkk3 := HRW.out.free (kk * 4 + 3)
                have fkm0 := HRW.out.free (km * 4)
                have fkm1 := HRW.out.free (km * 4 + 1)
                have fkm2 := HRW.out.free (km * 4 + 2)
                have fkm3 := HRW.out.free (km * 4 + 3)
                have x1 : ¬ kk = km := by have := HKM.out; omega
                have x2 : ¬ km = kk := by omega
                have x3 : ¬ kk * 4 = km * 4 := by omega
                have x4 : ¬ km * 4 = kk * 4 := by omega
                go_region
                obtain ⟨W7, hW7⟩ : ∃ W, W = ((((((((w5.setCell ⟨hh, kk * 4, none⟩ (.int .u32 (t : Int))).setCell ⟨hh, kk * 4 + 1, none⟩ (.int .u32 (Pd : Int))).setCell ⟨hh, kk * 4 + 2, none⟩ (.bool Md)).setCell ⟨hh, kk * 4 + 3, none⟩ (.slice ad Nd cd)).setCell ⟨hh, km * 4, none⟩ (.int .u32 (t : Int))).setCell ⟨hh, km * 4 + 1, none⟩ (.int .u32 (Pc : Int))).setCell ⟨hh, km * 4 + 2, none⟩ (.bool Mc)).setCell ⟨hh, km * 4 + 3, none⟩ (.slice ac Nc cc)).drew := ⟨_, rfl⟩
                have he7 : W7 = (setAt (setAt w5 hh kk (pieceS t p D km, .slice ad (pieceS t p D km).data.length cd)) hh km (pieceS t p D kk, .slice ac (pieceS t p D kk).data.length cc)).drew := by rw [hW7, HPMNc.out.1, HPMNc.out.2.1, HPMNc.out.2.2, HPMNd.out.1, HPMNd.out.2.1, HPMNd.out.2.2]; rfl
                rw [← hW7]
                clear hW7
                have hrs : RowIn W7 hh ((r.set kk (pieceS t p D km, .slice ad (pieceS t p D km).data.length cd)).set km (pieceS t p D kk, .slice ac (pieceS t p D kk).data.length cc)) := by rw [he7]; exact ((HRW.out.set4 (by rw [HRN.out]; exact hkk) _).set4 (by rw [List.length_set, HRN.out]; exact hkmn) _).only (Only.drew (fun _ => False) _) (fun h => h)
                have hbs : Below wr.heap.size wr W7 := by rw [he7]; exact HB5.out.trans ((((setAt_only w5 hh kk (pieceS t p D km, .slice ad (pieceS t p D km).data.length cd)).trans (setAt_only _ hh km (pieceS t p D kk, .slice ac (pieceS t p D kk).data.length cc)) (fun _ _ h => h)).trans (Only.drew (fun _ => False) _) (fun _ _ h => h.elim)).below HB5.out.size (fun b hb => hb ▸ HHB.out))
                have hgs : Good W7 ((r.set kk (pieceS t p D km, .slice ad (pieceS t p D km).data.length cd)).set km (pieceS t p D kk, .slice ac (pieceS t p D kk).data.length cc)) := ((HGD.out.set kk (x := (pieceS t p D km, .slice ad (pieceS t p D km).data.length cd)) (HGD.out _ (List.mem_of_getElem? HXD.out))).set km (x := (pieceS t p D kk, .slice ac (pieceS t p D kk).data.length cc)) (HGD.out _ (List.mem_of_getElem? HXC.out))).keep hbs
                have HRS := Lib.hid hrs
                have HBS := Lib.hid hbs
                have HGS := Lib.hid hgs
                clear hrs hbs hgs he7 x1 x2 x3 x4
                have hse : SecsAt W7 (.slice (some ⟨hh, 0, none⟩) n cap) ((r.set kk (pieceS t p D km, .slice ad (pieceS t p D km).data.length cd)).set km (pieceS t p D kk, .slice ac (pieceS t p D kk).data.length cc)) := by have h := HRS.out.secs (c := cap) (fun x hx => (HGS.out x hx).2.2); rw [List.length_set, List.length_set, HRN.out] at h; exact h
                have hgd := HGS.out
                have hno := not_swap (t := t) (p := p) (D := D) (k := kk) (by rw [← HN.out, ← HP.out]; exact hkk) zz
                rw [← HR.out, show kk - 1 = km by have := HKM.out; omega] at hno
                have hmap : ((r.set kk (pieceS t p D km, .slice ad (pieceS t p D km).data.length cd)).set km (pieceS t p D kk, .slice ac (pieceS t p D kk).data.length cc)).map Prod.fst = ((r.map Prod.fst).set kk (pieceS t p D km)).set km (pieceS t p D kk) := by rw [List.map_set, List.map_set]
                rw [← hmap] at hno
                clear hmap
                have hbw := HBwr.out.trans (HBS.out.mono HBwr.out.size)
                have HSEx := Lib.hid hse
                have HGDx := Lib.hid hgd
                have HNOx := Lib.hid hno
                have HBx := Lib.hid hbw
                clear hse hgd hno hbw
                have HLE : Hid (_ ≤ 1000) := Lib.hid (show ((r.set kk (pieceS t p D km, .slice ad (pieceS t p D km).data.length cd)).set km (pieceS t p D kk, .slice ac (pieceS t p D kk).data.length cc)).length ≤ 1000 by rw [List.length_set, List.length_set, HRN.out]; omega)
                go_wp2_with (go_at_call 10; refine (join_bad HSEx.out HGDx.out HLE.out HNOx.out).mono ?_; rintro e w9 ⟨z, hz, rfl, hb9⟩; have z1 : (z == 0) = false := (by simpa using hz); have z2 : (z != 0) = true := (by simpa using hz); have HB9 : Hid (Below w.heap.size w w9) := Lib.hid (HBx.out.trans (hb9.mono HBx.out.size)); clear hz hb9)
                all_goals go_ret
                all_goals exact ⟨rfl, HB9.out⟩
            · by_cases hz : kk = 0
              · have HKZ := Lib.hid hz
                have z0 : decide ((0 : Int) < (kk : Int)) = false := by simp; omega
                have zz : ¬ 0 < kk := by omega
                have zi : ¬ (0 : Int) < (kk : Int) := by omega
                clear hz
                obtain ⟨uc, hxc⟩ := HXS.out kk (by omega)
                obtain ⟨c0, c1, c2, c3⟩ := strow_cells (b := hh) (off := 0) (fun j u hu => by rw [Nat.zero_add]; exact HRW.out.cell hu) hxc
                rw [Nat.zero_add] at c0 c1 c2 c3
                have HXC := Lib.hid hxc
                obtain ⟨Lx, hLx⟩ : ∃ b, b = (pieceS t p D kk).last := ⟨_, rfl⟩
                simp only at c2
                rw [← hLx] at c2
                have HLX := Lib.hid hLx
                have f2 := HRW.out.free (kk * 4 + 2)
                clear c0 c1 c3 hxc hLx
                have hrs : RowIn (w5.setCell ⟨hh, kk * 4 + 2, none⟩ (.bool (!Lx))) hh (r.set kk ({ pieceS t p D kk with last := !Lx }, uc)) := HRW.out.set HXC.out (by omega) rfl
                have hbs : Below wr.heap.size wr (w5.setCell ⟨hh, kk * 4 + 2, none⟩ (.bool (!Lx))) := HB5.out.trans ((Only.setCell (S := fun b => b = hh) w5 (p := ⟨hh, kk * 4 + 2, none⟩) rfl _).below HB5.out.size (fun b hb => hb ▸ HHB.out))
                have hgx := HGD.out _ (List.mem_of_getElem? HXC.out)
                have hgs : Good (w5.setCell ⟨hh, kk * 4 + 2, none⟩ (.bool (!Lx))) (r.set kk ({ pieceS t p D kk with last := !Lx }, uc)) := (HGD.out.set kk (x := ({ pieceS t p D kk with last := !Lx }, uc)) hgx).keep hbs
                have HRS := Lib.hid hrs
                have HBS := Lib.hid hbs
                have HGS := Lib.hid hgs
                clear hrs hbs hgs hgx
                have hse : SecsAt (w5.setCell ⟨hh, kk * 4 + 2, none⟩ (.bool (!Lx))) (.slice (some ⟨hh, 0, none⟩) n cap) (r.set kk ({ pieceS t p D kk with last := !Lx }, uc)) := by have h := HRS.out.secs (c := cap) (fun x hx => (HGS.out x hx).2.2); rw [List.length_set, HRN.out] at h; exact h
                have hgd := HGS.out
                have hno := not_flip (t := t) (p := p) (D := D) (s := { pieceS t p D kk with last := !Lx }) (by rw [HLX.out, HKZ.out])
                rw [← HR.out] at hno
                have hmap : (r.set kk ({ pieceS t p D kk with last := !Lx }, uc)).map Prod.fst = (r.map Prod.fst).set 0 { pieceS t p D kk with last := !Lx } := by rw [List.map_set, HKZ.out]
                rw [← hmap] at hno
                clear hmap
                have hbw := HBwr.out.trans (HBS.out.mono HBwr.out.size)
                have HSEx := Lib.hid hse
                have HGDx := Lib.hid hgd
                have HNOx := Lib.hid hno
                have HBx := Lib.hid hbw
                clear hse hgd hno hbw
                have HLE : Hid (_ ≤ 1000) := Lib.hid (show (r.set kk ({ pieceS t p D kk with last := !Lx }, uc)).length ≤ 1000 by rw [List.length_set, HRN.out]; omega)
                go_wp2_with (go_at_call 10; refine (join_bad HSEx.out HGDx.out HLE.out HNOx.out).mono ?_; rintro e w9 ⟨z, hz, rfl, hb9⟩; have z1 : (z == 0) = false := (by simpa using hz); have z2 : (z != 0) = true := (by simpa using hz); have HB9 : Hid (Below w.heap.size w w9) := Lib.hid (HBx.out.trans (hb9.mono HBx.out.size)); clear hz hb9)
                all_goals go_ret
                all_goals exact ⟨rfl, HB9.out⟩
              · have HKZ := Lib.hid hz
                have z0 : decide ((0 : Int) < (kk : Int)) = true := by simp; omega
                have zz : 0 < kk := by omega
                have zi : (0 : Int) < (kk : Int) := by omega
                clear hz
                obtain ⟨uc, hxc⟩ := HXS.out kk (by omega)
                obtain ⟨c0, c1, c2, c3⟩ := strow_cells (b := hh) (off := 0) (fun j u hu => by rw [Nat.zero_add]; exact HRW.out.cell hu) hxc
                rw [Nat.zero_add] at c0 c1 c2 c3
                have HXC := Lib.hid hxc
                simp only at c0
                unfold pieceS at c0
                simp only at c0
                have f0 := HRW.out.free (kk * 4)
                clear c1 c2 c3 hxc
                obtain ⟨t9, ht9⟩ : ∃ x, x = (t + 1) % 4294967296 := ⟨_, rfl⟩
                have e12 : IntKind.u32.wrap ((t : Int) + 1) = t9 := by rw [IntKind.wrap_u32]; omega
                have hne9 : t9 ≠ t := by have := HTT.out; omega
                have HNE9 := Lib.hid hne9
                clear ht9 hne9
                have hrs : RowIn (w5.setCell ⟨hh, kk * 4, none⟩ (.int .u32 t9)) hh (r.set kk ({ pieceS t p D kk with turn := t9 }, uc)) := HRW.out.set (j := 0) HXC.out (by omega) rfl
                have hbs : Below wr.heap.size wr (w5.setCell ⟨hh, kk * 4, none⟩ (.int .u32 t9)) := HB5.out.trans ((Only.setCell (S := fun b => b = hh) w5 (p := ⟨hh, kk * 4, none⟩) rfl _).below HB5.out.size (fun b hb => hb ▸ HHB.out))
                have hgx := HGD.out _ (List.mem_of_getElem? HXC.out)
                have hgs : Good (w5.setCell ⟨hh, kk * 4, none⟩ (.int .u32 t9)) (r.set kk ({ pieceS t p D kk with turn := t9 }, uc)) := (HGD.out.set kk (x := ({ pieceS t p D kk with turn := t9 }, uc)) hgx).keep hbs
                have HRS := Lib.hid hrs
                have HBS := Lib.hid hbs
                have HGS := Lib.hid hgs
                clear hrs hbs hgs hgx
                have hse : SecsAt (w5.setCell ⟨hh, kk * 4, none⟩ (.int .u32 t9)) (.slice (some ⟨hh, 0, none⟩) n cap) (r.set kk ({ pieceS t p D kk with turn := t9 }, uc)) := by have h := HRS.out.secs (c := cap) (fun x hx => (HGS.out x hx).2.2); rw [List.length_set, HRN.out] at h; exact h
                have hgd := HGS.out
                have hno := not_turn (t := t) (p := p) (D := D) (k := kk) (t' := t9) (s := { pieceS t p D kk with turn := t9 }) (by rw [← HN.out, ← HP.out]; exact hkk) (by have := HKZ.out; omega) rfl HNE9.out
                rw [← HR.out] at hno
                have hmap : (r.set kk ({ pieceS t p D kk with turn := t9 }, uc)).map Prod.fst = (r.map Prod.fst).set kk { pieceS t p D kk with turn := t9 } := by rw [List.map_set]
                rw [← hmap] at hno
                clear hmap
                have hbw := HBwr.out.trans (HBS.out.mono HBwr.out.size)
                have HSEx := Lib.hid hse
                have HGDx := Lib.hid hgd
                have HNOx := Lib.hid hno
                have HBx := Lib.hid hbw
                clear hse hgd hno hbw
                have HLE : Hid (_ ≤ 1000) := Lib.hid (show (r.set kk ({ pieceS t p D kk with turn := t9 }, uc)).length ≤ 1000 by rw [List.length_set, HRN.out]; omega)
                go_wp2_with (go_at_call 10; refine (join_bad HSEx.out HGDx.out HLE.out HNOx.out).mono ?_; rintro e w9 ⟨z, hz, rfl, hb9⟩; have z1 : (z == 0) = false := (by simpa using hz); have z2 : (z != 0) = true := (by simpa using hz); have HB9 : Hid (Below w.heap.size w w9) := Lib.hid (HBx.out.trans (hb9.mono HBx.out.size)); clear hz hb9)
                all_goals go_ret
                all_goals exact ⟨rfl, HB9.out⟩
      · have t3 : decide ((4294967295 : Int) < (p : Int) + (k : Int)) = true := by simp; omega
        have HF := Lib.hid hf
        clear hf
        go_enter Try.func4, Try.ntmps4
        go_wp2_with fail
        refine (HLV.out _).mono ?_
        rintro e w1 ⟨rfl, hb1⟩
        have HB1 := Lib.hid hb1
        clear hb1
        go_wp2_with fail
        refine (split_any (t := t) (p := p) (D := D) (by have h := lies_keep HU.out HB1.out; exact h) HPP.out (by rw [← HN.out]; omega)).mono ?_
        rintro e w2 (⟨hne, rfl, hb2⟩ | ⟨h0, _⟩)
        rotate_left
        · exact absurd h0 (by unfold splitE; rw [if_neg HT0.out, ← HN.out, ← HP.out, ← HK.out, if_neg HF.out]; decide)
        have hE : splitE t p D.length = 3 := by unfold splitE; rw [if_neg HT0.out, ← HN.out, ← HP.out, ← HK.out, if_neg HF.out]
        rw [hE]
        have HB2 : Hid (Below w.heap.size w w2) := Lib.hid (HB1.out.trans (hb2.mono HB1.out.size))
        clear hne hb2 hE
        rcases HQ.out with ⟨q0, q1⟩ | ⟨q0, q1⟩
        · exact absurd (by have := HPP.out; have := HK.out; omega) HF.out
        · have e3 : ((q : Int) == 0) = false := by simp; omega
          clear q0
          subst q1
          go_wp2
          go_ret
          exact ⟨rfl, HB2.out⟩
end Go.Proofs.Ytmclhnbilghnjaa
