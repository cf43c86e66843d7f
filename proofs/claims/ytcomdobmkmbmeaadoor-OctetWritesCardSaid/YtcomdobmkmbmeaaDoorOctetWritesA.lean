/- OctetWrites at a slice of at most 40 items, walked. -/
import Derived.Test.YtcomdobmkmbmeaaDoorOctetWritesM
import Derived.Deep.LoopGhost
import Derived.Deep.Light
import Derived.Deep.RegionHeld3
namespace Go.Proofs.YtcomdobmkmbmeaaDoor
open Go.RowKit

set_option maxHeartbeats 8000000 in
set_option maxRecDepth 100000 in
theorem octetWrites_some {a : Option Addr} {b off cap : Nat} {l : List Ot} (hadr : l ≠ [] → a = some ⟨b, off, none⟩) (hx : ∀ t ∈ l, t.fits) (hl40 : l.length ≤ 40) (w : World) (hc : OtsAt w b off l) (hbw : b < w.heap.size) (hl : StepsLaid w) :
    Calls Tryd.prog 3 #[.slice a l.length cap] w fun e w' => e = .returned (.bool true) ∧ Below w.heap.size w w' := by
  obtain ⟨i0, hi, hz0, hz1, hz2⟩ := info_parts infoOt
  have HADR := Lib.hid hadr
  clear hadr
  have hL := Lib.hid hl
  have HC := Lib.hid hc
  have HX := Lib.hid hx
  clear hl hc hx
  go_enter Tryd.func3, Tryd.ntmps3
  go_wp2_with fail
  refine (lives03 _ hL.out).mono ?_
  rintro e W1 ⟨rfl, hb1⟩
  have hs0 := hL.out.lt
  have hz1' := hb1.size
  have HB1 := Lib.hid hb1
  have HL1 := Lib.hid ((hL.out.keep hb1 hs0).alloc (.cells #[.slice none 0 0] 27))
  have HC1 := Lib.hid (HC.out.below (hb1.trans (((Below.refl w.heap.size W1).alloc hz1' (.cells #[.slice none 0 0] 27)))) hbw)
  have HW1 := Lib.hid (owriter_new W1)
  clear hb1
  have hd40 : decide ((40 : Int) < l.length) = false := by simp; omega
  have hlen : l.length ≤ 40 := hl40
  clear hl40
  go_wp2_with fail
  have hR0 : Hid (ORel W1 W1.heap.size b off l 0 (.slice none 0 0) (W1.alloc (.cells #[.slice none 0 0] 27))) :=
    ⟨⟨none, HW1.out⟩, by simpa [keptO, allC] using World.ownsRow_nil _ _ _ _, (Below.refl _ _).alloc (Nat.le_refl _) _, HL1.out, HC1.out, by simp, by simp⟩
  have hsP : 0 < W1.heap.size := by omega
  have hbP : b < W1.heap.size := by omega
  have HZ : Hid (w.heap.size ≤ W1.heap.size ∧ W1.heap.size ≤ W1.heap.size) := ⟨hz1', Nat.le_refl _⟩
  clear hd40 HW1 HL1 HC1 HC hL hs0 hz1'
  generalize W1.heap.size = P at *
  go_loopw [4, 5, 25] (fun s v c wr => ∃ k : Nat, k ≤ l.length ∧ c = .int .i64 k ∧ s = .string (strOf (allB (l.take k))) ∧ ORel W1 P b off l k v wr) (fun _ _ c _ => l.length - (intOf c).toNat)
  case atStart => exact ⟨0, by omega, rfl, rfl, hR0.out⟩
  case round =>
    obtain ⟨k, hk, rfl, rfl, hR⟩ := hrel
    clear hR0
    by_cases hlt : k < l.length
    · have ea := HADR.out (by intro h; simp [h] at hlt)
      subst ea
      obtain ⟨⟨g, hw⟩, hown, hbel, hsl, hit, hPs, h200⟩ := id hR
      obtain ⟨t, ht⟩ : ∃ t, l[k]? = some t := ⟨l[k], List.getElem?_eq_getElem hlt⟩
      obtain ⟨a0, a1, a2, a3⟩ := hit.four ht
      have HT := Lib.hid ht
      obtain ⟨x0, x1, x2, x3, x4⟩ := HX.out t (List.mem_of_getElem? ht)
      obtain ⟨hbl, hkl⟩ := takeO_bounds (l := l) (k := k) hlen h200
      have HW := Lib.hid hw
      have HO := Lib.hid hown
      have HBL := Lib.hid hbel
      have HS := Lib.hid hsl
      have hsz1 : (strOf (allB (l.take k))).size ≤ 1000000 := by rw [strOf_size]; omega
      clear ht hw hown hbel hsl hit h200
      obtain ⟨kd, x, n, s⟩ := t
      simp only at a0 a1 a2 a3 x0 x1 x2 x3 x4
      have HR := Lib.hid hR
      have ha : Below wr.heap.size wr (wr.alloc (.cells #[.int .u8 (kd : Int), .int .u64 (x : Int), .int .i64 n, .string s] 30)) := (Below.refl _ _).alloc (Nat.le_refl _) _
      have HA := Lib.hid ha
      have HRa := Lib.hid (hR.beyond ha hsP hbP)
      have hk0 : (0 : Int) ≤ kd := by omega
      have hk1 : (kd : Int) ≤ 255 := by omega
      have hmx : s.size ≤ 9223372036854775807 := by unfold maxLen at x4; omega
      clear ha hR x4
      by_cases hlong : 200 < s.size
      · have t0 : decide ((200 : Int) < s.size) = true := by simp; omega
        go_wp2_with fail
        go_ret
        exact ⟨rfl, HB1.out.trans ((HBL.out.trans (HA.out.mono hPs)).mono HZ.out.1)⟩
      · have t0 : decide ((200 : Int) < s.size) = false := by simp; omega
        have hs2 : s.size ≤ 200 := by omega
        have hwa := HW.out.only (only_beyond (S := fun _ => False) HA.out) (fun h => h) (fun _ _ h => h)
        have HWA := Lib.hid hwa
        have HNI : Hid ((wr.alloc (.cells #[.int .u8 (kd : Int), .int .u64 (x : Int), .int .i64 n, .string s] 30)).heap[wr.heap.size]? = some (.cells #[.int .u8 (kd : Int), .int .u64 (x : Int), .int .i64 n, .string s] 30 (0, 0))) := heap_alloc_new wr _
        have HSa := Lib.hid HRa.out.2.2.2.1
        have hPa : P ≤ (wr.alloc (.cells #[.int .u8 (kd : Int), .int .u64 (x : Int), .int .i64 n, .string s] 30)).heap.size := Nat.le_trans hPs HA.out.size
        clear hwa hlong
        have hmod : kd % 4 = 0 ∨ kd % 4 = 1 ∨ kd % 4 = 2 ∨ kd % 4 = 3 := by omega
        rcases hmod with hm | hm | hm | hm
        · have hmI : (kd : Int) % 4 = 0 := by omega
          by_cases hwd : Wide n
          · obtain ⟨n, rfl⟩ := Int.eq_ofNat_of_zero_le (show 0 ≤ n by unfold Wide at hwd; omega)
            have hn8 : n ≤ 8 := by unfold Wide at hwd; omega
            have hn1 : 1 ≤ n := by unfold Wide at hwd; omega
            have HWD := Lib.hid hwd
            clear hwd
            obtain ⟨q, hq⟩ : ∃ q, q = 8 * n := ⟨_, rfl⟩
            have e3 : IntKind.i64.wrap ((8 : Int) * n) = q := by rw [IntKind.wrap_i64]; omega
            have hq64 : q ≤ 64 := by omega
            by_cases hrng : 8 * n < wid x
            · have hg : Ot.good ⟨kd, x, (n : Int), s⟩ = false := by simp only [Ot.good, decide_eq_false_iff_not]; intro h; have := (h hm).2; simp at this; omega
              obtain ⟨e1, e2⟩ := HRa.out.bad HT.out hg hs2
              have E1 := Lib.hid e1
              have E2 := Lib.hid e2
              have hn' : n < 8 := by
                rcases Nat.lt_or_ge n 8 with h | h
                · exact h
                · have := wid_le 64 (x := x) x1; omega
              have t3 : decide ((n : Int) < 8) = true := by simp; omega
              have t4 : decide ((0 : Int) < (x : Int) / 2 ^ q) = true := by
                have h1 : ((x : Int) / 2 ^ q) = ((x / 2 ^ q : Nat) : Int) := by simp
                have h2 := shift_pos (x := x) (m := q) (by omega)
                rw [h1]; simp; omega
              clear e1 e2 hg hq
              go_wp2_with fail
              refine (num_range x1 HWD.out hrng HSa.out).mono ?_
              rintro e w' ⟨rfl, rfl⟩
              go_wp2_with fail
              refine (wide_yes HWD.out _).mono ?_
              rintro e w' ⟨rfl, rfl⟩
              go_wp2
              go_roundw
              case rel => exact ⟨k + 1, by omega, by go_num, by rw [E1.out], E2.out⟩
              case measure => simp [intOf]; omega
            · have hg : Ot.good ⟨kd, x, (n : Int), s⟩ = true := by simp only [Ot.good, decide_eq_true_eq]; intro _; exact ⟨HWD.out, by simp; omega⟩
              have t34 : decide ((n : Int) < 8) = false ∨ (decide ((n : Int) < 8) = true ∧ decide ((0 : Int) < (x : Int) / 2 ^ q) = false) := by
                have h1 : ((x : Int) / 2 ^ q) = ((x / 2 ^ q : Nat) : Int) := by simp
                rw [h1, shift_zero (x := x) (m := q) (by omega)]
                rcases Nat.lt_or_ge n 8 with h | h
                · exact .inr ⟨by simp; omega, by simp⟩
                · exact .inl (by simp; omega)
              have HG := Lib.hid hg
              have hby : Ot.bytes ⟨kd, x, (n : Int), s⟩ = numB x n := by simp [Ot.bytes, hm]
              have HBY := Lib.hid hby
              clear hg HRa hby hq
              rcases t34 with t3 | ⟨t3, t4⟩
              all_goals
                go_wp2_with fail
                refine (num_ok x1 HWD.out (by omega) HSa.out hPa (by omega) (OWrote.start HWA.out)).mono ?_
                rintro e W2 ⟨rfl, h2⟩
                have H2 := Lib.hid h2
                have hb2 := Lib.hid (h2.below hPa)
                have HI2 : Hid (W2.heap[wr.heap.size]? = some (.cells #[.int .u8 (kd : Int), .int .u64 (x : Int), .int .i64 n, .string s] 30 (0, 0))) := onew_stays HW.out h2 HNI.out
                have q0 : W2.cell? ⟨wr.heap.size, 0, none⟩ = some (.int .u8 (kd : Int)) := by simp [World.cell?, HI2.out]
                have q1 : W2.cell? ⟨wr.heap.size, 1, none⟩ = some (.int .u64 (x : Int)) := by simp [World.cell?, HI2.out]
                have q2 : W2.cell? ⟨wr.heap.size, 2, none⟩ = some (.int .i64 (n : Int)) := by simp [World.cell?, HI2.out]
                have q3 : W2.cell? ⟨wr.heap.size, 3, none⟩ = some (.string s) := by simp [World.cell?, HI2.out]
                clear h2
                go_wp2_with fail
                refine (wide_yes HWD.out _).mono ?_
                rintro e w' ⟨rfl, rfl⟩
                go_wp2_with fail
                refine (numS_any (k := n) x1 (by omega) W2).mono ?_
                rintro e W3 ⟨rfl, h3⟩
                have H3 := Lib.hid h3
                have hI3 : W3.heap[wr.heap.size]? = some (.cells #[.int .u8 (kd : Int), .int .u64 (x : Int), .int .i64 n, .string s] 30 (0, 0)) := (h3.block _ (lt_of_block HI2.out)).trans HI2.out
                have d0 : W3.cell? ⟨wr.heap.size, 0, none⟩ = some (.int .u8 (kd : Int)) := by simp [World.cell?, hI3]
                have d1 : W3.cell? ⟨wr.heap.size, 1, none⟩ = some (.int .u64 (x : Int)) := by simp [World.cell?, hI3]
                have d2 : W3.cell? ⟨wr.heap.size, 2, none⟩ = some (.int .i64 (n : Int)) := by simp [World.cell?, hI3]
                have d3 : W3.cell? ⟨wr.heap.size, 3, none⟩ = some (.string s) := by simp [World.cell?, hI3]
                have HK3 : Hid (W3.ownsRow P 30 4 u5 (keptO (l.take k)).length (allC (l.take k))) := ownsRow_beyond (kept_owrote (ownsRow_beyond HO.out HA.out) (by decide) (by decide) HWA.out H2.out) h3
                have hP3 : P ≤ W3.heap.size := by have := hb2.out.size; have := h3.size; omega
                have hsz2 : (strOf (numB x n)).size ≤ 1000000 := by rw [strOf_size, numB_length]; omega
                clear h3 hI3 q0 q1 q2 q3
                go_wp2_with (at_builtin; refine wpList_append_own _ rfl (.tmp 111) (.tmp 113) 22 rfl P 30 i0 (.agg #[.int .u8 0, .int .u64 0, .int .i64 0, .string ⟨#[]⟩]) 4 40 Tryd.underlying22 hi hz0 hz1 hz2 rfl (by decide) _ _ _ rfl (HK3.out.alloc _) ⟨W3.heap.size, 0, none⟩ 1 1 [.int .u8 (kd : Int), .int .u64 (x : Int), .int .i64 (n : Int), .string s] rfl rfl (World.news_of_block (heap_alloc_new W3 _)) (by simp [Value.oneCell']) (by unfold maxLen; omega) (by omega) (by simp; omega) ?_; intro v4 W4 hown4 hgrow4 _; have HO4 := Lib.hid hown4; have HG4 := Lib.hid hgrow4; clear hown4 hgrow4)
                go_roundw
                case rel => exact ⟨k + 1, by omega, by go_num, by rw [bytes_good HT.out HG.out, HBY.out, strOf_append], HR.out.good HT.out HG.out hs2 hsP hbP HA.out HWA.out (by rw [HBY.out]; exact H2.out) H3.out HG4.out HO4.out⟩
                case measure => simp [intOf]; omega
          · have hg : Ot.good ⟨kd, x, n, s⟩ = false := by simp only [Ot.good, decide_eq_false_iff_not]; intro h; exact hwd (h hm).1
            obtain ⟨e1, e2⟩ := HRa.out.bad HT.out hg hs2
            have E1 := Lib.hid e1
            have E2 := Lib.hid e2
            have HWD := Lib.hid hwd
            clear e1 e2 hg hwd
            go_wp2_with fail
            refine (num_arg HWD.out).mono ?_
            rintro e w' ⟨rfl, rfl⟩
            go_wp2_with fail
            refine (wide_no HWD.out _).mono ?_
            rintro e w' ⟨rfl, rfl⟩
            go_wp2
            go_roundw
            case rel => exact ⟨k + 1, by omega, by go_num, by rw [E1.out], E2.out⟩
            case measure => simp [intOf]; omega
        · have hmI : (kd : Int) % 4 = 1 := by omega
          have hg : Ot.good ⟨kd, x, n, s⟩ = true := by simp only [Ot.good, decide_eq_true_eq]; intro h; omega
          have hby : Ot.bytes ⟨kd, x, n, s⟩ = numB x 8 := by simp [Ot.bytes, hm]
          have HG := Lib.hid hg
          have HBY := Lib.hid hby
          obtain ⟨z, hz⟩ : ∃ z, IntKind.i64.wrap (x : Int) = z := ⟨_, rfl⟩
          have HZZ := Lib.hid (wrap_back x1)
          rw [hz] at HZZ
          clear hg HRa hby
          go_wp2_with fail
          refine (int_ok x1 HZZ.out HSa.out hPa (by omega) (OWrote.start HWA.out)).mono ?_
          rintro e W2 ⟨rfl, h2⟩
          have H2 := Lib.hid h2
          have hb2 := Lib.hid (h2.below hPa)
          have HI2 : Hid (W2.heap[wr.heap.size]? = some (.cells #[.int .u8 (kd : Int), .int .u64 (x : Int), .int .i64 n, .string s] 30 (0, 0))) := onew_stays HW.out h2 HNI.out
          have q0 : W2.cell? ⟨wr.heap.size, 0, none⟩ = some (.int .u8 (kd : Int)) := by simp [World.cell?, HI2.out]
          have q1 : W2.cell? ⟨wr.heap.size, 1, none⟩ = some (.int .u64 (x : Int)) := by simp [World.cell?, HI2.out]
          have q2 : W2.cell? ⟨wr.heap.size, 2, none⟩ = some (.int .i64 (n : Int)) := by simp [World.cell?, HI2.out]
          have q3 : W2.cell? ⟨wr.heap.size, 3, none⟩ = some (.string s) := by simp [World.cell?, HI2.out]
          clear h2
          go_wp2_with fail
          refine (numS_any (k := 8) x1 (by omega) W2).mono ?_
          rintro e W3 ⟨rfl, h3⟩
          have H3 := Lib.hid h3
          have hI3 : W3.heap[wr.heap.size]? = some (.cells #[.int .u8 (kd : Int), .int .u64 (x : Int), .int .i64 n, .string s] 30 (0, 0)) := (h3.block _ (lt_of_block HI2.out)).trans HI2.out
          have d0 : W3.cell? ⟨wr.heap.size, 0, none⟩ = some (.int .u8 (kd : Int)) := by simp [World.cell?, hI3]
          have d1 : W3.cell? ⟨wr.heap.size, 1, none⟩ = some (.int .u64 (x : Int)) := by simp [World.cell?, hI3]
          have d2 : W3.cell? ⟨wr.heap.size, 2, none⟩ = some (.int .i64 (n : Int)) := by simp [World.cell?, hI3]
          have d3 : W3.cell? ⟨wr.heap.size, 3, none⟩ = some (.string s) := by simp [World.cell?, hI3]
          have HK3 : Hid (W3.ownsRow P 30 4 u5 (keptO (l.take k)).length (allC (l.take k))) := ownsRow_beyond (kept_owrote (ownsRow_beyond HO.out HA.out) (by decide) (by decide) HWA.out H2.out) h3
          have hP3 : P ≤ W3.heap.size := by have := hb2.out.size; have := h3.size; omega
          have hsz2 : (strOf (numB x 8)).size ≤ 1000000 := by rw [strOf_size, numB_length]; omega
          clear h3 hI3 q0 q1 q2 q3
          go_wp2_with (at_builtin; refine wpList_append_own _ rfl (.tmp 111) (.tmp 113) 22 rfl P 30 i0 (.agg #[.int .u8 0, .int .u64 0, .int .i64 0, .string ⟨#[]⟩]) 4 40 Tryd.underlying22 hi hz0 hz1 hz2 rfl (by decide) _ _ _ rfl (HK3.out.alloc _) ⟨W3.heap.size, 0, none⟩ 1 1 [.int .u8 (kd : Int), .int .u64 (x : Int), .int .i64 n, .string s] rfl rfl (World.news_of_block (heap_alloc_new W3 _)) (by simp [Value.oneCell']) (by unfold maxLen; omega) (by omega) (by simp; omega) ?_; intro v4 W4 hown4 hgrow4 _; have HO4 := Lib.hid hown4; have HG4 := Lib.hid hgrow4; clear hown4 hgrow4)
          go_roundw
          case rel => exact ⟨k + 1, by omega, by go_num, by rw [bytes_good HT.out HG.out, HBY.out, strOf_append], HR.out.good HT.out HG.out hs2 hsP hbP HA.out HWA.out (by rw [HBY.out]; exact H2.out) H3.out HG4.out HO4.out⟩
          case measure => simp [intOf]; omega
        · have hmI : (kd : Int) % 4 = 2 := by omega
          have hg : Ot.good ⟨kd, x, n, s⟩ = true := by simp only [Ot.good, decide_eq_true_eq]; intro h; omega
          have hby : Ot.bytes ⟨kd, x, n, s⟩ = numB s.size 2 ++ ordsOf s := by simp [Ot.bytes, hm]
          have HG := Lib.hid hg
          have HBY := Lib.hid hby
          have hsz2 : (strOf (numB s.size 2)).size ≤ 1000000 := by rw [strOf_size, numB_length]; omega
          have hsz3 : (strOf (numB s.size 2)).size + s.size ≤ 1000000 := by rw [strOf_size, numB_length]; omega
          have hsz4 : (strOf (allB (l.take k))).size + ((strOf (numB s.size 2)).size + s.size) ≤ 1000000 := by rw [strOf_size, strOf_size, numB_length]; omega
          have hsz5 : ¬ (9223372036854775807 < (strOf (numB s.size 2)).size + s.size) := by omega
          have hsz6 : ¬ (9223372036854775807 < (strOf (allB (l.take k))).size + ((strOf (numB s.size 2)).size + s.size)) := by omega
          have hzu : IntKind.u64.wrap (s.size : Int) = s.size := by rw [IntKind.wrap_u64]; omega
          clear hg HRa hby
          go_wp2_with fail
          refine (text_ok (by omega) HSa.out hPa (by omega) (OWrote.start HWA.out)).mono ?_
          rintro e W2 ⟨rfl, h2⟩
          have H2 := Lib.hid h2
          have hb2 := Lib.hid (h2.below hPa)
          have HI2 : Hid (W2.heap[wr.heap.size]? = some (.cells #[.int .u8 (kd : Int), .int .u64 (x : Int), .int .i64 n, .string s] 30 (0, 0))) := onew_stays HW.out h2 HNI.out
          have q0 : W2.cell? ⟨wr.heap.size, 0, none⟩ = some (.int .u8 (kd : Int)) := by simp [World.cell?, HI2.out]
          have q1 : W2.cell? ⟨wr.heap.size, 1, none⟩ = some (.int .u64 (x : Int)) := by simp [World.cell?, HI2.out]
          have q2 : W2.cell? ⟨wr.heap.size, 2, none⟩ = some (.int .i64 (n : Int)) := by simp [World.cell?, HI2.out]
          have q3 : W2.cell? ⟨wr.heap.size, 3, none⟩ = some (.string s) := by simp [World.cell?, HI2.out]
          clear h2
          go_wp2_with fail
          refine wp_region_held_drew (S := fun w => w.cell? ⟨wr.heap.size, 3, none⟩ = some (.string s)) (by kernel_rfl) q3 (fun _ => ?_)
          refine anyH_take (i := 0) (some 101) (v := _) rfl rfl (by kernel_rfl) (by kernel_rfl) (by kernel_rfl) (fun _ _ _ h => h) (by rfl) (q3) (by intro w hSw; go_simp; try with_reducible rfl) ?_
          (try simp only [Act.put, List.setIfInBounds_toArray, List.set_cons_zero, List.set_cons_succ])
          refine anyH_take (i := 1) (some 102) (v := _) rfl rfl (by kernel_rfl) (by kernel_rfl) (by kernel_rfl) (fun _ _ _ h => h) (by rfl) (q3) (by intro w hSw; go_simp; try with_reducible rfl) ?_
          (try simp only [Act.put, List.setIfInBounds_toArray, List.set_cons_zero, List.set_cons_succ])
          refine anyH_take (i := 2) (some 103) (v := _) rfl rfl (by kernel_rfl) (by kernel_rfl) (by kernel_rfl) (fun _ _ _ h => h) (by rfl) (q3) (by intro w hSw; go_simp; try with_reducible rfl) ?_
          (try simp only [Act.put, List.setIfInBounds_toArray, List.set_cons_zero, List.set_cons_succ])
          refine anyH_take (i := 3) (some 104) (v := _) rfl rfl (by kernel_rfl) (by kernel_rfl) (by kernel_rfl) (fun _ _ _ h => h) (by rfl) (q3) (by intro w hSw; go_simp; try with_reducible rfl) ?_
          (try simp only [Act.put, List.setIfInBounds_toArray, List.set_cons_zero, List.set_cons_succ])
          refine anyH_take (i := 4) (some 105) (v := _) rfl rfl (by kernel_rfl) (by kernel_rfl) (by kernel_rfl) (fun _ _ _ h => h) (by rfl) (q3) (by intro w hSw; go_simp; try with_reducible rfl) ?_
          (try simp only [Act.put, List.setIfInBounds_toArray, List.set_cons_zero, List.set_cons_succ])
          refine anyH_take (i := 6) (some 107) (v := _) rfl rfl (by kernel_rfl) (by kernel_rfl) (by kernel_rfl) (fun _ _ _ h => h) (by rfl) (q3) (by intro w hSw; go_simp; try with_reducible rfl) ?_
          (try simp only [Act.put, List.setIfInBounds_toArray, List.set_cons_zero, List.set_cons_succ])
          refine anyH_take (i := 7) (some 108) (v := _) rfl rfl (by kernel_rfl) (by kernel_rfl) (by kernel_rfl) (fun _ _ _ h => h) (by rfl) (q3) (by intro w hSw; go_simp; try with_reducible rfl) ?_
          (try simp only [Act.put, List.setIfInBounds_toArray, List.set_cons_zero, List.set_cons_succ])
          refine wpAnyH_ready (rs := [5]) (by kernel_rfl) (by simp) (AllReadyH.cons rfl (fun K hK => ?_) AllReadyH.nil)
          go_simp
          (refine (numS_any (k := 2) (x := s.size) (by omega) (by omega) _).mono ?_; rintro e W3 ⟨rfl, h3a⟩; have h3 : Below W2.heap.size W2 W3 := ((Below.refl _ _).drew).trans h3a; clear h3a; have H3 := Lib.hid h3; have hI3 : W3.heap[wr.heap.size]? = some (.cells #[.int .u8 (kd : Int), .int .u64 (x : Int), .int .i64 (n : Int), .string s] 30 (0, 0)) := (h3.block _ (lt_of_block HI2.out)).trans HI2.out; have d3 : W3.cell? ⟨wr.heap.size, 3, none⟩ = some (.string s) := by simp [World.cell?, hI3])
          go_wp2_with fail
          refine hK.out _ _ (d3) (fun _ => ?_)
          clear hK K
          (try simp only [Act.put, List.setIfInBounds_toArray, List.set_cons_zero, List.set_cons_succ])
          refine anyH_take (i := 8) (some 109) (v := _) rfl rfl (by kernel_rfl) (by kernel_rfl) (by kernel_rfl) (fun _ _ _ h => h) (by rfl) (d3) (by intro w hSw; go_simp; try with_reducible rfl) ?_
          (try simp only [Act.put, List.setIfInBounds_toArray, List.set_cons_zero, List.set_cons_succ])
          refine anyH_take (i := 9) (some 110) (v := _) rfl rfl (by kernel_rfl) (by kernel_rfl) (by kernel_rfl) (fun _ _ _ h => h) (by rfl) (d3) (by intro w hSw; go_simp; try with_reducible rfl) ?_
          (try simp only [Act.put, List.setIfInBounds_toArray, List.set_cons_zero, List.set_cons_succ])
          refine anyH_take (i := 10) (some 4) (v := _) rfl rfl (by kernel_rfl) (by kernel_rfl) (by kernel_rfl) (fun _ _ _ h => h) (by rfl) (d3) (by intro w hSw; go_simp; try with_reducible rfl) ?_
          (try simp only [Act.put, List.setIfInBounds_toArray, List.set_cons_zero, List.set_cons_succ])
          refine wpAnyH_done (by kernel_rfl) ?_ _
          have d0 : W3.cell? ⟨wr.heap.size, 0, none⟩ = some (.int .u8 (kd : Int)) := by simp [World.cell?, hI3]
          have d1 : W3.cell? ⟨wr.heap.size, 1, none⟩ = some (.int .u64 (x : Int)) := by simp [World.cell?, hI3]
          have d2 : W3.cell? ⟨wr.heap.size, 2, none⟩ = some (.int .i64 (n : Int)) := by simp [World.cell?, hI3]
          have _d3 : W3.cell? ⟨wr.heap.size, 3, none⟩ = some (.string s) := by simp [World.cell?, hI3]
          have HK3 : Hid (W3.ownsRow P 30 4 u5 (keptO (l.take k)).length (allC (l.take k))) := ownsRow_beyond (kept_owrote (ownsRow_beyond HO.out HA.out) (by decide) (by decide) HWA.out H2.out) h3
          have hP3 : P ≤ W3.heap.size := by have := hb2.out.size; have := h3.size; omega
          clear h3 hI3 q0 q1 q2 q3
          go_wp2_with (at_builtin; refine wpList_append_own _ rfl (.tmp 111) (.tmp 113) 22 rfl P 30 i0 (.agg #[.int .u8 0, .int .u64 0, .int .i64 0, .string ⟨#[]⟩]) 4 40 Tryd.underlying22 hi hz0 hz1 hz2 rfl (by decide) _ _ _ rfl (HK3.out.alloc _) ⟨W3.heap.size, 0, none⟩ 1 1 [.int .u8 (kd : Int), .int .u64 (x : Int), .int .i64 n, .string s] rfl rfl (World.news_of_block (heap_alloc_new W3 _)) (by simp [Value.oneCell']) (by unfold maxLen; omega) (by omega) (by simp; omega) ?_; intro v4 W4 hown4 hgrow4 _; have HO4 := Lib.hid hown4; have HG4 := Lib.hid hgrow4; clear hown4 hgrow4)
          go_roundw
          case rel => exact ⟨k + 1, by omega, by go_num, by rw [bytes_good HT.out HG.out, HBY.out, strOf_append, strOf_append, strOf_ords], HR.out.good HT.out HG.out hs2 hsP hbP HA.out HWA.out (by rw [HBY.out]; exact H2.out) H3.out HG4.out HO4.out⟩
          case measure => simp [intOf]; omega
        · have hmI : (kd : Int) % 4 = 3 := by omega
          have hg : Ot.good ⟨kd, x, n, s⟩ = true := by simp only [Ot.good, decide_eq_true_eq]; intro h; omega
          have hby : Ot.bytes ⟨kd, x, n, s⟩ = ordsOf s := by simp [Ot.bytes, hm]
          have HG := Lib.hid hg
          have HBY := Lib.hid hby
          have n0 : ((3 : Int) == 0) = false := by decide
          obtain ⟨V, cv, hcv, hvb, hvl⟩ := bytes_of_text (wr.alloc (.cells #[.int .u8 (kd : Int), .int .u64 (x : Int), .int .i64 n, .string s] 30)) s
          have HVB := Lib.hid hvb
          have HVL := Lib.hid hvl
          have HAV : Hid (Below wr.heap.size wr V) := HA.out.trans (hvb.mono HA.out.size)
          have HWV := Lib.hid (HWA.out.only (only_beyond (S := fun _ => False) hvb) (fun h => h) (fun _ _ h => h))
          have HNV : Hid (V.heap[wr.heap.size]? = some (.cells #[.int .u8 (kd : Int), .int .u64 (x : Int), .int .i64 n, .string s] 30 (0, 0))) := (hvb.block _ (lt_of_block HNI.out)).trans HNI.out
          have hPV : P ≤ V.heap.size := Nat.le_trans hPa hvb.size
          have HCV := Lib.hid hcv
          clear hg HRa hby hvb hvl hcv
          go_wp2_with (refine wpList_bytes rfl (.tmp 38) rfl rfl HCV.out ?_)
          refine (raw_ok HVL.out (by rw [ordsOf_length]; omega) hPV (by omega) (OWrote.start HWV.out)).mono ?_
          rintro e W3 ⟨rfl, h2⟩
          have H2 := Lib.hid h2
          have hb2 := Lib.hid (h2.below hPV)
          have HI2 : Hid (W3.heap[wr.heap.size]? = some (.cells #[.int .u8 (kd : Int), .int .u64 (x : Int), .int .i64 n, .string s] 30 (0, 0))) := onew_stays HW.out h2 HNV.out
          have d0 : W3.cell? ⟨wr.heap.size, 0, none⟩ = some (.int .u8 (kd : Int)) := by simp [World.cell?, HI2.out]
          have d1 : W3.cell? ⟨wr.heap.size, 1, none⟩ = some (.int .u64 (x : Int)) := by simp [World.cell?, HI2.out]
          have d2 : W3.cell? ⟨wr.heap.size, 2, none⟩ = some (.int .i64 (n : Int)) := by simp [World.cell?, HI2.out]
          have d3 : W3.cell? ⟨wr.heap.size, 3, none⟩ = some (.string s) := by simp [World.cell?, HI2.out]
          have HK3 : Hid (W3.ownsRow P 30 4 u5 (keptO (l.take k)).length (allC (l.take k))) := kept_owrote (ownsRow_beyond HO.out HAV.out) (by decide) (by decide) HWV.out H2.out
          have hP3 : P ≤ W3.heap.size := by have := hb2.out.size; omega
          clear h2
          go_wp2_with (at_builtin; refine wpList_append_own _ rfl (.tmp 111) (.tmp 113) 22 rfl P 30 i0 (.agg #[.int .u8 0, .int .u64 0, .int .i64 0, .string ⟨#[]⟩]) 4 40 Tryd.underlying22 hi hz0 hz1 hz2 rfl (by decide) _ _ _ rfl (HK3.out.alloc _) ⟨W3.heap.size, 0, none⟩ 1 1 [.int .u8 (kd : Int), .int .u64 (x : Int), .int .i64 n, .string s] rfl rfl (World.news_of_block (heap_alloc_new W3 _)) (by simp [Value.oneCell']) (by unfold maxLen; omega) (by omega) (by simp; omega) ?_; intro v4 W4 hown4 hgrow4 _; have HO4 := Lib.hid hown4; have HG4 := Lib.hid hgrow4; clear hown4 hgrow4)
          go_roundw
          case rel => exact ⟨k + 1, by omega, by go_num, by rw [bytes_good HT.out HG.out, HBY.out, strOf_append, strOf_ords], HR.out.good HT.out HG.out hs2 hsP hbP HAV.out HWV.out (by rw [HBY.out]; exact H2.out) (Below.refl _ _) HG4.out HO4.out⟩
          case measure => simp [intOf]; omega
    · obtain rfl : k = l.length := by omega
      obtain ⟨wq, hwq⟩ : ∃ wq, wq = wr := ⟨_, rfl⟩
      subst hwq
      obtain ⟨⟨g, hw⟩, hown, hbel, _, _, hPs, h200⟩ := hR
      obtain ⟨hbl, hkl⟩ := takeO_bounds (l := l) (k := l.length) hlen h200
      have htk : l.take l.length = l := List.take_of_length_le (Nat.le_refl _)
      rw [htk] at hw hown hbl hkl h200
      rw [htk]
      have HW := Lib.hid hw
      have HO := Lib.hid hown
      have HBL := Lib.hid hbel
      have H200 := Lib.hid h200
      obtain ⟨ak, ck, rfl⟩ := own_slice hown
      clear hw hown hbel htk h200
      go_wp2_with fail
      refine (obytes P (OWrote.start HW.out) (by omega)).mono ?_
      rintro e W5 ⟨v5, rfl, ho5, hb5⟩
      have hcv := text_of (ownsRow_lies ho5)
      have HB5 := Lib.hid hb5
      clear ho5 hb5
      go_wp2_with fail
      refine (obytes P ((OWrote.start HW.out).beyond HB5.out) (by omega)).mono ?_
      rintro e W7 ⟨v7, rfl, ho7, hb7⟩
      have HL7 := Lib.hid (ownsRow_lies ho7)
      have HB7 : Hid (Below wq.heap.size wq W7) := HB5.out.trans (hb7.mono HB5.out.size)
      clear ho7 hb7 hcv
      go_wp2_with fail
      refine (oread_any HL7.out (by omega)).mono ?_
      rintro e W8 ⟨R, rfl, hr8, hb8⟩
      have HR8 := Lib.hid hr8
      have hRs : wq.heap.size ≤ R := Nat.le_trans HB7.out.size hr8.1
      have HB8 : Hid (Below wq.heap.size wq W8) := HB7.out.trans (hb8.mono HB7.out.size)
      have hz7 : wq.heap.size ≤ W7.heap.size := HB7.out.size
      clear hr8 hb8
      go_wp2
      generalize W7.heap.size = B7 at *
      go_loopw [126] (fun c w2 => ∃ j : Nat, j ≤ (keptO l).length ∧ c = .int .i64 j ∧ OReaderAt B7 w2 R (((keptO l).drop j).flatMap Ot.bytes) ∧ Below wq.heap.size wq w2) (fun c _ => (keptO l).length - (intOf c).toNat)
      case atStart => exact ⟨0, by omega, rfl, HR8.out, HB8.out⟩
      case round =>
        obtain ⟨j, hj, rfl, hrd, hbw2⟩ := hrel
        by_cases hlt2 : j < (keptO l).length
        · obtain ⟨t, ht⟩ : ∃ t, (keptO l)[j]? = some t := ⟨(keptO l)[j], List.getElem?_eq_getElem hlt2⟩
          obtain ⟨gk, ck', eK, _, hgk⟩ := HO.out.form (by omega)
          simp only [Value.slice.injEq, true_and] at eK
          obtain ⟨rfl, rfl⟩ := eK
          have hcell : ∀ i u, i < 4 → t.cells[i]? = some u → wr.cell? ⟨gk, j * 4 + i, none⟩ = some u := fun i u hi' hu => by
            rw [hbw2.cell (p := ⟨gk, j * 4 + i, none⟩) hgk, HO.out.cellAt (j * 4 + i) (by omega), ← hu]
            exact flatC_get ht i hi'
          obtain ⟨hm1, hm2⟩ := keptO_mem (List.mem_of_getElem? ht)
          obtain ⟨x0, x1, x2, x3, x4⟩ := HX.out t hm1
          have hs2 := H200.out t hm1
          have hdl := drop_le l (j + 1)
          have hsm := drop_small2 l (j + 1)
          have hrd2 := hrd
          rw [drop_cons ht] at hrd2
          have hzr : wq.heap.size ≤ wr.heap.size := hbw2.size
          have hRlt : R < wr.heap.size := lt_of_block hrd.2.choose_spec.1
          have HBW := Lib.hid hbw2
          obtain ⟨kd, x, n, s⟩ := t
          have a0 := hcell 0 _ (by omega) rfl
          have a1 := hcell 1 _ (by omega) rfl
          have a2 := hcell 2 _ (by omega) rfl
          have a3 := hcell 3 _ (by omega) rfl
          simp only [Nat.add_zero] at a0 a1 a2 a3
          simp only at x0 x1 x2 x3 x4 hs2
          have hk0 : (0 : Int) ≤ kd := by omega
          have hk1 : (kd : Int) ≤ 255 := by omega
          have hrd3 := hrd2.beyond ((Below.refl wr.heap.size wr).alloc (Nat.le_refl _) (.cells #[.int .u8 (kd : Int), .int .u64 (x : Int), .int .i64 n, .string s] 30))
          have c1 : (wr.alloc (.cells #[.int .u8 (kd : Int), .int .u64 (x : Int), .int .i64 n, .string s] 30)).cell? ⟨wr.heap.size, 1, none⟩ = some (.int .u64 (x : Int)) := (cell_of_row _ wr.heap.size 1 _ _ _ (heap_alloc_new wr _)).trans rfl
          have c2 : (wr.alloc (.cells #[.int .u8 (kd : Int), .int .u64 (x : Int), .int .i64 n, .string s] 30)).cell? ⟨wr.heap.size, 2, none⟩ = some (.int .i64 n) := (cell_of_row _ wr.heap.size 2 _ _ _ (heap_alloc_new wr _)).trans rfl
          have c3 : (wr.alloc (.cells #[.int .u8 (kd : Int), .int .u64 (x : Int), .int .i64 n, .string s] 30)).cell? ⟨wr.heap.size, 3, none⟩ = some (.string s) := (cell_of_row _ wr.heap.size 3 _ _ _ (heap_alloc_new wr _)).trans rfl
          have hzr2 : wq.heap.size ≤ (wr.alloc (.cells #[.int .u8 (kd : Int), .int .u64 (x : Int), .int .i64 n, .string s] 30)).heap.size := Nat.le_trans hzr ((Below.refl wr.heap.size wr).alloc (Nat.le_refl _) _).size
          have hmx : s.size ≤ 9223372036854775807 := by omega
          clear hcell ht hm1 hbw2 hrd hrd2 x4
          obtain ⟨rest, hrest⟩ : ∃ rest, rest = ((keptO l).drop (j + 1)).flatMap Ot.bytes := ⟨_, rfl⟩
          rw [← hrest] at hrd3 hdl hsm
          have HREST := Lib.hid hrest
          clear hrest
          have hsm2 : ∀ b ∈ rest, b < 256 := hsm
          have HSM := Lib.hid hsm2
          clear hsm hsm2
          have hmod : kd % 4 = 0 ∨ kd % 4 = 1 ∨ kd % 4 = 2 ∨ kd % 4 = 3 := by omega
          rcases hmod with hm | hm | hm | hm
          · have hmI : (kd : Int) % 4 = 0 := by omega
            have hg : Wide n ∧ wid x ≤ 8 * n.toNat := by simp only [Ot.good, decide_eq_true_eq] at hm2; exact hm2 hm
            obtain ⟨n, rfl⟩ := Int.eq_ofNat_of_zero_le (show 0 ≤ n by have := hg.1; unfold Wide at this; omega)
            have hwid : wid x ≤ 8 * n := by have := hg.2; simpa using this
            have HWD := Lib.hid hg.1
            have hby : Ot.bytes ⟨kd, x, (n : Int), s⟩ = numB x n := by simp [Ot.bytes, hm]
            rw [hby] at hrd3
            have HRD := Lib.hid hrd3
            clear hby hrd3 hm2 hg
            go_wp2_with fail
            refine wp_region_held_drew (S := fun w => w.cell? ⟨wr.heap.size, 1, none⟩ = some (.int .u64 (x : Int)) ∧ w.cell? ⟨wr.heap.size, 2, none⟩ = some (.int .i64 (n : Int))) (by kernel_rfl) ⟨c1, c2⟩ (fun _ => ?_)
            refine anyH_take (i := 0) (some 144) (v := _) rfl rfl (by kernel_rfl) (by kernel_rfl) (by kernel_rfl) (fun _ _ _ h => h) (by rfl) (⟨c1, c2⟩) (by rintro w ⟨hs1, hs2⟩; go_simp; try with_reducible rfl) ?_
            (try simp only [Act.put, List.setIfInBounds_toArray, List.set_cons_zero, List.set_cons_succ])
            refine anyH_take (i := 1) (some 145) (v := _) rfl rfl (by kernel_rfl) (by kernel_rfl) (by kernel_rfl) (fun _ _ _ h => h) (by rfl) (⟨c1, c2⟩) (by rintro w ⟨hs1, hs2⟩; go_simp; try with_reducible rfl) ?_
            (try simp only [Act.put, List.setIfInBounds_toArray, List.set_cons_zero, List.set_cons_succ])
            refine anyH_take (i := 2) (some 146) (v := _) rfl rfl (by kernel_rfl) (by kernel_rfl) (by kernel_rfl) (fun _ _ _ h => h) (by rfl) (⟨c1, c2⟩) (by rintro w ⟨hs1, hs2⟩; go_simp; try with_reducible rfl) ?_
            (try simp only [Act.put, List.setIfInBounds_toArray, List.set_cons_zero, List.set_cons_succ])
            refine anyH_take (i := 4) (some 148) (v := _) rfl rfl (by kernel_rfl) (by kernel_rfl) (by kernel_rfl) (fun _ _ _ h => h) (by rfl) (⟨c1, c2⟩) (by rintro w ⟨hs1, hs2⟩; go_simp; try with_reducible rfl) ?_
            (try simp only [Act.put, List.setIfInBounds_toArray, List.set_cons_zero, List.set_cons_succ])
            refine anyH_take (i := 5) (some 149) (v := _) rfl rfl (by kernel_rfl) (by kernel_rfl) (by kernel_rfl) (fun _ _ _ h => h) (by rfl) (⟨c1, c2⟩) (by rintro w ⟨hs1, hs2⟩; go_simp; try with_reducible rfl) ?_
            (try simp only [Act.put, List.setIfInBounds_toArray, List.set_cons_zero, List.set_cons_succ])
            refine wpAnyH_ready (rs := [3]) (by kernel_rfl) (by simp) (AllReadyH.cons rfl (fun K hK => ?_) AllReadyH.nil)
            go_simp
            (refine (get_num (HRD.out.beyond ((Below.refl _ _).drew)) HWD.out hwid HSM.out (by omega)).mono ?_; rintro e w2 ⟨rfl, hr, ho⟩; have HR2 := Lib.hid hr; have hit2 : w2.heap[wr.heap.size]? = some (.cells #[.int .u8 (kd : Int), .int .u64 (x : Int), .int .i64 n, .string s] 30 (0, 0)) := (ho.block _ (by simp) (by omega)).trans (heap_alloc_new wr _); have d1 : w2.cell? ⟨wr.heap.size, 1, none⟩ = some (.int .u64 (x : Int)) := (by simp [World.cell?, hit2]); have d2 : w2.cell? ⟨wr.heap.size, 2, none⟩ = some (.int .i64 (n : Int)) := (by simp [World.cell?, hit2]); have d3 : w2.cell? ⟨wr.heap.size, 3, none⟩ = some (.string s) := (by simp [World.cell?, hit2]); have HO2 := Lib.hid (((Below.refl wq.heap.size _).drew).trans (ho.below (B := wq.heap.size) hzr2 (fun k hk => by omega))); clear hr ho hit2)
            go_wp2_with fail
            refine hK.out _ _ (⟨d1, d2⟩) (fun _ => ?_)
            clear hK K
            (try simp only [Act.put, List.setIfInBounds_toArray, List.set_cons_zero, List.set_cons_succ])
            refine anyH_take (i := 6) (some 150) (v := _) rfl rfl (by kernel_rfl) (by kernel_rfl) (by kernel_rfl) (fun _ _ _ h => h) (by rfl) (⟨d1, d2⟩) (by rintro w ⟨hs1, hs2⟩; go_simp; try with_reducible rfl) ?_
            (try simp only [Act.put, List.setIfInBounds_toArray, List.set_cons_zero, List.set_cons_succ])
            refine anyH_take (i := 7) (some 12) (v := _) rfl rfl (by kernel_rfl) (by kernel_rfl) (by kernel_rfl) (fun _ _ _ h => h) (by rfl) (⟨d1, d2⟩) (by rintro w ⟨hs1, hs2⟩; go_simp; try with_reducible rfl) ?_
            (try simp only [Act.put, List.setIfInBounds_toArray, List.set_cons_zero, List.set_cons_succ])
            refine wpAnyH_done (by kernel_rfl) ?_ _
            go_wp2_with (go_at_call 18; refine (oerr_ok HR2.out).mono ?_; rintro e w' ⟨rfl, rfl⟩)
            go_roundw
            case rel => exact ⟨j + 1, by omega, by go_num, by rw [← HREST.out]; exact HR2.out, HBW.out.trans (((Below.refl wr.heap.size wr).alloc (Nat.le_refl _) _).mono hzr |>.trans HO2.out)⟩
            case measure => simp [intOf]; omega
          · have hmI : (kd : Int) % 4 = 1 := by omega
            have hby : Ot.bytes ⟨kd, x, n, s⟩ = numB x 8 := by simp [Ot.bytes, hm]
            obtain ⟨z, hz⟩ : ∃ z, IntKind.i64.wrap (x : Int) = z := ⟨_, rfl⟩
            rw [hby] at hrd3
            have HRD := Lib.hid hrd3
            clear hby hrd3 hm2
            go_wp2_with fail
            refine wp_region_held_drew (S := fun w => w.cell? ⟨wr.heap.size, 1, none⟩ = some (.int .u64 (x : Int)) ∧ w.cell? ⟨wr.heap.size, 1, none⟩ = some (.int .u64 (x : Int))) (by kernel_rfl) ⟨c1, c1⟩ (fun _ => ?_)
            refine anyH_take (i := 0) (some 153) (v := _) rfl rfl (by kernel_rfl) (by kernel_rfl) (by kernel_rfl) (fun _ _ _ h => h) (by rfl) (⟨c1, c1⟩) (by rintro w ⟨hs1, hs2⟩; go_simp; try with_reducible rfl) ?_
            (try simp only [Act.put, List.setIfInBounds_toArray, List.set_cons_zero, List.set_cons_succ])
            refine anyH_take (i := 2) (some 155) (v := _) rfl rfl (by kernel_rfl) (by kernel_rfl) (by kernel_rfl) (fun _ _ _ h => h) (by rfl) (⟨c1, c1⟩) (by rintro w ⟨hs1, hs2⟩; go_simp; try with_reducible rfl) ?_
            (try simp only [Act.put, List.setIfInBounds_toArray, List.set_cons_zero, List.set_cons_succ])
            refine anyH_take (i := 3) (some 156) (v := _) rfl rfl (by kernel_rfl) (by kernel_rfl) (by kernel_rfl) (fun _ _ _ h => h) (by rfl) (⟨c1, c1⟩) (by rintro w ⟨hs1, hs2⟩; go_simp; try with_reducible rfl) ?_
            (try simp only [Act.put, List.setIfInBounds_toArray, List.set_cons_zero, List.set_cons_succ])
            refine anyH_take (i := 4) (some 157) (v := _) rfl rfl (by kernel_rfl) (by kernel_rfl) (by kernel_rfl) (fun _ _ _ h => h) (by rfl) (⟨c1, c1⟩) (by rintro w ⟨hs1, hs2⟩; go_simp; try with_reducible rfl) ?_
            (try simp only [Act.put, List.setIfInBounds_toArray, List.set_cons_zero, List.set_cons_succ])
            refine wpAnyH_ready (rs := [1]) (by kernel_rfl) (by simp) (AllReadyH.cons rfl (fun K hK => ?_) AllReadyH.nil)
            go_simp
            (refine (get_int (HRD.out.beyond ((Below.refl _ _).drew)) x1 hz HSM.out (by omega)).mono ?_; rintro e w2 ⟨rfl, hr, ho⟩; have HR2 := Lib.hid hr; have hit2 : w2.heap[wr.heap.size]? = some (.cells #[.int .u8 (kd : Int), .int .u64 (x : Int), .int .i64 n, .string s] 30 (0, 0)) := (ho.block _ (by simp) (by omega)).trans (heap_alloc_new wr _); have d1 : w2.cell? ⟨wr.heap.size, 1, none⟩ = some (.int .u64 (x : Int)) := (by simp [World.cell?, hit2]); have d2 : w2.cell? ⟨wr.heap.size, 2, none⟩ = some (.int .i64 (n : Int)) := (by simp [World.cell?, hit2]); have d3 : w2.cell? ⟨wr.heap.size, 3, none⟩ = some (.string s) := (by simp [World.cell?, hit2]); have HO2 := Lib.hid (((Below.refl wq.heap.size _).drew).trans (ho.below (B := wq.heap.size) hzr2 (fun k hk => by omega))); clear hr ho hit2)
            go_wp2_with fail
            refine hK.out _ _ (⟨d1, d1⟩) (fun _ => ?_)
            clear hK K
            (try simp only [Act.put, List.setIfInBounds_toArray, List.set_cons_zero, List.set_cons_succ])
            refine anyH_take (i := 5) (some 158) (v := _) rfl rfl (by kernel_rfl) (by kernel_rfl) (by kernel_rfl) (fun _ _ _ h => h) (by rfl) (⟨d1, d1⟩) (by rintro w ⟨hs1, hs2⟩; go_simp; try with_reducible rfl) ?_
            (try simp only [Act.put, List.setIfInBounds_toArray, List.set_cons_zero, List.set_cons_succ])
            refine anyH_take (i := 6) (some 12) (v := _) rfl rfl (by kernel_rfl) (by kernel_rfl) (by kernel_rfl) (fun _ _ _ h => h) (by rfl) (⟨d1, d1⟩) (by rintro w ⟨hs1, hs2⟩; go_simp; try with_reducible rfl) ?_
            (try simp only [Act.put, List.setIfInBounds_toArray, List.set_cons_zero, List.set_cons_succ])
            refine wpAnyH_done (by kernel_rfl) ?_ _
            go_wp2_with (go_at_call 18; refine (oerr_ok HR2.out).mono ?_; rintro e w' ⟨rfl, rfl⟩)
            go_roundw
            case rel => exact ⟨j + 1, by omega, by go_num, by rw [← HREST.out]; exact HR2.out, HBW.out.trans (((Below.refl wr.heap.size wr).alloc (Nat.le_refl _) _).mono hzr |>.trans HO2.out)⟩
            case measure => simp [intOf]; omega
          · have hmI : (kd : Int) % 4 = 2 := by omega
            have hby : Ot.bytes ⟨kd, x, n, s⟩ = numB s.size 2 ++ ordsOf s := by simp [Ot.bytes, hm]
            rw [hby] at hrd3
            have HRD := Lib.hid hrd3
            clear hby hrd3 hm2
            go_wp2_with fail
            refine wp_region_held_drew (S := fun w => w.cell? ⟨wr.heap.size, 3, none⟩ = some (.string s) ∧ w.cell? ⟨wr.heap.size, 3, none⟩ = some (.string s)) (by kernel_rfl) ⟨c3, c3⟩ (fun _ => ?_)
            refine anyH_take (i := 0) (some 161) (v := _) rfl rfl (by kernel_rfl) (by kernel_rfl) (by kernel_rfl) (fun _ _ _ h => h) (by rfl) (⟨c3, c3⟩) (by rintro w ⟨hs1, hs2⟩; go_simp; try with_reducible rfl) ?_
            (try simp only [Act.put, List.setIfInBounds_toArray, List.set_cons_zero, List.set_cons_succ])
            refine anyH_take (i := 2) (some 163) (v := _) rfl rfl (by kernel_rfl) (by kernel_rfl) (by kernel_rfl) (fun _ _ _ h => h) (by rfl) (⟨c3, c3⟩) (by rintro w ⟨hs1, hs2⟩; go_simp; try with_reducible rfl) ?_
            (try simp only [Act.put, List.setIfInBounds_toArray, List.set_cons_zero, List.set_cons_succ])
            refine anyH_take (i := 3) (some 164) (v := _) rfl rfl (by kernel_rfl) (by kernel_rfl) (by kernel_rfl) (fun _ _ _ h => h) (by rfl) (⟨c3, c3⟩) (by rintro w ⟨hs1, hs2⟩; go_simp; try with_reducible rfl) ?_
            (try simp only [Act.put, List.setIfInBounds_toArray, List.set_cons_zero, List.set_cons_succ])
            refine wpAnyH_ready (rs := [1]) (by kernel_rfl) (by simp) (AllReadyH.cons rfl (fun K hK => ?_) AllReadyH.nil)
            go_simp
            (refine (get_text (HRD.out.beyond ((Below.refl _ _).drew)) hs2 HSM.out (by omega)).mono ?_; rintro e w2 ⟨rfl, hr, ho⟩; have HR2 := Lib.hid hr; have hit2 : w2.heap[wr.heap.size]? = some (.cells #[.int .u8 (kd : Int), .int .u64 (x : Int), .int .i64 n, .string s] 30 (0, 0)) := (ho.block _ (by simp) (by omega)).trans (heap_alloc_new wr _); have d1 : w2.cell? ⟨wr.heap.size, 1, none⟩ = some (.int .u64 (x : Int)) := (by simp [World.cell?, hit2]); have d2 : w2.cell? ⟨wr.heap.size, 2, none⟩ = some (.int .i64 (n : Int)) := (by simp [World.cell?, hit2]); have d3 : w2.cell? ⟨wr.heap.size, 3, none⟩ = some (.string s) := (by simp [World.cell?, hit2]); have HO2 := Lib.hid (((Below.refl wq.heap.size _).drew).trans (ho.below (B := wq.heap.size) hzr2 (fun k hk => by omega))); clear hr ho hit2)
            go_wp2_with fail
            refine hK.out _ _ (⟨d3, d3⟩) (fun _ => ?_)
            clear hK K
            (try simp only [Act.put, List.setIfInBounds_toArray, List.set_cons_zero, List.set_cons_succ])
            refine anyH_take (i := 4) (some 165) (v := _) rfl rfl (by kernel_rfl) (by kernel_rfl) (by kernel_rfl) (fun _ _ _ h => h) (by rfl) (⟨d3, d3⟩) (by rintro w ⟨hs1, hs2⟩; go_simp; try with_reducible rfl) ?_
            (try simp only [Act.put, List.setIfInBounds_toArray, List.set_cons_zero, List.set_cons_succ])
            refine anyH_take (i := 5) (some 12) (v := _) rfl rfl (by kernel_rfl) (by kernel_rfl) (by kernel_rfl) (fun _ _ _ h => h) (by rfl) (⟨d3, d3⟩) (by rintro w ⟨hs1, hs2⟩; go_simp; try with_reducible rfl) ?_
            (try simp only [Act.put, List.setIfInBounds_toArray, List.set_cons_zero, List.set_cons_succ])
            refine wpAnyH_done (by kernel_rfl) ?_ _
            go_wp2_with (go_at_call 18; refine (oerr_ok HR2.out).mono ?_; rintro e w' ⟨rfl, rfl⟩)
            go_roundw
            case rel => exact ⟨j + 1, by omega, by go_num, by rw [← HREST.out]; exact HR2.out, HBW.out.trans (((Below.refl wr.heap.size wr).alloc (Nat.le_refl _) _).mono hzr |>.trans HO2.out)⟩
            case measure => simp [intOf]; omega
          · have hmI : (kd : Int) % 4 = 3 := by omega
            have hby : Ot.bytes ⟨kd, x, n, s⟩ = ordsOf s := by simp [Ot.bytes, hm]
            rw [hby] at hrd3
            have HRD := Lib.hid hrd3
            clear hby hrd3 hm2
            go_wp2_with fail
            refine wp_region_held_drew (S := fun w => w.cell? ⟨wr.heap.size, 3, none⟩ = some (.string s)) (by kernel_rfl) c3 (fun _ => ?_)
            refine anyH_take (i := 0) (some 133) (v := _) rfl rfl (by kernel_rfl) (by kernel_rfl) (by kernel_rfl) (fun _ _ _ h => h) (by rfl) (c3) (by intro w hSw; go_simp; try with_reducible rfl) ?_
            (try simp only [Act.put, List.setIfInBounds_toArray, List.set_cons_zero, List.set_cons_succ])
            refine anyH_take (i := 1) (some 134) (v := _) rfl rfl (by kernel_rfl) (by kernel_rfl) (by kernel_rfl) (fun _ _ _ h => h) (by rfl) (c3) (by intro w hSw; go_simp; try with_reducible rfl) ?_
            (try simp only [Act.put, List.setIfInBounds_toArray, List.set_cons_zero, List.set_cons_succ])
            refine anyH_take (i := 2) (some 135) (v := _) rfl rfl (by kernel_rfl) (by kernel_rfl) (by kernel_rfl) (fun _ _ _ h => h) (by rfl) (c3) (by intro w hSw; go_simp; try with_reducible rfl) ?_
            (try simp only [Act.put, List.setIfInBounds_toArray, List.set_cons_zero, List.set_cons_succ])
            refine anyH_take (i := 3) (some 136) (v := _) rfl rfl (by kernel_rfl) (by kernel_rfl) (by kernel_rfl) (fun _ _ _ h => h) (by rfl) (c3) (by intro w hSw; go_simp; try with_reducible rfl) ?_
            (try simp only [Act.put, List.setIfInBounds_toArray, List.set_cons_zero, List.set_cons_succ])
            refine anyH_take (i := 6) (some 139) (v := _) rfl rfl (by kernel_rfl) (by kernel_rfl) (by kernel_rfl) (fun _ _ _ h => h) (by rfl) (c3) (by intro w hSw; go_simp; try with_reducible rfl) ?_
            (try simp only [Act.put, List.setIfInBounds_toArray, List.set_cons_zero, List.set_cons_succ])
            refine anyH_take (i := 7) (some 140) (v := _) rfl rfl (by kernel_rfl) (by kernel_rfl) (by kernel_rfl) (fun _ _ _ h => h) (by rfl) (c3) (by intro w hSw; go_simp; try with_reducible rfl) ?_
            (try simp only [Act.put, List.setIfInBounds_toArray, List.set_cons_zero, List.set_cons_succ])
            refine wpAnyH_ready (rs := [4]) (by kernel_rfl) (by simp) (AllReadyH.cons rfl (fun K hK => ?_) AllReadyH.nil)
            go_simp
            (refine (get_raw (HRD.out.beyond ((Below.refl _ _).drew)) hs2 (by omega)).mono ?_; rintro e w2 ⟨v5, rfl, hcv5, hr, ho⟩; have HR2 := Lib.hid hr; have hit2 : w2.heap[wr.heap.size]? = some (.cells #[.int .u8 (kd : Int), .int .u64 (x : Int), .int .i64 n, .string s] 30 (0, 0)) := (ho.block _ (by simp) (by omega)).trans (heap_alloc_new wr _); have d1 : w2.cell? ⟨wr.heap.size, 1, none⟩ = some (.int .u64 (x : Int)) := (by simp [World.cell?, hit2]); have d2 : w2.cell? ⟨wr.heap.size, 2, none⟩ = some (.int .i64 (n : Int)) := (by simp [World.cell?, hit2]); have d3 : w2.cell? ⟨wr.heap.size, 3, none⟩ = some (.string s) := (by simp [World.cell?, hit2]); have HO2 := Lib.hid (((Below.refl wq.heap.size _).drew).trans (ho.below (B := wq.heap.size) hzr2 (fun k hk => by omega))); clear hr ho hit2)
            go_wp2_with fail
            refine hK.out _ _ (d3) (fun _ => ?_)
            clear hK K
            (try simp only [Act.put, List.setIfInBounds_toArray, List.set_cons_zero, List.set_cons_succ])
            refine anyH_mono (S' := fun w => Below w2.heap.size w2 w) (fun w h => (h.cell (p := ⟨wr.heap.size, 3, none⟩) (cell_lt d3)).trans d3) ?_
            refine anyH_take (i := 5) (some 138) (v := _) rfl rfl (by kernel_rfl) (by kernel_rfl) (by kernel_rfl) (fun _ _ _ h => h) (by rfl) (Below.refl _ _) (by intro w hSw; go_simp; try with_reducible rfl) ?_
            (try simp only [Act.put, List.setIfInBounds_toArray, List.set_cons_zero, List.set_cons_succ])
            refine anyH_take (i := 8) (some 141) (v := _) rfl rfl (by kernel_rfl) (by kernel_rfl) (by kernel_rfl) (fun _ _ _ h => h) (by rfl) (Below.refl _ _) (by intro w hSw; go_simp; try with_reducible rfl) ?_
            (try simp only [Act.put, List.setIfInBounds_toArray, List.set_cons_zero, List.set_cons_succ])
            refine anyH_take (i := 9) (some 12) (v := _) rfl rfl (by kernel_rfl) (by kernel_rfl) (by kernel_rfl) (fun _ _ _ h => h) (by rfl) (Below.refl _ _) (by intro w hSw; go_simp; try with_reducible rfl) ?_
            (try simp only [Act.put, List.setIfInBounds_toArray, List.set_cons_zero, List.set_cons_succ])
            refine wpAnyH_done (by kernel_rfl) ?_ _
            go_wp2_with (go_at_call 18; refine (oerr_ok HR2.out).mono ?_; rintro e w' ⟨rfl, rfl⟩)
            go_roundw
            case rel => exact ⟨j + 1, by omega, by go_num, by rw [← HREST.out]; exact HR2.out, HBW.out.trans (((Below.refl wr.heap.size wr).alloc (Nat.le_refl _) _).mono hzr |>.trans HO2.out)⟩
            case measure => simp [intOf]; omega
        · obtain rfl : j = (keptO l).length := by omega
          rw [List.drop_length] at hrd
          have hrd' : OReaderAt B7 wr R [] := hrd
          have HRD := Lib.hid hrd'
          have HBW := Lib.hid hbw2
          clear hrd hrd' hbw2
          go_wp2_with fail
          refine (oend_ok HRD.out).mono ?_
          rintro e w2 ⟨rfl, rfl⟩
          go_wp2
          go_ret
          exact ⟨rfl, HB1.out.trans ((HBL.out.trans (HBW.out.mono hPs)).mono HZ.out.1)⟩

set_option maxHeartbeats 2000000 in
set_option maxRecDepth 100000 in
theorem octetWrites_many {a : Option Addr} {n cap : Nat} (hn : 40 < n) (hn' : n ≤ 9223372036854775807) (w : World) (hl : StepsLaid w) :
    Calls Tryd.prog 3 #[.slice a n cap] w fun e w' => e = .returned (.bool true) ∧ Below w.heap.size w w' := by
  have hL := Lib.hid hl
  have hd40 : decide ((40 : Int) < n) = true := by simp; omega
  clear hl
  go_enter Tryd.func3, Tryd.ntmps3
  go_wp2_with fail
  refine (lives03 _ hL.out).mono ?_
  rintro e W1 ⟨rfl, hb1⟩
  have HB1 := Lib.hid hb1
  have HL1 := Lib.hid (hL.out.keep hb1 hL.out.lt)
  clear hb1
  go_wp2_with fail
  refine (lives03 _ HL1.out).mono ?_
  rintro e W2 ⟨rfl, hb2⟩
  have HB2 := Lib.hid hb2
  clear hb2
  go_wp2
  go_ret
  exact ⟨rfl, HB1.out.trans (HB2.out.mono HB1.out.size)⟩
end Go.Proofs.YtcomdobmkmbmeaaDoor
