/- play, with TierRestores$1. Written by py/ti-play.py. -/
import Derived.Test.YtmpphidiofhnlaaZTiVal
import Derived.Test.YtmpphidiofhnlaaZTiFew
import Derived.Test.YtmpphidiofhnlaaZTiDoes
namespace Go.Proofs.Ytmpphidiofhnlaa
open Go.RowKit

set_option maxHeartbeats 16000000 in
set_option maxRecDepth 1000000 in
theorem tiplay3_any (D : TierD) {w : World} {v : Value} {L : List TActL} (hv : TActsAt w v L) (hin : ∀ x ∈ L, x.In) (hfew : ∀ x ∈ L, x.l.length ≤ 40) (hn : L.length ≤ 1000000) :
    Calls Try.prog 9 #[v, .func (.func 20) #[] #[]] w fun e w' => ∃ p, e = .returned (.pointer (some ⟨p, 0, none⟩)) ∧ OneS D w.heap.size w' p (playT (L.map (mapAct (fun p => p)))) ∧ Below w.heap.size w w' := by
  obtain ⟨ad, b, off, cap, rfl, hadr, hacts⟩ := hv
  have HADR := Lib.hid hadr
  have HA := Lib.hid hacts
  have HIN := Lib.hid hin
  have HFEW := Lib.hid hfew
  clear hadr hacts hin hfew
  go_enter Try.func9, Try.ntmps9
  go_wp2_with fail
  refine (D.new_ w).mono ?_
  rintro e W1 ⟨p, rfl, h1, h2, hb⟩
  have HS1 : Hid (OneS D w.heap.size W1 p newS) := Lib.hid ⟨h1, h2⟩
  have HB1 := Lib.hid hb
  clear h1 h2 hb
  dsimp only
  go_wp2_with fail
  go_loopw [14] (fun c wr => ∃ j : Nat, j ≤ L.length ∧ c = .int .i64 j ∧ OneS D w.heap.size wr p (playT ((L.take j).map (mapAct (fun p => p)))) ∧ Below w.heap.size w wr) (fun c _ => L.length - (intOf c).toNat)
  case atStart => exact ⟨0, Nat.zero_le _, rfl, HS1.out, HB1.out⟩
  case round =>
    obtain ⟨j, hj, rfl, hs, hb⟩ := hrel
    obtain ⟨W3, hW3⟩ : ∃ W3, W3 = wr := ⟨_, rfl⟩
    subst hW3
    obtain ⟨s, hse⟩ : ∃ s, s = playT ((L.take j).map (mapAct (fun p => p))) := ⟨_, rfl⟩
    rw [← hse] at hs
    have HSE : Hid (playT ((L.take j).map (mapAct (fun p => p))) = s) := Lib.hid hse.symm
    have HS3 := Lib.hid hs
    have HB3 := Lib.hid hb
    clear hs hb hse HS1 HB1
    by_cases hlt : j < L.length
    · have ea := HADR.out (by intro h; simp [h] at hlt)
      subst ea
      obtain ⟨x, hx⟩ : ∃ x, L[j]? = some x := ⟨L[j], List.getElem?_eq_getElem hlt⟩
      obtain ⟨u, c0, c1, c2, c3, c4, hpl, -⟩ := (HA.out j x hx).keep HB3.out
      obtain ⟨ua, ub, uo, uc, rfl, hua, hup⟩ := hpl
      have HUA := Lib.hid hua
      have HXK := Lib.hid hx
      have HXI := Lib.hid (HIN.out x (List.mem_of_getElem? hx))
      have h40 : x.l.length ≤ 40 := HFEW.out x (List.mem_of_getElem? hx)
      have HFG : Hid (∀ p ∈ x.l.map (fun p => p), p.fits) := Lib.hid fun p hp => by
        obtain ⟨q, hq, rfl⟩ := List.mem_map.1 hp
        exact HXI.out.pts q hq
      clear hx hua
      go_upto_region 5 with fail
      refine wp_name fun W4 hW4 => ?_
      obtain ⟨M, hM⟩ : ∃ M, M = W3.heap.size := ⟨_, rfl⟩
      have hb4 : Below W3.heap.size W3 W4 := by rw [hW4.out]; exact (Below.refl _ _).alloc (Nat.le_refl _) _
      have HB4 := Lib.hid (HB3.out.trans (hb4.mono HB3.out.size))
      have HS4 := Lib.hid (HS3.out.keep hb4)
      have HPT4 := Lib.hid (hup.beyond hb4)
      have p0 : W4.heap[M]? = some (.cells #[.int .i64 x.kind, .int .i64 x.at_, .slice ua x.l.length uc, .int .i64 x.a, .int .i64 x.b] 37 (0, 0)) := by rw [hW4.out, hM]; exact heap_alloc_new W3 _
      obtain ⟨q0, q1, q2, q3, q4⟩ := tact_cells p0
      rw [← hM]
      clear hb4 hW4 hM c0 c1 c2 c3 c4 p0 hup HS3 HB3
      by_cases hk : x.kind = 0
      · have HPN : Hid (playT ((L.take (j + 1)).map (mapAct (fun p => p))) = putT s (x.l.map (fun p => p))) := Lib.hid (by rw [take_snoc HXK.out, List.map_append, List.map_singleton, playT_snoc, HSE.out]; exact stepT_put (x := mapAct (fun p => p) x) (by show _ ∧ _; simp [mapAct, hk]))
        have t0 : (x.kind == 0) = true := by rw [hk]; rfl
        clear hk
        go_wp2_with fail
        go_loopw [8, 27] (fun vv c wr => ∃ (i : Nat) (v8 : Value), i ≤ x.l.length ∧ c = .int .i64 i ∧ v8 = vv ∧ PtRowB W4.heap.size wr v8 ((x.l.take i).map (fun p => p)) ∧ Below W4.heap.size W4 wr) (fun _ c _ => x.l.length - (intOf c).toNat)
        case atStart => exact ⟨0, _, Nat.zero_le _, rfl, rfl, PtRowB.nil _ _, Below.refl _ _⟩
        case round =>
          obtain ⟨i, v8, hi, rfl, rfl, hrow, hb5⟩ := hrel
          obtain ⟨W5, hW5⟩ : ∃ W5, W5 = wr := ⟨_, rfl⟩
          subst hW5
          have HROW := Lib.hid hrow
          have HB45 := Lib.hid hb5
          have HPT5 := Lib.hid (HPT4.out.beyond hb5)
          clear hrow hb5
          by_cases hil : i < x.l.length
          · have ea := HUA.out (by intro h; simp [h] at hil)
            subst ea
            obtain ⟨q, hq⟩ : ∃ q, x.l[i]? = some q := ⟨x.l[i], List.getElem?_eq_getElem hil⟩
            obtain ⟨c0, c1⟩ := HPT5.out i q hq
            have HQK := Lib.hid hq
            clear hq
            go_upto_region 13 with fail
            refine wp_name fun W6 hW6 => ?_
            obtain ⟨M2, hM2⟩ : ∃ M2, M2 = W5.heap.size := ⟨_, rfl⟩
            have hb6 : Below W5.heap.size W5 W6 := by rw [hW6.out]; exact (Below.refl _ _).alloc (Nat.le_refl _) _
            have p0 : W6.heap[M2]? = some (.cells #[.int .i64 q.a, .int .i64 q.v] 31 (0, 0)) := by rw [hW6.out, hM2]; exact heap_alloc_new W5 _
            obtain ⟨d0, d1, -, -⟩ := ptcells p0
            have HROW6 := Lib.hid (HROW.out.keep hb6)
            have HB46 := Lib.hid (HB45.out.trans (hb6.mono HB45.out.size))
            rw [← hM2]
            clear hW6 hM2 hb6 p0 c0 c1 HROW HB45 HPT5
            go_wp2_with fail
            refine (valF3 W6 q).mono ?_
            rintro e W7 ⟨rfl, hb⟩
            have HROW7 := Lib.hid (HROW6.out.keep hb)
            have HB47 := Lib.hid (HB46.out.trans (hb.mono HB46.out.size))
            clear hb d0 d1 HROW6 HB46
            obtain ⟨G, hG⟩ : ∃ G, G = (fun p => p) q := ⟨_, rfl⟩
            have HGQ := Lib.hid hG
            obtain rfl : G = q := hG
            skip
            dsimp only
            have hb8 : Below W7.heap.size W7 (W7.alloc (.cells #[.int .i64 G.a, .int .i64 G.v] 31)) := (Below.refl _ _).alloc (Nat.le_refl _) _
            have HRW := Lib.hid (HROW7.out.keep hb8)
            have HB4W := Lib.hid (HB47.out.trans (hb8.mono HB47.out.size))
            have HSR := Lib.hid (src_lies (builtV_lies W7 [G]) (by simp))
            clear hb8
            go_wp2_with (at_builtin; refine wpList_append_pts rfl (.tmp 31) (.tmp 35) rfl W4.heap.size _ _ rfl HRW.out _ [G] rfl HSR.out (by rw [List.length_map, List.length_take]; simp; omega) HB4W.out.size ?_; intro v9 W9 HROW9 hgrow; have HB49 : Hid (Below W4.heap.size W4 W9) := Lib.hid (HB4W.out.grown hgrow.out HB4W.out.size (fun b hb => (HRW.out.lt b hb).1)); clear hgrow)
            have HRN : Hid (PtRowB W4.heap.size W9 v9 ((x.l.take (i + 1)).map (fun p => p))) := Lib.hid (by rw [take_snoc HQK.out, List.map_append]; exact HROW9.out)
            go_roundw
            case rel => exact ⟨i + 1, _, by omega, by go_num, rfl, HRN.out, HB49.out⟩
            case measure => simp [intOf]; omega
          · obtain rfl : i = x.l.length := by omega
            have hsit := (HS4.out.keep HB45.out)
            have hrl : PLies W5 v8 (x.l.map (fun p => p)) := by have h := HROW.out.plies; rwa [List.take_of_length_le (Nat.le_refl _)] at h
            have hput := D.put hsit.sit hrl HFG.out (by rw [List.length_map]; omega)
            have HPU := Lib.hid hput
            have HS5 := Lib.hid hsit
            have HB5 := Lib.hid (HB4.out.trans (HB45.out.mono HB4.out.size))
            clear hsit hrl hput HROW HB45 HPT5
            go_wp2_with fail
            refine (HPU.out).mono ?_
            rintro e W6 ⟨rfl, h1, h2, h3⟩
            have hst := HS5.out.step HB5.out.size h1 h2 h3
            have HS6 := Lib.hid hst.1
            have HB6 := Lib.hid (HB5.out.trans hst.2)
            clear h1 h2 h3 hst HPU HS5 HB5
            dsimp only
            go_wp2
            have HOUT : Hid (OneS D w.heap.size W6 p (playT ((L.take (j + 1)).map (mapAct (fun p => p)))) ∧ Below w.heap.size w W6) := Lib.hid ⟨by rw [HPN.out]; exact HS6.out, HB6.out⟩
            go_roundw
            case rel => exact ⟨j + 1, by omega, by go_num, HOUT.out⟩
            case measure => simp [intOf]; omega
      have t0 : (x.kind == 0) = false := by simpa using hk
      have HK0 := Lib.hid hk
      clear hk
      by_cases hk : x.kind = 1
      · have HPN : Hid (playT ((L.take (j + 1)).map (mapAct (fun p => p))) = putT s (x.l.map (fun p => p))) := Lib.hid (by rw [take_snoc HXK.out, List.map_append, List.map_singleton, playT_snoc, HSE.out]; exact stepT_put (x := mapAct (fun p => p) x) (by show _ ∧ _; simp [mapAct, hk]))
        have t0 : (x.kind == 0) = false := by rw [hk]; rfl
        have t1 : (x.kind == 1) = true := by rw [hk]; rfl
        clear hk
        go_wp2_with fail
        go_loopw [8, 27] (fun vv c wr => ∃ (i : Nat) (v8 : Value), i ≤ x.l.length ∧ c = .int .i64 i ∧ v8 = vv ∧ PtRowB W4.heap.size wr v8 ((x.l.take i).map (fun p => p)) ∧ Below W4.heap.size W4 wr) (fun _ c _ => x.l.length - (intOf c).toNat)
        case atStart => exact ⟨0, _, Nat.zero_le _, rfl, rfl, PtRowB.nil _ _, Below.refl _ _⟩
        case round =>
          obtain ⟨i, v8, hi, rfl, rfl, hrow, hb5⟩ := hrel
          obtain ⟨W5, hW5⟩ : ∃ W5, W5 = wr := ⟨_, rfl⟩
          subst hW5
          have HROW := Lib.hid hrow
          have HB45 := Lib.hid hb5
          have HPT5 := Lib.hid (HPT4.out.beyond hb5)
          clear hrow hb5
          by_cases hil : i < x.l.length
          · have ea := HUA.out (by intro h; simp [h] at hil)
            subst ea
            obtain ⟨q, hq⟩ : ∃ q, x.l[i]? = some q := ⟨x.l[i], List.getElem?_eq_getElem hil⟩
            obtain ⟨c0, c1⟩ := HPT5.out i q hq
            have HQK := Lib.hid hq
            clear hq
            go_upto_region 13 with fail
            refine wp_name fun W6 hW6 => ?_
            obtain ⟨M2, hM2⟩ : ∃ M2, M2 = W5.heap.size := ⟨_, rfl⟩
            have hb6 : Below W5.heap.size W5 W6 := by rw [hW6.out]; exact (Below.refl _ _).alloc (Nat.le_refl _) _
            have p0 : W6.heap[M2]? = some (.cells #[.int .i64 q.a, .int .i64 q.v] 31 (0, 0)) := by rw [hW6.out, hM2]; exact heap_alloc_new W5 _
            obtain ⟨d0, d1, -, -⟩ := ptcells p0
            have HROW6 := Lib.hid (HROW.out.keep hb6)
            have HB46 := Lib.hid (HB45.out.trans (hb6.mono HB45.out.size))
            rw [← hM2]
            clear hW6 hM2 hb6 p0 c0 c1 HROW HB45 HPT5
            go_wp2_with fail
            refine (valF3 W6 q).mono ?_
            rintro e W7 ⟨rfl, hb⟩
            have HROW7 := Lib.hid (HROW6.out.keep hb)
            have HB47 := Lib.hid (HB46.out.trans (hb.mono HB46.out.size))
            clear hb d0 d1 HROW6 HB46
            obtain ⟨G, hG⟩ : ∃ G, G = (fun p => p) q := ⟨_, rfl⟩
            have HGQ := Lib.hid hG
            obtain rfl : G = q := hG
            skip
            dsimp only
            have hb8 : Below W7.heap.size W7 (W7.alloc (.cells #[.int .i64 G.a, .int .i64 G.v] 31)) := (Below.refl _ _).alloc (Nat.le_refl _) _
            have HRW := Lib.hid (HROW7.out.keep hb8)
            have HB4W := Lib.hid (HB47.out.trans (hb8.mono HB47.out.size))
            have HSR := Lib.hid (src_lies (builtV_lies W7 [G]) (by simp))
            clear hb8
            go_wp2_with (at_builtin; refine wpList_append_pts rfl (.tmp 31) (.tmp 35) rfl W4.heap.size _ _ rfl HRW.out _ [G] rfl HSR.out (by rw [List.length_map, List.length_take]; simp; omega) HB4W.out.size ?_; intro v9 W9 HROW9 hgrow; have HB49 : Hid (Below W4.heap.size W4 W9) := Lib.hid (HB4W.out.grown hgrow.out HB4W.out.size (fun b hb => (HRW.out.lt b hb).1)); clear hgrow)
            have HRN : Hid (PtRowB W4.heap.size W9 v9 ((x.l.take (i + 1)).map (fun p => p))) := Lib.hid (by rw [take_snoc HQK.out, List.map_append]; exact HROW9.out)
            go_roundw
            case rel => exact ⟨i + 1, _, by omega, by go_num, rfl, HRN.out, HB49.out⟩
            case measure => simp [intOf]; omega
          · obtain rfl : i = x.l.length := by omega
            have hsit := (HS4.out.keep HB45.out)
            have hrl : PLies W5 v8 (x.l.map (fun p => p)) := by have h := HROW.out.plies; rwa [List.take_of_length_le (Nat.le_refl _)] at h
            have hput := D.put hsit.sit hrl HFG.out (by rw [List.length_map]; omega)
            have HPU := Lib.hid hput
            have HS5 := Lib.hid hsit
            have HB5 := Lib.hid (HB4.out.trans (HB45.out.mono HB4.out.size))
            clear hsit hrl hput HROW HB45 HPT5
            go_wp2_with fail
            refine (HPU.out).mono ?_
            rintro e W6 ⟨rfl, h1, h2, h3⟩
            have hst := HS5.out.step HB5.out.size h1 h2 h3
            have HS6 := Lib.hid hst.1
            have HB6 := Lib.hid (HB5.out.trans hst.2)
            clear h1 h2 h3 hst HPU HS5 HB5
            dsimp only
            go_wp2
            have HOUT : Hid (OneS D w.heap.size W6 p (playT ((L.take (j + 1)).map (mapAct (fun p => p)))) ∧ Below w.heap.size w W6) := Lib.hid ⟨by rw [HPN.out]; exact HS6.out, HB6.out⟩
            go_roundw
            case rel => exact ⟨j + 1, by omega, by go_num, HOUT.out⟩
            case measure => simp [intOf]; omega
      have t1 : (x.kind == 1) = false := by simpa using hk
      have HK1 := Lib.hid hk
      clear hk
      by_cases hk : x.kind = 2
      · have HPN : Hid (playT ((L.take (j + 1)).map (mapAct (fun p => p))) = putT s (x.l.map (fun p => p))) := Lib.hid (by rw [take_snoc HXK.out, List.map_append, List.map_singleton, playT_snoc, HSE.out]; exact stepT_put (x := mapAct (fun p => p) x) (by show _ ∧ _; simp [mapAct, hk]))
        have t0 : (x.kind == 0) = false := by rw [hk]; rfl
        have t1 : (x.kind == 1) = false := by rw [hk]; rfl
        have t2 : (x.kind == 2) = true := by rw [hk]; rfl
        clear hk
        go_wp2_with fail
        go_loopw [8, 27] (fun vv c wr => ∃ (i : Nat) (v8 : Value), i ≤ x.l.length ∧ c = .int .i64 i ∧ v8 = vv ∧ PtRowB W4.heap.size wr v8 ((x.l.take i).map (fun p => p)) ∧ Below W4.heap.size W4 wr) (fun _ c _ => x.l.length - (intOf c).toNat)
        case atStart => exact ⟨0, _, Nat.zero_le _, rfl, rfl, PtRowB.nil _ _, Below.refl _ _⟩
        case round =>
          obtain ⟨i, v8, hi, rfl, rfl, hrow, hb5⟩ := hrel
          obtain ⟨W5, hW5⟩ : ∃ W5, W5 = wr := ⟨_, rfl⟩
          subst hW5
          have HROW := Lib.hid hrow
          have HB45 := Lib.hid hb5
          have HPT5 := Lib.hid (HPT4.out.beyond hb5)
          clear hrow hb5
          by_cases hil : i < x.l.length
          · have ea := HUA.out (by intro h; simp [h] at hil)
            subst ea
            obtain ⟨q, hq⟩ : ∃ q, x.l[i]? = some q := ⟨x.l[i], List.getElem?_eq_getElem hil⟩
            obtain ⟨c0, c1⟩ := HPT5.out i q hq
            have HQK := Lib.hid hq
            clear hq
            go_upto_region 13 with fail
            refine wp_name fun W6 hW6 => ?_
            obtain ⟨M2, hM2⟩ : ∃ M2, M2 = W5.heap.size := ⟨_, rfl⟩
            have hb6 : Below W5.heap.size W5 W6 := by rw [hW6.out]; exact (Below.refl _ _).alloc (Nat.le_refl _) _
            have p0 : W6.heap[M2]? = some (.cells #[.int .i64 q.a, .int .i64 q.v] 31 (0, 0)) := by rw [hW6.out, hM2]; exact heap_alloc_new W5 _
            obtain ⟨d0, d1, -, -⟩ := ptcells p0
            have HROW6 := Lib.hid (HROW.out.keep hb6)
            have HB46 := Lib.hid (HB45.out.trans (hb6.mono HB45.out.size))
            rw [← hM2]
            clear hW6 hM2 hb6 p0 c0 c1 HROW HB45 HPT5
            go_wp2_with fail
            refine (valF3 W6 q).mono ?_
            rintro e W7 ⟨rfl, hb⟩
            have HROW7 := Lib.hid (HROW6.out.keep hb)
            have HB47 := Lib.hid (HB46.out.trans (hb.mono HB46.out.size))
            clear hb d0 d1 HROW6 HB46
            obtain ⟨G, hG⟩ : ∃ G, G = (fun p => p) q := ⟨_, rfl⟩
            have HGQ := Lib.hid hG
            obtain rfl : G = q := hG
            skip
            dsimp only
            have hb8 : Below W7.heap.size W7 (W7.alloc (.cells #[.int .i64 G.a, .int .i64 G.v] 31)) := (Below.refl _ _).alloc (Nat.le_refl _) _
            have HRW := Lib.hid (HROW7.out.keep hb8)
            have HB4W := Lib.hid (HB47.out.trans (hb8.mono HB47.out.size))
            have HSR := Lib.hid (src_lies (builtV_lies W7 [G]) (by simp))
            clear hb8
            go_wp2_with (at_builtin; refine wpList_append_pts rfl (.tmp 31) (.tmp 35) rfl W4.heap.size _ _ rfl HRW.out _ [G] rfl HSR.out (by rw [List.length_map, List.length_take]; simp; omega) HB4W.out.size ?_; intro v9 W9 HROW9 hgrow; have HB49 : Hid (Below W4.heap.size W4 W9) := Lib.hid (HB4W.out.grown hgrow.out HB4W.out.size (fun b hb => (HRW.out.lt b hb).1)); clear hgrow)
            have HRN : Hid (PtRowB W4.heap.size W9 v9 ((x.l.take (i + 1)).map (fun p => p))) := Lib.hid (by rw [take_snoc HQK.out, List.map_append]; exact HROW9.out)
            go_roundw
            case rel => exact ⟨i + 1, _, by omega, by go_num, rfl, HRN.out, HB49.out⟩
            case measure => simp [intOf]; omega
          · obtain rfl : i = x.l.length := by omega
            have hsit := (HS4.out.keep HB45.out)
            have hrl : PLies W5 v8 (x.l.map (fun p => p)) := by have h := HROW.out.plies; rwa [List.take_of_length_le (Nat.le_refl _)] at h
            have hput := D.put hsit.sit hrl HFG.out (by rw [List.length_map]; omega)
            have HPU := Lib.hid hput
            have HS5 := Lib.hid hsit
            have HB5 := Lib.hid (HB4.out.trans (HB45.out.mono HB4.out.size))
            clear hsit hrl hput HROW HB45 HPT5
            go_wp2_with fail
            refine (HPU.out).mono ?_
            rintro e W6 ⟨rfl, h1, h2, h3⟩
            have hst := HS5.out.step HB5.out.size h1 h2 h3
            have HS6 := Lib.hid hst.1
            have HB6 := Lib.hid (HB5.out.trans hst.2)
            clear h1 h2 h3 hst HPU HS5 HB5
            dsimp only
            go_wp2
            have HOUT : Hid (OneS D w.heap.size W6 p (playT ((L.take (j + 1)).map (mapAct (fun p => p)))) ∧ Below w.heap.size w W6) := Lib.hid ⟨by rw [HPN.out]; exact HS6.out, HB6.out⟩
            go_roundw
            case rel => exact ⟨j + 1, by omega, by go_num, HOUT.out⟩
            case measure => simp [intOf]; omega
      have t2 : (x.kind == 2) = false := by simpa using hk
      have HK2 := Lib.hid hk
      clear hk
      by_cases hk : x.kind = 3
      · have HPN : Hid (playT ((L.take (j + 1)).map (mapAct (fun p => p))) = rollT s x.at_) := Lib.hid (by rw [take_snoc HXK.out, List.map_append, List.map_singleton, playT_snoc, HSE.out]; exact stepT_roll (x := mapAct (fun p => p) x) (by show _ ∧ _; simp [mapAct, hk]))
        have t0 : (x.kind == 0) = false := by rw [hk]; rfl
        have t1 : (x.kind == 1) = false := by rw [hk]; rfl
        have t2 : (x.kind == 2) = false := by rw [hk]; rfl
        have t3 : (x.kind == 3) = true := by rw [hk]; rfl
        clear hk
        go_wp2_with fail
        refine (D.roll HS4.out.sit HXI.out.t0 HXI.out.t1).mono ?_
        rintro e W6 ⟨rfl, h1, h2, h3⟩
        have hst := HS4.out.step HB4.out.size h1 h2 h3
        have HS6 := Lib.hid hst.1
        have HB6 := Lib.hid (HB4.out.trans hst.2)
        clear h1 h2 h3 hst
        dsimp only
        go_wp2
        have HOUT : Hid (OneS D w.heap.size W6 p (playT ((L.take (j + 1)).map (mapAct (fun p => p)))) ∧ Below w.heap.size w W6) := Lib.hid ⟨by rw [HPN.out]; exact HS6.out, HB6.out⟩
        go_roundw
        case rel => exact ⟨j + 1, by omega, by go_num, HOUT.out⟩
        case measure => simp [intOf]; omega
      have t3 : (x.kind == 3) = false := by simpa using hk
      have HK3 := Lib.hid hk
      clear hk
      by_cases hk : x.kind = 4
      · have HPN : Hid (playT ((L.take (j + 1)).map (mapAct (fun p => p))) = rollT s x.at_) := Lib.hid (by rw [take_snoc HXK.out, List.map_append, List.map_singleton, playT_snoc, HSE.out]; exact stepT_roll (x := mapAct (fun p => p) x) (by show _ ∧ _; simp [mapAct, hk]))
        have t0 : (x.kind == 0) = false := by rw [hk]; rfl
        have t1 : (x.kind == 1) = false := by rw [hk]; rfl
        have t2 : (x.kind == 2) = false := by rw [hk]; rfl
        have t3 : (x.kind == 3) = false := by rw [hk]; rfl
        have t4 : (x.kind == 4) = true := by rw [hk]; rfl
        clear hk
        go_wp2_with fail
        refine (D.roll HS4.out.sit HXI.out.t0 HXI.out.t1).mono ?_
        rintro e W6 ⟨rfl, h1, h2, h3⟩
        have hst := HS4.out.step HB4.out.size h1 h2 h3
        have HS6 := Lib.hid hst.1
        have HB6 := Lib.hid (HB4.out.trans hst.2)
        clear h1 h2 h3 hst
        dsimp only
        go_wp2
        have HOUT : Hid (OneS D w.heap.size W6 p (playT ((L.take (j + 1)).map (mapAct (fun p => p)))) ∧ Below w.heap.size w W6) := Lib.hid ⟨by rw [HPN.out]; exact HS6.out, HB6.out⟩
        go_roundw
        case rel => exact ⟨j + 1, by omega, by go_num, HOUT.out⟩
        case measure => simp [intOf]; omega
      have t4 : (x.kind == 4) = false := by simpa using hk
      have HK4 := Lib.hid hk
      clear hk
      by_cases hk : x.kind = 5
      · have HPN : Hid (playT ((L.take (j + 1)).map (mapAct (fun p => p))) = purgeT s x.a x.b) := Lib.hid (by rw [take_snoc HXK.out, List.map_append, List.map_singleton, playT_snoc, HSE.out]; exact stepT_purge (x := mapAct (fun p => p) x) hk)
        have t0 : (x.kind == 0) = false := by rw [hk]; rfl
        have t1 : (x.kind == 1) = false := by rw [hk]; rfl
        have t2 : (x.kind == 2) = false := by rw [hk]; rfl
        have t3 : (x.kind == 3) = false := by rw [hk]; rfl
        have t4 : (x.kind == 4) = false := by rw [hk]; rfl
        have t5 : (x.kind == 5) = true := by rw [hk]; rfl
        clear hk
        go_wp2_with fail
        refine (D.purge HS4.out.sit HXI.out.a0 HXI.out.a1 HXI.out.b0 HXI.out.b1).mono ?_
        rintro e W6 ⟨rfl, h1, h2, h3⟩
        have hst := HS4.out.step HB4.out.size h1 h2 h3
        have HS6 := Lib.hid hst.1
        have HB6 := Lib.hid (HB4.out.trans hst.2)
        clear h1 h2 h3 hst
        dsimp only
        go_wp2
        have HOUT : Hid (OneS D w.heap.size W6 p (playT ((L.take (j + 1)).map (mapAct (fun p => p)))) ∧ Below w.heap.size w W6) := Lib.hid ⟨by rw [HPN.out]; exact HS6.out, HB6.out⟩
        go_roundw
        case rel => exact ⟨j + 1, by omega, by go_num, HOUT.out⟩
        case measure => simp [intOf]; omega
      have t5 : (x.kind == 5) = false := by simpa using hk
      have HK5 := Lib.hid hk
      clear hk
      have HPN : Hid (playT ((L.take (j + 1)).map (mapAct (fun p => p))) = s) := Lib.hid (by rw [take_snoc HXK.out, List.map_append, List.map_singleton, playT_snoc, HSE.out]; exact stepT_none (x := mapAct (fun p => p) x) (by show ¬ (0 ≤ x.kind ∧ x.kind ≤ 5); have := HK0.out; have := HK1.out; have := HK2.out; have := HK3.out; have := HK4.out; have := HK5.out; omega))
      go_wp2
      have HOUT : Hid (OneS D w.heap.size W4 p (playT ((L.take (j + 1)).map (mapAct (fun p => p)))) ∧ Below w.heap.size w W4) := Lib.hid ⟨by rw [HPN.out]; exact HS4.out, HB4.out⟩
      go_roundw
      case rel => exact ⟨j + 1, by omega, by go_num, HOUT.out⟩
      case measure => simp [intOf]; omega
    · obtain rfl : j = L.length := by omega
      have HEND : Hid (s = playT (L.map (mapAct (fun p => p)))) := Lib.hid (by rw [← HSE.out, List.take_of_length_le (Nat.le_refl _)])
      go_wp2
      go_ret
      exact ⟨p, rfl, by rw [← HEND.out]; exact HS3.out, HB3.out⟩
end Go.Proofs.Ytmpphidiofhnlaa
