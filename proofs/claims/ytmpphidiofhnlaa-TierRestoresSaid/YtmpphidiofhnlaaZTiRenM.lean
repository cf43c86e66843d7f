/- Package tier: renew of Mid. Written by py/ti-ren.py. -/
import Derived.Test.YtmpphidiofhnlaaZTiRen0
import Derived.Deep.DeepCutAuto
namespace Go.Proofs.Ytmpphidiofhnlaa
open Go.RowKit

set_option maxHeartbeats 16000000 in
set_option maxRecDepth 1000000 in
theorem tiren_mid {w : World} {p sp B : Nat} {v vm vl : Value} {s : Stk} (h : TSit w p sp v vm vl s) (a b : Int) {f : Ag → Ag} {g : Ag → Bool} {P : Ag → Option Ag}
    (hP : ∀ x ∈ s.mid, P x = if (decide (a < b) && metA 300 a b x.at_) = true then (if g x = true then some (f x) else none) else some x)
    (hco : ∀ V, Below w.heap.size w V → ∀ x ∈ s.mid, Calls Try.prog 30 #[.agg #[.int .i64 x.at_, .int .i64 (x.at_ + 300)], .pointer (some ⟨B, 0, none⟩)] V fun e w' => e = .returned (.tuple #[agV (f x), .bool (g x)]) ∧ Below V.heap.size V w')
    (hgd : GoodT ⟨s.raw, s.mid.filterMap P, s.long, s.mm, s.ml⟩) :
    Calls Try.prog 29 #[.pointer (some ⟨p, 0, none⟩), .int .i64 1, .agg #[.int .i64 a, .int .i64 b], .func (.func 30) #[] #[.pointer (some ⟨B, 0, none⟩)]] w fun e w' => e = .returned (.tuple #[]) ∧ Turned w w' p sp v vm vl ⟨s.raw, s.mid.filterMap P, s.long, s.mm, s.ml⟩ := by
  have hlen := h.good.mid.len
  have HOF : Hid (∀ V x, x ∈ s.mid → Calls Try.prog 45 #[.int .i64 1, .int .i64 x.at_] V fun e w' => e = .returned (.agg #[.int .i64 x.at_, .int .i64 (x.at_ + 300)]) ∧ Below V.heap.size V w') := Lib.hid fun V x hx => by
    have hf := h.good.mid.fits x hx
    have hq := met_win (a := a) (b := b) (t := 1) (W := 300) (.inl ⟨rfl, rfl⟩) h.good.mid h.good.mm.2.1 hx
    have := wiof_any V 1 x.at_ (by omega) (by omega) hf.a0 hf.a1
    rwa [hq.1, hq.2.1] at this
  have HME : Hid (∀ V x, x ∈ s.mid → Calls Try.prog 44 #[.agg #[.int .i64 x.at_, .int .i64 (x.at_ + 300)], .agg #[.int .i64 a, .int .i64 b]] V fun e w' => e = .returned (.bool (decide (a < b) && metA 300 a b x.at_)) ∧ Below V.heap.size V w') := Lib.hid fun V x hx => by
    have := wimeets_any V x.at_ (x.at_ + 300) a b
    rwa [(met_win (a := a) (b := b) (t := 1) (W := 300) (.inl ⟨rfl, rfl⟩) h.good.mid h.good.mm.2.1 hx).2.2] at this
  have HT := Lib.hid h
  have HCO := Lib.hid hco
  have HP := Lib.hid hP
  have HGD := Lib.hid hgd
  have HLI := Lib.hid h.mid.lies
  obtain ⟨-, -, ca, -, -, -, -⟩ := h.cells
  obtain ⟨am, cm, e0⟩ := own_slice h.mid
  obtain ⟨L, hL⟩ : ∃ L, L = s.mid := ⟨_, rfl⟩
  have HLE := Lib.hid hL
  rw [← hL] at hlen HOF HME HCO HP HGD HLI e0 ⊢
  rw [e0] at ca HLI
  have HE0 := Lib.hid e0
  clear h hco hP hgd hL e0
  go_enter Try.func29, Try.ntmps29
  go_upto_region 2 with fail
  refine wp_name fun W1 hW1 => ?_
  obtain ⟨R, hR⟩ : ∃ R, R = w.heap.size := ⟨_, rfl⟩
  have hb1 : Below w.heap.size w W1 := by rw [hW1.out]; exact (Below.refl _ _).alloc (Nat.le_refl _) _
  have HR1 : Hid (RgAt W1 R a b) := Lib.hid (by rw [hW1.out, hR]; exact RgAt.new w a b)
  have HB1 := Lib.hid hb1
  have HRL : Hid (R < W1.heap.size) := Lib.hid (lt_of_block HR1.out)
  replace ca := (hb1.cell (p := ⟨p, 2, none⟩) (cell_lt ca)).trans ca
  rw [← hR]
  clear hW1 hb1 hR
  go_wp2_with fail
  go_loopw [8, 20] (fun vv c wr => ∃ (k : Nat) (v9 : Value), k ≤ L.length ∧ c = .int .i64 k ∧ v9 = vv ∧ AgRow W1.heap.size wr v9 ((L.take k).filterMap P) ∧ Below W1.heap.size W1 wr) (fun _ c _ => L.length - (intOf c).toNat)
  case atStart => exact ⟨0, _, Nat.zero_le _, rfl, rfl, by simp only [List.take_zero, List.filterMap_nil]; exact AgRow.nil _ _, Below.refl _ _⟩
  case round =>
    clear ca
    obtain ⟨k, v9, hk, rfl, rfl, hrow, hbb⟩ := hrel
    obtain ⟨W2, hW2⟩ : ∃ W2, W2 = wr := ⟨_, rfl⟩
    subst hW2
    have HROW2 := Lib.hid hrow
    have HBB2 := Lib.hid hbb
    clear hrow hbb
    by_cases hlt : k < L.length
    · obtain ⟨x, hx⟩ : ∃ x, L[k]? = some x := ⟨L[k], List.getElem?_eq_getElem hlt⟩
      have HXM := Lib.hid (List.mem_of_getElem? hx)
      have HOX := Lib.hid fun V => HOF.out V x HXM.out
      have HMX := Lib.hid fun V => HME.out V x HXM.out
      have HCX : Hid (∀ V, Below W1.heap.size W1 V → Calls Try.prog 30 #[.agg #[.int .i64 x.at_, .int .i64 (x.at_ + 300)], .pointer (some ⟨B, 0, none⟩)] V fun e w' => e = .returned (.tuple #[agV (f x), .bool (g x)]) ∧ Below V.heap.size V w') := Lib.hid fun V hb => HCO.out V (HB1.out.trans (hb.mono HB1.out.size)) x HXM.out
      have HPX := Lib.hid (HP.out x HXM.out)
      obtain ⟨Z, hZ⟩ : ∃ Z, Z = x.at_ + 300 := ⟨_, rfl⟩
      obtain ⟨F, hF⟩ : ∃ F, F = (decide (a < b) && metA 300 a b x.at_) := ⟨_, rfl⟩
      rw [← hF] at HMX HPX
      rw [← hZ] at HOX HMX HCX
      clear hZ hF
      have hly : ALies W2 (.slice am L.length cm) L := HLI.out.beyond (HB1.out.trans (HBB2.out.mono HB1.out.size))
      obtain ⟨a', b', off, cap, e1, hadr, hpts⟩ := hly
      injection e1 with e1 e2 e3
      have ea := hadr (by intro h0; simp [h0] at hlt)
      rw [← e1] at ea
      subst ea
      obtain ⟨c0, c1, c2, c3, c4⟩ := hpts k x hx
      have HXK := Lib.hid hx
      have HTK : Hid ((L.take (k + 1)).filterMap P = (L.take k).filterMap P ++ (P x).toList) := Lib.hid (by rw [take_snoc hx, List.filterMap_append]; cases hp : P x <;> simp [hp])
      have HLT : Hid (((L.take k).filterMap P).length ≤ 256) := Lib.hid (Nat.le_trans (List.length_filterMap_le _ _) (by rw [List.length_take]; omega))
      have hmax : k < 9223372036854775807 := by omega
      clear hx hadr hpts e1 e2 e3
      go_upto_region 5 with fail
      refine wp_name fun W3 hW3 => ?_
      obtain ⟨M, hM⟩ : ∃ M, M = W2.heap.size := ⟨_, rfl⟩
      have hb3 : Below W2.heap.size W2 W3 := by rw [hW3.out]; exact (Below.refl _ _).alloc (Nat.le_refl _) _
      have HA3 : Hid (AgAt W3 M x) := Lib.hid (by rw [hW3.out, hM]; exact AgAt.new W2 x)
      have HMB : Hid (W1.heap.size ≤ M) := Lib.hid (by rw [hM]; exact HBB2.out.size)
      have HROW3 := Lib.hid (HROW2.out.keep hb3)
      have HBB3 := Lib.hid (HBB2.out.trans (hb3.mono HBB2.out.size))
      have HFA3 : Hid (v9.ownBlock ≠ some M) := Lib.hid (fun e => by have := (HROW2.out.lt M e).2; omega)
      rw [← hM]
      clear hb3 hW3 hM HROW2 HBB2 c0 c1 c2 c3 c4
      obtain ⟨c0, -, -, -, -, -, -, -, -, -⟩ := HA3.out.cells
      go_wp2_with fail
      refine (HOX.out W3).mono ?_
      rintro e W4 ⟨rfl, hb4⟩
      have HA4 := Lib.hid (HA3.out.keep hb4)
      have HROW4 := Lib.hid (HROW3.out.keep hb4)
      have HBB4 := Lib.hid (HBB3.out.trans (hb4.mono HBB3.out.size))
      clear hb4 c0 HA3 HROW3 HBB3
      dsimp only
      go_upto_region 7 with fail
      refine wp_name fun W5 hW5 => ?_
      obtain ⟨N, hN⟩ : ∃ N, N = W4.heap.size := ⟨_, rfl⟩
      have hb5 : Below W4.heap.size W4 W5 := by rw [hW5.out]; exact (Below.refl _ _).alloc (Nat.le_refl _) _
      have HG5 : Hid (RgAt W5 N x.at_ Z) := Lib.hid (by rw [hW5.out, hN]; exact RgAt.new W4 x.at_ Z)
      have HA5 := Lib.hid (HA4.out.keep hb5)
      have HROW5 := Lib.hid (HROW4.out.keep hb5)
      have HBB5 := Lib.hid (HBB4.out.trans (hb5.mono HBB4.out.size))
      rw [← hN]
      clear hb5 hW5 hN HA4 HROW4 HBB4
      obtain ⟨g0, g1, -, -⟩ := HG5.out.cells
      have r0 : W5.cell? ⟨R, 0, none⟩ = some (.int .i64 a) := (HBB5.out.cell (p := ⟨R, 0, none⟩) HRL.out).trans HR1.out.cells.1
      have r1 : W5.cell? ⟨R, 1, none⟩ = some (.int .i64 b) := (HBB5.out.cell (p := ⟨R, 1, none⟩) HRL.out).trans HR1.out.cells.2.1
      go_wp2_with fail
      refine (HMX.out W5).mono ?_
      rintro e W6 ⟨rfl, hb6⟩
      have HG6 := Lib.hid (HG5.out.keep hb6)
      have HA6 := Lib.hid (HA5.out.keep hb6)
      have HROW6 := Lib.hid (HROW5.out.keep hb6)
      have HBB6 := Lib.hid (HBB5.out.trans (hb6.mono HBB5.out.size))
      clear hb6 g0 g1 r0 r1 HG5 HA5 HROW5 HBB5
      dsimp only
      cases F with
      | false =>
        have HNX : Hid ((L.take (k + 1)).filterMap P = (L.take k).filterMap P ++ [x]) := Lib.hid (by rw [HTK.out, HPX.out]; rfl)
        obtain ⟨c0, c1, c2, c3, c4, -, -, -, -, -⟩ := HA6.out.cells
        have HNEW := Lib.hid (AgAt.new W6 x)
        have HRW := Lib.hid (HROW6.out.keep ((Below.refl W6.heap.size W6).alloc (Nat.le_refl _) (.cells #[.int .i64 x.at_, .int .i64 x.n, .int .i64 x.s, .int .i64 x.lo, .int .i64 x.hi] 53)))
        have HBX := Lib.hid (HBB6.out.alloc HBB6.out.size (.cells #[.int .i64 x.at_, .int .i64 x.n, .int .i64 x.s, .int .i64 x.lo, .int .i64 x.hi] 53))
        go_wp2_with (at_builtin; refine wpList_append_ag rfl (.tmp 38) (.tmp 40) rfl W1.heap.size _ _ rfl HRW.out W6.heap.size x rfl HNEW.out (by have := HLT.out; omega) HBX.out.size ?_; intro v10 W10 HROW10 hgrow; have HBB10 : Hid (Below W1.heap.size W1 W10) := Lib.hid (HBX.out.grown hgrow.out HBX.out.size (fun b hb => (HRW.out.lt b hb).1)); clear hgrow)
        go_roundw
        case rel => exact ⟨k + 1, _, by omega, by go_num, rfl, by rw [HNX.out]; exact HROW10.out, HBB10.out⟩
        case measure => simp [intOf]; omega
      | true =>
        obtain ⟨g0, g1, -, -⟩ := HG6.out.cells
        have hcx := HCX.out W6 HBB6.out
        obtain ⟨y, hy⟩ : ∃ y, y = f x := ⟨_, rfl⟩
        obtain ⟨G, hG⟩ : ∃ G, G = g x := ⟨_, rfl⟩
        rw [← hy, ← hG] at hcx HPX
        unfold agV at hcx
        have HC6 := Lib.hid hcx
        clear hcx hy hG HCX
        go_wp2_with fail
        refine HC6.out.mono ?_
        rintro e W7 ⟨rfl, hb7⟩
        have HA7 := Lib.hid (HA6.out.keep hb7)
        have HROW7 := Lib.hid (HROW6.out.keep hb7)
        have HBB7 := Lib.hid (HBB6.out.trans (hb7.mono HBB6.out.size))
        clear hb7 g0 g1 HG6 HA6 HROW6 HBB6
        dsimp only
        obtain ⟨c0, c1, c2, c3, c4, f0, f1, f2, f3, f4⟩ := HA7.out.cells
        go_upto_region 9 with fail
        refine wp_name fun W8 hW8 => ?_
        have HA8 : Hid (AgAt W8 M y) := Lib.hid (by rw [hW8.out]; exact setAg_at HA7.out y)
        have HO8 : Hid (Only (fun k => k = M) W7 W8) := Lib.hid (by rw [hW8.out]; exact setAg_only W7 M y)
        have HROW8 : Hid (AgRow W1.heap.size W8 v9 ((L.take k).filterMap P)) := Lib.hid (row_only HROW7.out HO8.out (fun k hk e => HFA3.out (by rw [hk, e])))
        have HBB8 : Hid (Below W1.heap.size W1 W8) := Lib.hid (HBB7.out.trans (HO8.out.below HBB7.out.size (fun k hk => by rw [hk]; exact HMB.out)))
        clear hW8 c0 c1 c2 c3 c4 f0 f1 f2 f3 f4 HA7 HROW7 HBB7
        cases G with
        | true =>
          have HNX : Hid ((L.take (k + 1)).filterMap P = (L.take k).filterMap P ++ [y]) := Lib.hid (by rw [HTK.out, HPX.out]; rfl)
          obtain ⟨c0, c1, c2, c3, c4, -, -, -, -, -⟩ := HA8.out.cells
          have HNEW := Lib.hid (AgAt.new W8 y)
          have HRW := Lib.hid (HROW8.out.keep ((Below.refl W8.heap.size W8).alloc (Nat.le_refl _) (.cells #[.int .i64 y.at_, .int .i64 y.n, .int .i64 y.s, .int .i64 y.lo, .int .i64 y.hi] 53)))
          have HBX := Lib.hid (HBB8.out.alloc HBB8.out.size (.cells #[.int .i64 y.at_, .int .i64 y.n, .int .i64 y.s, .int .i64 y.lo, .int .i64 y.hi] 53))
          go_wp2_with (at_builtin; refine wpList_append_ag rfl (.tmp 38) (.tmp 40) rfl W1.heap.size _ _ rfl HRW.out W8.heap.size y rfl HNEW.out (by have := HLT.out; omega) HBX.out.size ?_; intro v10 W10 HROW10 hgrow; have HBB10 : Hid (Below W1.heap.size W1 W10) := Lib.hid (HBX.out.grown hgrow.out HBX.out.size (fun b hb => (HRW.out.lt b hb).1)); clear hgrow)
          go_roundw
          case rel => exact ⟨k + 1, _, by omega, by go_num, rfl, by rw [HNX.out]; exact HROW10.out, HBB10.out⟩
          case measure => simp [intOf]; omega
        | false =>
          have HNX : Hid ((L.take (k + 1)).filterMap P = (L.take k).filterMap P) := Lib.hid (by rw [HTK.out, HPX.out]; exact List.append_nil _)
          go_wp2_with fail
          go_roundw
          case rel => exact ⟨k + 1, _, by omega, by go_num, rfl, by rw [HNX.out]; exact HROW8.out, HBB8.out⟩
          case measure => simp [intOf]; omega
    · obtain rfl : k = L.length := by omega
      have HEND : Hid ((L.take L.length).filterMap P = L.filterMap P) := Lib.hid (by rw [List.take_length])
      have HTW := Lib.hid (HT.out.keep (HB1.out.trans (HBB2.out.mono HB1.out.size)))
      obtain ⟨-, -, ca, -, -, -, -⟩ := HTW.out.cells
      rw [HE0.out] at ca
      have fa := HTW.out.free 2
      have hrow := HROW2.out
      rw [HEND.out] at hrow
      obtain ⟨n9, hn9⟩ : ∃ n9, n9 = (L.filterMap P).length := ⟨_, rfl⟩
      obtain ⟨a9, c9, e9⟩ := own_slice hrow
      rw [← hn9] at e9
      subst e9
      have HRE := Lib.hid hrow
      clear hrow hn9
      go_wp2_with fail
      go_end0
      refine ⟨rfl, ?_⟩
      exact HT.out.ren_mid (HB1.out.trans (HBB2.out.mono HB1.out.size)) HB1.out.size HRE.out rfl HGD.out
end Go.Proofs.Ytmpphidiofhnlaa
