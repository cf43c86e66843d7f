/- Package tier: advance of Mid. Written by py/ti-adv.py. -/
import Derived.Test.YtmpphidiofhnlaaZTiAdv0
import Derived.Deep.RegionLaw
namespace Go.Proofs.Ytmpphidiofhnlaa
open Go.RowKit

set_option maxHeartbeats 16000000 in
set_option maxRecDepth 1000000 in
theorem tiadv_mid {w : World} {p sp B : Nat} {v vm vl : Value} {s : Stk} (h : TSit w p sp v vm vl s) {tu : Int} (h0 : -9223372036854775808 ≤ tu) (h1 : tu ≤ 9223372036854775807) {L : List Ag} (hL : L.length ≤ 1000)
    (hco : ∀ V, Below w.heap.size w V → Calls Try.prog 39 #[.agg #[.int .i64 s.mm, .int .i64 (max s.mm (startW 1 tu))], .pointer (some ⟨B, 0, none⟩)] V fun e w' => ∃ v', e = .returned v' ∧ AgRow V.heap.size w' v' L ∧ Below V.heap.size V w')
    (hgd : GoodT ⟨s.raw, s.mid ++ L.take (256 - s.mid.length), s.long, advE s.mid.length L (max s.mm (startW 1 tu)), s.ml⟩) :
    Calls Try.prog 38 #[.pointer (some ⟨p, 0, none⟩), .int .i64 1, .int .i64 tu, .func (.func 39) #[] #[.pointer (some ⟨B, 0, none⟩)]] w fun e w' => e = .returned (.tuple #[.int .i64 ((L.take (256 - s.mid.length)).length : Nat), .bool (decide (256 - s.mid.length < L.length))]) ∧ Turned w w' p sp v vm vl ⟨s.raw, s.mid ++ L.take (256 - s.mid.length), s.long, advE s.mid.length L (max s.mm (startW 1 tu)), s.ml⟩ := by
  have HST := Lib.hid (wistart_any w 1 tu (by omega) (by omega) h0 h1)
  have hn := h.good.mid.len
  have HCO := Lib.hid hco
  have HGD := Lib.hid hgd
  have HLL := Lib.hid hL
  obtain ⟨am, cm, e0⟩ := own_slice h.mid
  subst e0
  obtain ⟨n, hnn⟩ : ∃ n, n = s.mid.length := ⟨_, rfl⟩
  rw [← hnn] at h hn HGD ⊢
  have HNN := Lib.hid hnn
  have HT := Lib.hid h
  obtain ⟨M, hM⟩ : ∃ M, M = s.mm := ⟨_, rfl⟩
  obtain ⟨S, hS⟩ : ∃ S, S = startW 1 tu := ⟨_, rfl⟩
  rw [← hM, ← hS] at HGD HCO
  rw [← hM, ← hS]
  rw [← hS] at HST
  have HMM := Lib.hid hM
  obtain ⟨-, -, ca, -, -, cb, -⟩ := h.cells
  rw [← hM] at cb
  obtain ⟨E, hE⟩ : ∃ E, E = max M S := ⟨_, rfl⟩
  rw [← hE] at HGD HCO ⊢
  obtain ⟨K, hK⟩ : ∃ K, K = 256 - n := ⟨_, rfl⟩
  rw [← hK] at HGD ⊢
  have hw : IntKind.i64.wrap (256 - (n : Int)) = (K : Int) := by rw [IntKind.wrap_i64]; omega
  have HKN : Hid (K = 256 - n) := Lib.hid hK
  have hme : max M S = E := hE.symm
  clear h hco hgd hL hnn hM hS hE h0 h1 hK
  go_enter Try.func38, Try.ntmps38
  go_wp2_with fail
  refine HST.out.mono ?_
  rintro e Wx ⟨rfl, hw'⟩; replace hw' := hw'.symm; subst hw'
  dsimp only
  clear HST
  go_wp2_with fail
  refine (HCO.out w (Below.refl _ _)).mono ?_
  rintro e W2 ⟨v2, rfl, hr2, hb2⟩
  have HB2 := Lib.hid hb2
  have HT2 := Lib.hid (HT.out.keep hb2)
  have HR2 := Lib.hid hr2
  clear hb2 hr2 ca cb HCO
  obtain ⟨-, -, ca, -, -, cb, -⟩ := HT2.out.cells
  clear cb
  dsimp only
  by_cases hfull : K < L.length
  · obtain ⟨x, hx⟩ : ∃ x, L[K]? = some x := ⟨L[K], List.getElem?_eq_getElem hfull⟩
    have HADV : Hid (advE n L E = x.at_) := Lib.hid (by unfold advE; rw [← HKN.out, hx])
    have HG : Hid (SrcA W2 v2 L) := Lib.hid HR2.out.src
    rcases HR2.out.opened with ⟨-, e1⟩ | ⟨g, cap, R, e1, hgB, hgr, hR, hnc, hcm⟩
    · exfalso; rw [e1] at hfull; simp at hfull
    have htk := srcA_take HR2.out (n := K) (by omega)
    subst e1
    have hc0 : W2.cell? ⟨g, K * 5, none⟩ = some (.int .i64 x.at_) := by
      have h5 := flatA_get hx 0 (by omega)
      rw [Nat.add_zero] at h5
      exact hgr.cell (by rw [List.getElem?_append_left (List.getElem?_eq_some_iff.1 h5).1]; exact h5)
    have HXC := Lib.hid hc0
    have HSR : Hid (SrcA W2 (.slice (some ⟨g, 0, none⟩) K cap) (L.take K)) := Lib.hid (by
      obtain ⟨ad, cap', e2, -, h3⟩ := htk
      injection e2 with e2 e3 e4
      subst e2 e4
      rcases h3 with ⟨h3, -⟩ | h3
      · cases h3
      · exact h3)
    obtain ⟨m, hm⟩ : ∃ m, m = L.length := ⟨_, rfl⟩
    have HML := Lib.hid hm
    rw [← hm] at hfull hnc ⊢
    clear hm hx hgr hR htk hc0 hgB hcm
    have d1 : decide ((K : Int) < (m : Int)) = true := decide_eq_true (by omega)
    have d2 : decide (K < m) = true := decide_eq_true hfull
    have d3 : (K : Int) ≤ (cap : Int) := by omega
    have d4 : K ≤ cap := by omega
    go_wp2_with fail
    go_region_held3 (fun w' => w'.cell? ⟨g, K * 5, none⟩ = some (.int .i64 x.at_)) (first | exact HXC.out) (fail)
    go_upto_region 7 with fail
    refine wp_name fun W3 hW3 => ?_
    have HB3 : Hid (Below w.heap.size w W3) := Lib.hid (by rw [hW3.out]; exact below_drew HB2.out)
    obtain ⟨G, hG⟩ : ∃ G, G = L.take K := ⟨_, rfl⟩
    have HSRC : Hid (SrcA W3 (.slice (some ⟨g, 0, none⟩) K cap) G) := Lib.hid (by rw [hG]; exact HSR.out.keep (by rw [hW3.out]; exact below_drew (Below.refl _ W2)))
    have HGLEN : Hid (G.length = K) := Lib.hid (by rw [hG, List.length_take, ← HML.out]; omega)
    have HGL : Hid (s.mid.length + G.length ≤ 1000000) := Lib.hid (by rw [HGLEN.out, ← HNN.out]; have := HKN.out; omega)
    rw [HADV.out, ← hG] at HGD
    have HGE := Lib.hid hG
    clear hW3 hG ca HT2 HB2 HR2 HG HXC HSR
    have HBW3 : Hid (Below w.heap.size w W3) := HB3
    have HT3 := Lib.hid (HT.out.keep HBW3.out)
    obtain ⟨-, -, x3, -, -, y3, -⟩ := HT3.out.cells
    rw [← HMM.out] at y3
    have HX3 := Lib.hid x3
    have HY3 := Lib.hid y3
    clear y3
    go_region_law (refine step_append_ags rfl (.tmp 57) (.tmp 58) rfl 0 (.slice am n cm) s.mid (by simp [Act.eval]) HT3.out.drew.mid (.slice (some ⟨g, 0, none⟩) K cap) G (by simp [Act.eval]) (SrcA.keep HSRC.out (below_drew (Below.refl _ W3))) HGL.out (Nat.zero_le _) ?_; intro v8 W8 HROW8 HGR8 HWH8; have c8 : W8.cell? ⟨p, 2, none⟩ = some (.slice am n cm) := (World.cell?_of_block (w := W3.drew) ((Only.grown HGR8.out).block p (lt_of_block HT3.out.at_) HT3.out.nm)).trans HX3.out; have d8 : W8.cell? ⟨p, 5, none⟩ = some (.int .i64 M) := (World.cell?_of_block (w := W3.drew) ((Only.grown HGR8.out).block p (lt_of_block HT3.out.at_) HT3.out.nm)).trans HY3.out; have e8f : ∀ i, W8.frozen? ⟨p, i, none⟩ = false := fun i => frozen_block ((Only.grown HGR8.out).block p (lt_of_block HT3.out.at_) HT3.out.nm) (HT3.out.free i); have f8 := e8f 2; have g8 := e8f 5; clear e8f; have HR8 := Lib.hid HROW8.out; have hrw := HROW8.out; obtain ⟨n8, hn8⟩ : ∃ n8, n8 = (s.mid ++ G).length := ⟨_, rfl⟩; obtain ⟨a8, c8', e8⟩ := own_slice hrw; rw [← hn8] at e8; subst e8; clear hrw hn8 HROW8)
    clear x3
    go_wp2_with fail
    go_ret2
    refine ⟨?_, ?_⟩
    · rw [← HGE.out, HGLEN.out, ← HML.out, decide_eq_true hfull]; rfl
    · rw [HADV.out, ← HGE.out]
      exact Turned.from (below_drew HB3.out) (HT3.out.drew.adv_mid HR8.out HGR8.out HWH8.out rfl HGD.out)
  · have HADV : Hid (advE n L E = E) := Lib.hid (by unfold advE; rw [← HKN.out, List.getElem?_eq_none (by omega)])
    have HSR : Hid (SrcA W2 v2 L) := Lib.hid HR2.out.src
    have hrw := HR2.out
    obtain ⟨ay, cy, e1⟩ := own_slice hrw
    subst e1
    obtain ⟨G, hG⟩ : ∃ G, G = L.take K := ⟨_, rfl⟩
    have hGL : G = L := by rw [hG, List.take_of_length_le (by omega)]
    have HGE := Lib.hid hG
    rw [← hG] at HGD
    obtain ⟨m, hm⟩ : ∃ m, m = L.length := ⟨_, rfl⟩
    have HML := Lib.hid hm
    have HGLEN : Hid (G.length = m) := Lib.hid (by rw [hGL, hm])
    rw [← hm] at hfull
    rw [← hm] at HSR ⊢
    rw [← hGL] at HSR
    have hm1 : m ≤ 1000 := by rw [hm]; exact HLL.out
    clear hm hG hrw hGL HR2
    have d1 : decide ((K : Int) < (m : Int)) = false := decide_eq_false (by omega)
    have d2 : decide (K < m) = false := decide_eq_false hfull
    go_upto_region 7 with fail
    refine wp_name fun W3 hW3 => ?_
    have HB3 : Hid (Below w.heap.size w W3) := Lib.hid (by rw [hW3.out]; exact HB2.out)
    have HSRC : Hid (SrcA W3 (.slice ay m cy) G) := Lib.hid (by rw [hW3.out]; exact HSR.out)
    have HGL : Hid (s.mid.length + G.length ≤ 1000000) := Lib.hid (by rw [HGLEN.out, ← HNN.out]; omega)
    rw [HADV.out] at HGD
    clear hW3 ca HT2 HB2 HSR
    have HBW3 : Hid (Below w.heap.size w W3) := HB3
    have HT3 := Lib.hid (HT.out.keep HBW3.out)
    obtain ⟨-, -, x3, -, -, y3, -⟩ := HT3.out.cells
    rw [← HMM.out] at y3
    have HX3 := Lib.hid x3
    have HY3 := Lib.hid y3
    clear y3
    go_region_law (refine step_append_ags rfl (.tmp 57) (.tmp 58) rfl 0 (.slice am n cm) s.mid (by simp [Act.eval]) HT3.out.drew.mid (.slice ay m cy) G (by simp [Act.eval]) (SrcA.keep HSRC.out (below_drew (Below.refl _ W3))) HGL.out (Nat.zero_le _) ?_; intro v8 W8 HROW8 HGR8 HWH8; have c8 : W8.cell? ⟨p, 2, none⟩ = some (.slice am n cm) := (World.cell?_of_block (w := W3.drew) ((Only.grown HGR8.out).block p (lt_of_block HT3.out.at_) HT3.out.nm)).trans HX3.out; have d8 : W8.cell? ⟨p, 5, none⟩ = some (.int .i64 M) := (World.cell?_of_block (w := W3.drew) ((Only.grown HGR8.out).block p (lt_of_block HT3.out.at_) HT3.out.nm)).trans HY3.out; have e8f : ∀ i, W8.frozen? ⟨p, i, none⟩ = false := fun i => frozen_block ((Only.grown HGR8.out).block p (lt_of_block HT3.out.at_) HT3.out.nm) (HT3.out.free i); have f8 := e8f 2; have g8 := e8f 5; clear e8f; have HR8 := Lib.hid HROW8.out; have hrw := HROW8.out; obtain ⟨n8, hn8⟩ : ∃ n8, n8 = (s.mid ++ G).length := ⟨_, rfl⟩; obtain ⟨a8, c8', e8⟩ := own_slice hrw; rw [← hn8] at e8; subst e8; clear hrw hn8 HROW8)
    clear x3
    go_wp2_with fail
    go_ret2
    refine ⟨?_, ?_⟩
    · rw [← HGE.out, HGLEN.out, ← HML.out, decide_eq_false hfull]; rfl
    · rw [HADV.out, ← HGE.out]
      exact Turned.from (below_drew HB3.out) (HT3.out.drew.adv_mid HR8.out HGR8.out HWH8.out rfl HGD.out)
end Go.Proofs.Ytmpphidiofhnlaa
