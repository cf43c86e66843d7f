/- Package tier: Aggs. -/
import Derived.Test.YtmpphidiofhnlaaZTiAt
import Derived.Test.YtmpphidiofhnlaaMW
import Derived.Test.YtmpphidiofhnlaaMG
import Derived.Test.YtmpphidiofhnlaaMC
namespace Go.Proofs.Ytmpphidiofhnlaa
open Go.RowKit

/-- the window of an aggregate, and whether it has some of a range -/
theorem met_win {t W m a b : Int} {L : List Ag} (ht : t = 1 ∧ W = 300 ∨ t = 2 ∧ W = 3600) (hg : GoodA W m L) (hm : m ≤ 1099511631376) {x : Ag} (hx : x ∈ L) :
    startW t x.at_ = x.at_ ∧ endW t x.at_ = x.at_ + W ∧ meetsR x.at_ (x.at_ + W) a b = (decide (a < b) && metA W a b x.at_) := by
  obtain ⟨h0, h1, h2⟩ := hg.beg x hx
  have hs : startW t x.at_ = x.at_ := by
    rcases ht with ⟨rfl, rfl⟩ | ⟨rfl, rfl⟩
    · rw [start_mid, if_pos h0]; omega
    · rw [start_long, if_pos h0]; omega
  have hw : hasW t x.at_ = true ∧ widthW t = W := by
    rcases ht with ⟨rfl, rfl⟩ | ⟨rfl, rfl⟩ <;> (unfold hasW widthW; simp [h0])
  have hW : 0 < W ∧ W ≤ 3600 := by omega
  refine ⟨hs, ?_, ?_⟩
  · unfold endW
    rw [if_pos hw.1, hs, hw.2, Int.min_eq_left (by omega)]
  · unfold meetsR metA
    rw [Bool.eq_iff_iff]
    simp only [decide_eq_true_eq, Bool.and_eq_true]
    omega
set_option maxHeartbeats 16000000 in
set_option maxRecDepth 1000000 in
theorem tiaggs_of {w : World} {p sp : Nat} {v vm vl : Value} {s : Stk} (h : TSit w p sp v vm vl s) {t W m : Int} {L : List Ag} {vh : Value} (ht : t = 1 ∧ W = 300 ∨ t = 2 ∧ W = 3600) (hh : heldV t vm vl = vh) (hr : AgRow 0 w vh L) (hg : GoodA W m L) (hm : m ≤ 1099511631376) (a b : Int) :
    Calls Try.prog 19 #[.pointer (some ⟨p, 0, none⟩), .int .i64 t, .agg #[.int .i64 a, .int .i64 b]] w fun e w' => ∃ v', e = .returned v' ∧ AgRow w.heap.size w' v' (L.filter fun x => decide (a < b) && metA W a b x.at_) ∧ Below w.heap.size w w' := by
  have ht0 : -9223372036854775808 ≤ t ∧ t ≤ 9223372036854775807 := by omega
  have HHE : Hid (∀ W, Below w.heap.size w W → Calls Try.prog 43 #[.pointer (some ⟨p, 0, none⟩), .int .i64 t] W fun e w' => e = .returned vh ∧ w' = W) := Lib.hid fun V hb => by rw [← hh]; exact tiheld_any (h.keep hb) ht0.1 ht0.2
  have HOF : Hid (∀ V x, x ∈ L → Calls Try.prog 45 #[.int .i64 t, .int .i64 x.at_] V fun e w' => e = .returned (.agg #[.int .i64 x.at_, .int .i64 (x.at_ + W)]) ∧ Below V.heap.size V w') := Lib.hid fun V x hx => by
    have hf := hg.fits x hx
    have hq := met_win (a := a) (b := b) ht hg hm hx
    have := wiof_any V t x.at_ ht0.1 ht0.2 hf.a0 hf.a1
    rwa [hq.1, hq.2.1] at this
  have HME : Hid (∀ V x, x ∈ L → Calls Try.prog 44 #[.agg #[.int .i64 x.at_, .int .i64 (x.at_ + W)], .agg #[.int .i64 a, .int .i64 b]] V fun e w' => e = .returned (.bool (decide (a < b) && metA W a b x.at_)) ∧ Below V.heap.size V w') := Lib.hid fun V x hx => by
    have := wimeets_any V x.at_ (x.at_ + W) a b
    rwa [(met_win (a := a) (b := b) ht hg hm hx).2.2] at this
  have hlen := hg.len
  have HLI := Lib.hid hr.lies
  obtain ⟨ad, cp, rfl⟩ := own_slice hr
  clear hr hh
  obtain ⟨F, hF⟩ : ∃ F, F = fun x : Ag => decide (a < b) && metA W a b x.at_ := ⟨_, rfl⟩
  have HFX : Hid (∀ x, (decide (a < b) && metA W a b x.at_) = F x) := Lib.hid fun x => by rw [hF]
  rw [← hF]
  clear hF hg hm h ht ht0
  go_enter Try.func19, Try.ntmps19
  go_upto_region 2 with fail
  refine wp_name fun W1 hW1 => ?_
  obtain ⟨R, hR⟩ : ∃ R, R = w.heap.size := ⟨_, rfl⟩
  have hb1 : Below w.heap.size w W1 := by rw [hW1.out]; exact (Below.refl _ _).alloc (Nat.le_refl _) _
  have HR1 : Hid (RgAt W1 R a b) := Lib.hid (by rw [hW1.out, hR]; exact RgAt.new w a b)
  have HB1 := Lib.hid hb1
  have HH1 := Lib.hid (HHE.out W1 hb1)
  have HRL : Hid (R < W1.heap.size) := Lib.hid (lt_of_block HR1.out)
  rw [← hR]
  clear hW1 hb1 hR HHE
  go_wp2_with fail
  refine HH1.out.mono ?_
  rintro e W2 ⟨rfl, hw⟩; replace hw := hw.symm; subst hw
  dsimp only
  go_wp2_with fail
  go_loopw [7, 14] (fun vv c wr => ∃ (k : Nat) (v9 : Value), k ≤ L.length ∧ c = .int .i64 k ∧ v9 = vv ∧ AgRow W1.heap.size wr v9 ((L.take k).filter F) ∧ Below W1.heap.size W1 wr) (fun _ c _ => L.length - (intOf c).toNat)
  case atStart => exact ⟨0, _, Nat.zero_le _, rfl, rfl, by simp only [List.take_zero, List.filter_nil]; exact AgRow.nil _ _, Below.refl _ _⟩
  case round =>
    obtain ⟨k, v9, hk, rfl, rfl, hrow, hbb⟩ := hrel
    obtain ⟨W2, hW2⟩ : ∃ W2, W2 = wr := ⟨_, rfl⟩
    subst hW2
    have HROW2 := Lib.hid hrow
    have HBB2 := Lib.hid hbb
    have HB2 : Hid (Below w.heap.size w W2) := Lib.hid (HB1.out.trans (hbb.mono HB1.out.size))
    clear hrow hbb
    by_cases hlt : k < L.length
    · obtain ⟨x, hx⟩ : ∃ x, L[k]? = some x := ⟨L[k], List.getElem?_eq_getElem hlt⟩
      have HXM := Lib.hid (List.mem_of_getElem? hx)
      have HOX := Lib.hid fun V => HOF.out V x HXM.out
      have HMX : Hid (∀ V, Calls Try.prog 44 #[.agg #[.int .i64 x.at_, .int .i64 (x.at_ + W)], .agg #[.int .i64 a, .int .i64 b]] V fun e w' => e = .returned (.bool (F x)) ∧ Below V.heap.size V w') := Lib.hid fun V => by rw [← HFX.out]; exact HME.out V x HXM.out
      obtain ⟨Z, hZ⟩ : ∃ Z, Z = x.at_ + W := ⟨_, rfl⟩
      rw [← hZ] at HOX HMX
      clear hZ
      have hly : ALies W2 (.slice ad L.length cp) L := HLI.out.beyond HB2.out
      obtain ⟨a', b', off, cap, e1, hadr, hpts⟩ := hly
      injection e1 with e1 e2 e3
      have ea := hadr (by intro h0; simp [h0] at hlt)
      rw [← e1] at ea
      subst ea
      obtain ⟨c0, c1, c2, c3, c4⟩ := hpts k x hx
      have HXK := Lib.hid hx
      clear hx hadr hpts e1 e2 e3
      go_upto_region 5 with fail
      refine wp_name fun W3 hW3 => ?_
      obtain ⟨M, hM⟩ : ∃ M, M = W2.heap.size := ⟨_, rfl⟩
      have hb3 : Below W2.heap.size W2 W3 := by rw [hW3.out]; exact (Below.refl _ _).alloc (Nat.le_refl _) _
      have HM3 : Hid (AgAt W3 M x) := Lib.hid (by rw [hW3.out, hM]; exact AgAt.new W2 x)
      have HROW3 := Lib.hid (HROW2.out.keep hb3)
      have HBB3 := Lib.hid (HBB2.out.trans (hb3.mono HBB2.out.size))
      rw [← hM]
      clear hb3 hW3 hM HROW2 HB2 HBB2 c0 c1 c2 c3 c4
      have hc3 : W3.cell? ⟨R, 0, none⟩ = some (.int .i64 a) ∧ W3.cell? ⟨R, 1, none⟩ = some (.int .i64 b) ∧ W3.cell? ⟨M, 0, none⟩ = some (.int .i64 x.at_) := ⟨(HBB3.out.cell (p := ⟨R, 0, none⟩) HRL.out).trans HR1.out.cells.1, (HBB3.out.cell (p := ⟨R, 1, none⟩) HRL.out).trans HR1.out.cells.2.1, HM3.out.cells.c0⟩
      have HC3 := Lib.hid hc3
      clear hc3
      go_region_held3 (fun w' => w'.cell? ⟨R, 0, none⟩ = some (.int .i64 a) ∧ w'.cell? ⟨R, 1, none⟩ = some (.int .i64 b) ∧ w'.cell? ⟨M, 0, none⟩ = some (.int .i64 x.at_)) (first | exact HC3.out | exact HC4.out | exact HC5.out) ((first | (go_at_call 45; refine (HOX.out W3.drew).mono ?_; rintro e W4 ⟨rfl, hb4⟩; have HC4 : Hid (W4.cell? ⟨R, 0, none⟩ = some (.int .i64 a) ∧ W4.cell? ⟨R, 1, none⟩ = some (.int .i64 b) ∧ W4.cell? ⟨M, 0, none⟩ = some (.int .i64 x.at_)) := Lib.hid ⟨(hb4.cell (p := ⟨R, 0, none⟩) (cell_lt HC3.out.1)).trans HC3.out.1, (hb4.cell (p := ⟨R, 1, none⟩) (cell_lt HC3.out.2.1)).trans HC3.out.2.1, (hb4.cell (p := ⟨M, 0, none⟩) (cell_lt HC3.out.2.2)).trans HC3.out.2.2⟩; have HB4 : Hid (Below W3.heap.size W3 W4) := Lib.hid ((below_drew (Below.refl W3.heap.size W3)).trans hb4); clear hb4) | (go_at_call 44; refine (HMX.out _).mono ?_; rintro e W5 ⟨rfl, hb5⟩; have HB5 : Hid (Below W3.heap.size W3 W5) := Lib.hid (HB4.out.trans (hb5.mono HB4.out.size)); have HC5 : Hid (W5.cell? ⟨R, 0, none⟩ = some (.int .i64 a) ∧ W5.cell? ⟨R, 1, none⟩ = some (.int .i64 b) ∧ W5.cell? ⟨M, 0, none⟩ = some (.int .i64 x.at_)) := Lib.hid ⟨(HB5.out.cell (p := ⟨R, 0, none⟩) (cell_lt HC3.out.1)).trans HC3.out.1, (HB5.out.cell (p := ⟨R, 1, none⟩) (cell_lt HC3.out.2.1)).trans HC3.out.2.1, (HB5.out.cell (p := ⟨M, 0, none⟩) (cell_lt HC3.out.2.2)).trans HC3.out.2.2⟩; clear hb5)))
      have HM5 := Lib.hid (HM3.out.keep HB5.out)
      have HROW5 := Lib.hid (HROW3.out.keep HB5.out)
      have HBB6 := Lib.hid (HBB3.out.trans (HB5.out.mono HBB3.out.size))
      clear HC3 HC4 HC5 HB4 HB5 HM3 HROW3 HBB3
      cases hf : F x with
      | true =>
        have HNX : Hid ((L.take (k + 1)).filter F = (L.take k).filter F ++ [x]) := Lib.hid (by rw [take_snoc HXK.out, List.filter_append, List.filter_cons_of_pos hf]; rfl)
        have HLT : Hid (((L.take k).filter F).length ≤ 256) := Lib.hid (Nat.le_trans (List.length_filter_le _ _) (by rw [List.length_take]; omega))
        clear hf
        obtain ⟨c0, c1, c2, c3, c4, -, -, -, -, -⟩ := HM5.out.cells
        have HNEW := Lib.hid (AgAt.new W5 x)
        have HRW := Lib.hid (HROW5.out.keep ((Below.refl W5.heap.size W5).alloc (Nat.le_refl _) (.cells #[.int .i64 x.at_, .int .i64 x.n, .int .i64 x.s, .int .i64 x.lo, .int .i64 x.hi] 53)))
        have HBX := Lib.hid (HBB6.out.alloc HBB6.out.size (.cells #[.int .i64 x.at_, .int .i64 x.n, .int .i64 x.s, .int .i64 x.lo, .int .i64 x.hi] 53))
        have hmax : k < 9223372036854775807 := by omega
        go_wp2_with (at_builtin; refine wpList_append_ag rfl (.tmp 24) (.tmp 26) rfl W1.heap.size _ _ rfl HRW.out W5.heap.size x rfl HNEW.out (by have := HLT.out; omega) HBX.out.size ?_; intro v10 W10 HROW10 hgrow; have HBB10 : Hid (Below W1.heap.size W1 W10) := Lib.hid (HBX.out.grown hgrow.out HBX.out.size (fun b hb => (HRW.out.lt b hb).1)); clear hgrow)
        go_roundw
        case rel => exact ⟨k + 1, _, by omega, by go_num, rfl, by rw [HNX.out]; exact HROW10.out, HBB10.out⟩
        case measure => simp [intOf]; omega
      | false =>
        have HNX : Hid ((L.take (k + 1)).filter F = (L.take k).filter F) := Lib.hid (by rw [take_snoc HXK.out, List.filter_append, List.filter_cons_of_neg (by rw [hf]; simp)]; simp)
        clear hf
        have hmax : k < 9223372036854775807 := by omega
        go_wp2_with fail
        go_roundw
        case rel => exact ⟨k + 1, _, by omega, by go_num, rfl, by rw [HNX.out]; exact HROW5.out, HBB6.out⟩
        case measure => simp [intOf]; omega
    · obtain rfl : k = L.length := by omega
      have HEND : Hid ((L.take L.length).filter F = L.filter F) := Lib.hid (by rw [List.take_length])
      go_wp2_with fail
      go_ret
      exact ⟨_, rfl, by rw [← HEND.out]; exact HROW2.out.base HB1.out.size, HB2.out⟩
theorem tiaggs_mid {w : World} {p sp : Nat} {v vm vl : Value} {s : Stk} (h : TSit w p sp v vm vl s) (a b : Int) :
    Calls Try.prog 19 #[.pointer (some ⟨p, 0, none⟩), .int .i64 1, .agg #[.int .i64 a, .int .i64 b]] w fun e w' => ∃ v', e = .returned v' ∧ AgRow w.heap.size w' v' (s.mid.filter fun x => decide (a < b) && metA 300 a b x.at_) ∧ Below w.heap.size w w' :=
  tiaggs_of h (.inl ⟨rfl, rfl⟩) rfl h.mid h.good.mid h.good.mm.2.1 a b
theorem tiaggs_long {w : World} {p sp : Nat} {v vm vl : Value} {s : Stk} (h : TSit w p sp v vm vl s) (a b : Int) :
    Calls Try.prog 19 #[.pointer (some ⟨p, 0, none⟩), .int .i64 2, .agg #[.int .i64 a, .int .i64 b]] w fun e w' => ∃ v', e = .returned v' ∧ AgRow w.heap.size w' v' (s.long.filter fun x => decide (a < b) && metA 3600 a b x.at_) ∧ Below w.heap.size w w' :=
  tiaggs_of h (.inr ⟨rfl, rfl⟩) rfl h.long h.good.long (by have := h.good.ml; have := h.good.mm; omega) a b
end Go.Proofs.Ytmpphidiofhnlaa
