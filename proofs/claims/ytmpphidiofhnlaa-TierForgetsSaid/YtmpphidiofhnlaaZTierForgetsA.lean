/- TierForgets, over what package tier does. Written by py/ti-forgets.py. -/
import Derived.Test.YtmpphidiofhnlaaZTiLives
import Derived.Test.YtmpphidiofhnlaaZTiPlay1
import Derived.Test.YtmpphidiofhnlaaZTiPlay2
import Derived.Test.YtmpphidiofhnlaaZTiSame
import Derived.Test.YtmpphidiofhnlaaMW
namespace Go.Proofs.Ytmpphidiofhnlaa
open Go.RowKit

theorem aggs_len {s : Stk} (h : GoodT s) (t a b : Int) : (aggsT s t a b).length ≤ 1000000 := by
  unfold aggsT
  split
  · have h1 : (s.mid.filter fun x => decide (a < b) && metA 300 a b x.at_).length ≤ s.mid.length := List.length_filter_le _ _
    have := h.mid.len; omega
  · split
    · have h1 : (s.long.filter fun x => decide (a < b) && metA 3600 a b x.at_).length ≤ s.long.length := List.length_filter_le _ _
      have := h.long.len; omega
    · simp
/-- both plays, purged, are the same -/
theorem forget_plain {L : List TActL} (hin : ∀ x ∈ L, x.In) {a b y : Int} (hr : rightR a b = true) : purgeT (playT L) a b = purgeT (playT (L.map (mapAct (valP a b y)))) a b ∧ goneR (playT L) a b = goneR (playT (L.map (mapAct (valP a b y)))) a b := by
  have hrt : rightT a b = true := hr
  have hrow : RowTwo a b L (L.map (mapAct (valP a b y))) := by
    refine rev_ind (P := fun L => RowTwo a b L (L.map (mapAct (valP a b y)))) RowTwo.nil (fun l x ih => ?_) L
    rw [List.map_append, List.map_singleton]
    exact RowTwo.snoc ih ⟨rfl, rfl, other_alike (valP a b y) (valP_a a b y) (fun p hp => valP_out hp) x.l, rfl, rfl⟩
  have h := play_forgets hrow (fun x hx p hp => (hin x hx).pts p hp) (fun x hx p hp => by
    obtain ⟨z, hz, rfl⟩ := List.mem_map.1 hx
    obtain ⟨q, hq, rfl⟩ := List.mem_map.1 hp
    exact valP_fits ((hin z hz).pts q hq))
  unfold purgeT goneR
  rw [if_pos hrt, if_pos hrt, if_pos hrt, if_pos hrt, h.1, h.2]
  exact ⟨rfl, rfl⟩
set_option maxHeartbeats 32000000 in
set_option maxRecDepth 1000000 in
theorem tierForgets_over (D : TierD) {w : World} {v0 v1 : Value} {L M : List TActL} {ra rb y : Int} (hv : TActsAt w v0 L) (hin : ∀ x ∈ L, x.In) (hm : L.length ≤ maxLen) (hv1 : TActsAt w v1 M) (hin1 : ∀ x ∈ M, x.In) (hm1 : M.length ≤ maxLen)
    (ha : -9223372036854775808 ≤ ra ∧ ra ≤ 9223372036854775807) (hb : -9223372036854775808 ≤ rb ∧ rb ≤ 9223372036854775807) (_hy0 : -9223372036854775808 ≤ y) (_hy1 : y ≤ 9223372036854775807) :
    Calls Try.prog 3 #[v0, v1, .agg #[.int .i64 ra, .int .i64 rb], .int .i64 y] w fun e w' => e = .returned (.bool true) ∧ Below w.heap.size w w' := by
  have HV0 := Lib.hid hv
  have HV1 := Lib.hid hv1
  have HIN := Lib.hid hin
  have HIN1 := Lib.hid hin1
  have HRB : Hid (-9223372036854775808 ≤ ra ∧ ra ≤ 9223372036854775807 ∧ -9223372036854775808 ≤ rb ∧ rb ≤ 9223372036854775807) := Lib.hid ⟨ha.1, ha.2, hb.1, hb.2⟩
  have HLN : Hid (L.length ≤ 9223372036854775807 ∧ M.length ≤ 9223372036854775807) := Lib.hid (by unfold maxLen at hm hm1; omega)
  obtain ⟨ad1, b1, off1, cap1, rfl, hadr1, hacts1⟩ := hv1
  have HADR1 := Lib.hid hadr1
  have HA1 := Lib.hid hacts1
  have hmx : M.length ≤ 9223372036854775807 := HLN.out.2
  clear hv hin hin1 hm hm1 hadr1 hacts1 ha hb
  have HLI : Hid (∀ W, Calls Try.prog 6 #[] W fun e w' => e = .returned (.bool true) ∧ Below W.heap.size W w') := Lib.hid fun W => tilives_any D W
  have HF0 : Hid (∀ W, Below w.heap.size w W → Calls Try.prog 7 #[v0, .int .i64 30] W fun e w' => e = .returned (.bool (fewT L 30)) ∧ Below W.heap.size W w') := Lib.hid fun W hb => few_any (HV0.out.keep hb) HLN.out.1 30
  have HF1 : Hid (∀ W, Below w.heap.size w W → Calls Try.prog 7 #[.slice ad1 M.length cap1, .int .i64 30] W fun e w' => e = .returned (.bool (fewT M 30)) ∧ Below W.heap.size W w') := Lib.hid fun W hb => few_any (HV1.out.keep hb) HLN.out.2 30
  have HRI : Hid (∀ W, Calls Try.prog 8 #[.agg #[.int .i64 ra, .int .i64 rb]] W fun e w' => e = .returned (.bool (rightR ra rb)) ∧ Below W.heap.size W w') := Lib.hid fun W => wiright_any W ra rb
  obtain ⟨f0, hf0⟩ : ∃ f0, f0 = fewT L 30 := ⟨_, rfl⟩
  obtain ⟨f1, hf1⟩ : ∃ f1, f1 = fewT M 30 := ⟨_, rfl⟩
  obtain ⟨f2, hf2⟩ : ∃ f2, f2 = rightR ra rb := ⟨_, rfl⟩
  rw [← hf0] at HF0
  rw [← hf1] at HF1
  rw [← hf2] at HRI
  have HFE : Hid (f0 = fewT L 30 ∧ f1 = fewT M 30 ∧ f2 = rightR ra rb) := Lib.hid ⟨hf0, hf1, hf2⟩
  clear hf0 hf1 hf2
  go_enter Try.func3, Try.ntmps3
  go_upto_region 1 with fail
  refine wp_name fun W0 hW0 => ?_
  obtain ⟨P, hP⟩ : ∃ P, P = w.heap.size := ⟨_, rfl⟩
  have hr0 : RgAt W0 P ra rb := by rw [hW0.out, hP]; exact (RgAt.new w ra rb).old _
  have hq0 : W0.heap[P + 1]? = some (.cells #[.int .i64 y] 2 (0, 0)) := by rw [hW0.out, hP, ← World.size_alloc w (.cells #[.int .i64 ra, .int .i64 rb] 24)]; exact heap_alloc_new _ _
  have hb0 : Below w.heap.size w W0 := by rw [hW0.out]; exact ((Below.refl _ _).alloc (Nat.le_refl _) _).alloc (by simp) _
  have HRG0 := Lib.hid hr0
  have HQ0 := Lib.hid hq0
  have HB0 := Lib.hid hb0
  rw [← hP]
  clear hW0 hP hr0 hq0 hb0
  go_wp2_with fail
  refine (HLI.out W0).mono ?_
  rintro e W1 ⟨rfl, hb⟩
  have HRG1 := Lib.hid (HRG0.out.keep hb)
  have HQ1 : Hid (W1.heap[P + 1]? = some (.cells #[.int .i64 y] 2 (0, 0))) := Lib.hid ((hb.block _ (lt_of_block HQ0.out)).trans HQ0.out)
  have HB1 := Lib.hid (HB0.out.trans (hb.mono HB0.out.size))
  clear hb HRG0 HQ0 HB0
  dsimp only
  go_wp2_with fail
  refine (HF0.out W1 HB1.out).mono ?_
  rintro e W2 ⟨rfl, hb⟩
  have HRG2 := Lib.hid (HRG1.out.keep hb)
  have HQ2 : Hid (W2.heap[P + 1]? = some (.cells #[.int .i64 y] 2 (0, 0))) := Lib.hid ((hb.block _ (lt_of_block HQ1.out)).trans HQ1.out)
  have HB2 := Lib.hid (HB1.out.trans (hb.mono HB1.out.size))
  clear hb HRG1 HQ1 HB1
  dsimp only
  cases f0 with
  | false =>
    go_wp2_with fail
    refine (HLI.out W2).mono ?_
    rintro e W3 ⟨rfl, hb⟩
    have HB3 := Lib.hid (HB2.out.trans (hb.mono HB2.out.size))
    clear hb
    dsimp only
    go_wp2
    go_ret
    exact ⟨rfl, HB3.out⟩
  | true =>
  go_wp2_with fail
  refine (HF1.out W2 HB2.out).mono ?_
  rintro e W2b ⟨rfl, hb⟩
  have HRG2b := Lib.hid (HRG2.out.keep hb)
  have HQ2b : Hid (W2b.heap[P + 1]? = some (.cells #[.int .i64 y] 2 (0, 0))) := Lib.hid ((hb.block _ (lt_of_block HQ2.out)).trans HQ2.out)
  have HB2b := Lib.hid (HB2.out.trans (hb.mono HB2.out.size))
  clear hb HRG2 HQ2 HB2
  dsimp only
  cases f1 with
  | false =>
    go_wp2_with fail
    refine (HLI.out W2b).mono ?_
    rintro e W3 ⟨rfl, hb⟩
    have HB3 := Lib.hid (HB2b.out.trans (hb.mono HB2b.out.size))
    clear hb
    dsimp only
    go_wp2
    go_ret
    exact ⟨rfl, HB3.out⟩
  | true =>
  obtain ⟨r0, r1, -, -⟩ := HRG2b.out.cells
  go_wp2_with fail
  refine (HRI.out W2b).mono ?_
  rintro e W2c ⟨rfl, hb⟩
  have HRG2c := Lib.hid (HRG2b.out.keep hb)
  have HQ2c : Hid (W2c.heap[P + 1]? = some (.cells #[.int .i64 y] 2 (0, 0))) := Lib.hid ((hb.block _ (lt_of_block HQ2b.out)).trans HQ2b.out)
  have HB2c := Lib.hid (HB2b.out.trans (hb.mono HB2b.out.size))
  clear hb HRG2b HQ2b HB2b r0 r1
  dsimp only
  cases f2 with
  | false =>
    go_wp2_with fail
    refine (HLI.out W2c).mono ?_
    rintro e W3 ⟨rfl, hb⟩
    have HB3 := Lib.hid (HB2c.out.trans (hb.mono HB2c.out.size))
    clear hb
    dsimp only
    go_wp2
    go_ret
    exact ⟨rfl, HB3.out⟩
  | true =>
  have HSM : Hid (∀ (K : List TActL), true = fewT K 30 → (∀ x ∈ K, x.l.length ≤ 40) ∧ K.length ≤ 30) := Lib.hid fun K hK => by
    unfold fewT at hK
    have hK' := hK.symm
    rw [Bool.and_eq_true, decide_eq_true_iff, List.all_eq_true] at hK'
    refine ⟨fun x hx => ?_, by omega⟩
    have h1 := hK'.1 x hx
    unfold fewAct at h1
    rw [Bool.and_eq_true, decide_eq_true_iff] at h1
    exact h1.1
  have HL40 := Lib.hid (HSM.out L HFE.out.1)
  have HM40 := Lib.hid (HSM.out M HFE.out.2.1)
  have HRT : Hid (rightR ra rb = true) := Lib.hid HFE.out.2.2.symm
  clear HSM HFE HF0 HF1 HRI
  go_wp2_with fail
  refine (tiplay1_any D (HV0.out.keep HB2c.out) HIN.out HL40.out.1 (by have := HL40.out.2; omega)).mono ?_
  rintro e W3 ⟨p, rfl, hs, hb⟩
  obtain ⟨B, hB⟩ : ∃ B, B = W2c.heap.size := ⟨_, rfl⟩
  rw [mapAct_id, ← hB] at hs
  have HS3 := Lib.hid hs
  have HRG3 := Lib.hid (HRG2c.out.keep hb)
  have HQ3 : Hid (W3.heap[P + 1]? = some (.cells #[.int .i64 y] 2 (0, 0))) := Lib.hid ((hb.block _ (lt_of_block HQ2c.out)).trans HQ2c.out)
  have HB3 := Lib.hid (HB2c.out.trans (hb.mono HB2c.out.size))
  have HB3s : Hid (B ≤ W3.heap.size) := Lib.hid (by rw [hB]; exact hb.size)
  have HPB : Hid (P + 1 < B) := Lib.hid (by rw [hB]; exact lt_of_block HQ2c.out)
  have HBw : Hid (w.heap.size ≤ B) := Lib.hid (by rw [hB]; exact HB2c.out.size)
  clear hs hb hB HRG2c HQ2c HB2c
  dsimp only
  go_wp2_with fail
  refine (tiplay2_any D HRG3.out HQ3.out (HV0.out.keep HB3.out) HIN.out HL40.out.1 (by have := HL40.out.2; omega)).mono ?_
  rintro e W4 ⟨q, rfl, hs, hb⟩
  have HTW : Hid (TwoS D B W4 p (playT L) q (playT (L.map (mapAct (valP ra rb y))))) := Lib.hid (HS3.out.two HB3s.out hb hs.sit hs.base)
  have HRG4 := Lib.hid (HRG3.out.keep hb)
  have HB4 := Lib.hid (HB3.out.trans (hb.mono HB3.out.size))
  have HBS4 : Hid (B ≤ W4.heap.size) := Lib.hid (Nat.le_trans HB3s.out hb.size)
  clear hs hb HS3 HRG3 HQ3 HB3 HB3s
  have hpg := forget_plain (y := y) HIN.out HRT.out
  obtain ⟨sa, hsa⟩ : ∃ sa, sa = playT L := ⟨_, rfl⟩
  obtain ⟨sb, hsb⟩ : ∃ sb, sb = playT (L.map (mapAct (valP ra rb y))) := ⟨_, rfl⟩
  rw [← hsa, ← hsb] at HTW
  rw [← hsa, ← hsb] at hpg
  have HPG := Lib.hid hpg
  have HBD4 : Hid (Below B W4 W4.drew) := Lib.hid (Below.refl B W4).drew
  clear hpg hsa hsb HL40
  dsimp only
  go_upto_region 5 with fail
  refine wp_region_held_drew (S := fun W => RgAt W P ra rb) (by kernel_rfl) HRG4.out.drew (fun _ => ?_)
  have HT4 := Lib.hid (HTW.out.keep ((Below.refl W4.heap.size W4).drew))
  refine anyH_take (i := 0) (some 41) (v := _) rfl rfl (by kernel_rfl) (by kernel_rfl) (by kernel_rfl) (fun _ _ _ h => h) (by rfl) (HRG4.out.drew) (by intro w hSw; obtain ⟨q0, q1, -, -⟩ := RgAt.cells hSw; go_simp; try with_reducible rfl) ?_
  (try simp only [Act.put, List.setIfInBounds_toArray, List.set_cons_zero, List.set_cons_succ])
  refine anyH_take (i := 1) (some 42) (v := _) rfl rfl (by kernel_rfl) (by kernel_rfl) (by kernel_rfl) (fun _ _ _ h => h) (by rfl) (HRG4.out.drew) (by intro w hSw; obtain ⟨q0, q1, -, -⟩ := RgAt.cells hSw; go_simp; try with_reducible rfl) ?_
  (try simp only [Act.put, List.setIfInBounds_toArray, List.set_cons_zero, List.set_cons_succ])
  refine anyH_take (i := 3) (some 44) (v := _) rfl rfl (by kernel_rfl) (by kernel_rfl) (by kernel_rfl) (fun _ _ _ h => h) (by rfl) (HRG4.out.drew) (by intro w hSw; obtain ⟨q0, q1, -, -⟩ := RgAt.cells hSw; go_simp; try with_reducible rfl) ?_
  (try simp only [Act.put, List.setIfInBounds_toArray, List.set_cons_zero, List.set_cons_succ])
  refine anyH_take (i := 4) (some 45) (v := _) rfl rfl (by kernel_rfl) (by kernel_rfl) (by kernel_rfl) (fun _ _ _ h => h) (by rfl) (HRG4.out.drew) (by intro w hSw; obtain ⟨q0, q1, -, -⟩ := RgAt.cells hSw; go_simp; try with_reducible rfl) ?_
  (try simp only [Act.put, List.setIfInBounds_toArray, List.set_cons_zero, List.set_cons_succ])
  refine wpAnyH_ready (rs := [2]) (by kernel_rfl) (by simp) (AllReadyH.cons rfl (fun K hK => ?_) AllReadyH.nil)
  go_simp
  refine (D.purge HT4.out.fst.sit HRB.out.1 HRB.out.2.1 HRB.out.2.2.1 HRB.out.2.2.2).mono ?_
  rintro e W5 ⟨rfl, h1, h2, h3⟩
  have hst := HT4.out.step HBS4.out h1 h2 h3
  have HT5 := Lib.hid hst.1
  have HBD5 := Lib.hid (HBD4.out.trans hst.2)
  have HRG5 : Hid (RgAt W5 P ra rb) := Lib.hid (HRG4.out.drew.only h3 (fun hk => by have := HT4.out.fst.base P hk; have := HPB.out; omega))
  clear h1 h2 h3 hst
  go_wp2_with fail
  refine hK.out _ _ (HRG5.out) (fun _ => ?_)
  clear hK K
  (try simp only [Act.put, List.setIfInBounds_toArray, List.set_cons_zero, List.set_cons_succ])
  refine wpAnyH_ready (rs := [5]) (by kernel_rfl) (by simp) (AllReadyH.cons rfl (fun K hK => ?_) AllReadyH.nil)
  go_simp
  refine (D.purge HT5.out.snd.sit HRB.out.1 HRB.out.2.1 HRB.out.2.2.1 HRB.out.2.2.2).mono ?_
  rintro e W6 ⟨rfl, h1, h2, h3⟩
  have hst := HT5.out.turn.step (Nat.le_trans HBS4.out HBD5.out.size) h1 h2 h3
  have HT6' := Lib.hid hst.1.turn
  have HBD6 := Lib.hid (HBD5.out.trans hst.2)
  have HRG6 : Hid (RgAt W6 P ra rb) := Lib.hid (HRG5.out.only h3 (fun hk => by have := HT5.out.snd.base P hk; have := HPB.out; omega))
  clear h1 h2 h3 hst
  obtain ⟨S0, hS0⟩ : ∃ S0, S0 = purgeT sa ra rb := ⟨_, rfl⟩
  have HT6 : Hid (TwoS D B W6 p S0 q S0) := Lib.hid (by have h := HT6'.out; rw [← HPG.out.1, ← hS0] at h; exact h)
  have hgo : goneR sb ra rb = goneR sa ra rb := HPG.out.2.symm
  rw [hgo]
  obtain ⟨gn, hgn⟩ : ∃ gn, gn = goneR sa ra rb := ⟨_, rfl⟩
  rw [← hgn]
  clear hgo hgn hS0
  go_wp2_with fail
  refine hK.out _ _ (HRG6.out) (fun _ => ?_)
  clear hK K
  (try simp only [Act.put, List.setIfInBounds_toArray, List.set_cons_zero, List.set_cons_succ])
  refine anyH_take (i := 6) (some 47) (v := _) rfl rfl (by kernel_rfl) (by kernel_rfl) (by kernel_rfl) (fun _ _ _ h => h) (by rfl) (HRG6.out) (by intro w hSw; obtain ⟨q0, q1, -, -⟩ := RgAt.cells hSw; go_simp; try with_reducible rfl) ?_
  (try simp only [Act.put, List.setIfInBounds_toArray, List.set_cons_zero, List.set_cons_succ])
  refine wpAnyH_done (by kernel_rfl) ?_ _
  have HU6 : Hid (Below w.heap.size w W6) := Lib.hid (HB4.out.trans (HBD6.out.mono HBw.out))
  have HB6s : Hid (B ≤ W6.heap.size) := Lib.hid (Nat.le_trans HBS4.out HBD6.out.size)
  clear HRG4 HB4 HTW HPG HBD4 HT4 HT5 HBD5 HRG5 HT6' HBD6 HRG6
  go_upto_region 8 with fail
  refine wp_name fun W7 hW7 => ?_
  obtain ⟨PA, hPA⟩ : ∃ PA, PA = W6.heap.size := ⟨_, rfl⟩
  have hx7 := PairS.new HT6.out 0 1099511627777 hW7.out
  have hb7 : Below W6.heap.size W6 W7 := by rw [hW7.out]; exact (Below.refl _ _).alloc (Nat.le_refl _) _
  rw [← hPA] at hx7 ⊢
  have HX7 := Lib.hid hx7
  have HU7 := Lib.hid (HU6.out.trans (hb7.mono HU6.out.size))
  have HB7s : Hid (B ≤ W7.heap.size) := Lib.hid (Nat.le_trans HB6s.out hb7.size)
  clear hx7 hb7 hW7 hPA HT6 HU6 HB6s
  go_wp2_with fail
  go_loopw [12] (fun c wr => ∃ (z : Int) (sx : Stk), -1 ≤ z ∧ z ≤ M.length ∧ c = .int .i64 z ∧ PairS D B wr p sx q sx PA 0 1099511627777 ∧ Below w.heap.size w wr ∧ B ≤ wr.heap.size) (fun c _ => M.length + 1 - (intOf c + 1).toNat)
  case atStart => exact ⟨-1, S0, by omega, by omega, rfl, HX7.out, HU7.out, HB7s.out⟩
  case round =>
    obtain ⟨z, s0, hz0, hz1, rfl, hx, hu, hbs⟩ := hrel
    obtain ⟨W10, hW10⟩ : ∃ W10, W10 = wr := ⟨_, rfl⟩
    subst hW10
    have HX10 := Lib.hid hx
    have HU10 := Lib.hid hu
    have HBS10 := Lib.hid hbs
    clear hx hu hbs HX7 HU7 HB7s
    by_cases hlt : z < (M.length : Int)
    · have tl : decide (z < (M.length : Int)) = true := decide_eq_true hlt
      have ew : IntKind.i64.wrap (z + 1) = z + 1 := by rw [IntKind.wrap_i64]; omega
      go_upto_if 56 with fail
      go_cut [] (fun W => ∃ sx, PairS D B W p sx q sx PA 0 1099511627777 ∧ Below w.heap.size w W ∧ B ≤ W.heap.size)
      case first =>
        by_cases hneg : z = -1
        · subst hneg
          go_wp2_with fail
          go_meet
          exact ⟨_, HX10.out, HU10.out, HBS10.out⟩
        · obtain ⟨j, rfl⟩ : ∃ j : Nat, z = (j : Int) := ⟨z.toNat, by omega⟩
          have hjm : j < M.length := by omega
          have tj : decide ((0 : Int) ≤ (j : Int)) = true := decide_eq_true (by omega)
          have ea := HADR1.out (by intro h; simp [h] at hjm)
          subst ea
          obtain ⟨x, hx⟩ : ∃ x, M[j]? = some x := ⟨M[j], List.getElem?_eq_getElem hjm⟩
          obtain ⟨u, e0, e1, e2, e3, e4, hpl, -⟩ := HA1.out j x hx
          have HPLw := Lib.hid hpl
          obtain ⟨ua, ub, uo, uc, rfl, -, -⟩ := hpl
          have ek : ∀ o v, w.cell? ⟨b1, o, none⟩ = some v → W10.cell? ⟨b1, o, none⟩ = some v := fun o v hv => (HU10.out.cell (p := ⟨b1, o, none⟩) (cell_lt hv)).trans hv
          have c0 := ek _ _ e0
          have c1 := ek _ _ e1
          have c2 := ek _ _ e2
          have c3 := ek _ _ e3
          have c4 := ek _ _ e4
          clear e0 e1 e2 e3 e4 ek
          have HXI := Lib.hid (HIN1.out x (List.mem_of_getElem? hx))
          have HX40 : Hid (x.l.length ≤ 40) := Lib.hid (HM40.out.1 x (List.mem_of_getElem? hx))
          clear hx
          go_upto_region 13 with fail
          refine wp_name fun W11 hW11 => ?_
          obtain ⟨N, hN⟩ : ∃ N, N = W10.heap.size := ⟨_, rfl⟩
          have hb11 : Below W10.heap.size W10 W11 := by rw [hW11.out]; exact (Below.refl _ _).alloc (Nat.le_refl _) _
          have p0 : W11.heap[N]? = some (.cells #[.int .i64 x.kind, .int .i64 x.at_, .slice ua x.l.length uc, .int .i64 x.a, .int .i64 x.b] 37 (0, 0)) := by rw [hW11.out, hN]; exact heap_alloc_new W10 _
          have HX11 := Lib.hid (HX10.out.keep hb11)
          have HU11 := Lib.hid (HU10.out.trans (hb11.mono HU10.out.size))
          have HBS11 := Lib.hid (Nat.le_trans HBS10.out hb11.size)
          have HPL11 := Lib.hid (HPLw.out.beyond HU11.out)
          have HN11 := Lib.hid p0
          -- what the act says lies behind the first one's call, too
          have HFAR : Hid (∀ k, D.own W11 p k → k ≠ N) := Lib.hid fun k hk => by
            obtain ⟨_, h2⟩ := D.keep HX10.out.two.fst.sit (only_beyond (S := fun _ => False) hb11) (fun _ _ h => h)
            have := D.lt HX10.out.two.fst.sit (h2 k hk)
            omega
          have HLOW : Hid (∀ W', Below w.heap.size w W' → PLies W' (.slice ua x.l.length uc) x.l) := Lib.hid fun W' hb => HPLw.out.beyond hb
          obtain ⟨q0, q1, q2, q3, q4⟩ := tact_cells p0
          rw [← hN]
          clear hW11 hN hb11 p0 c0 c1 c2 c3 c4 HX10 HU10 HBS10 HPLw
          by_cases hk : x.kind = 0
          · have t0 : (x.kind == 0) = true := by rw [hk]; rfl
            clear hk
            have hcall : Hid (∀ (W : World) (r : Nat), D.sit W r s0 → PLies W (.slice ua x.l.length uc) x.l → Calls Try.prog 14 #[.pointer (some ⟨r, 0, none⟩), .slice ua x.l.length uc] W fun e w' => e = .returned (.tuple #[.int .i64 (putR s0 x.l).1, .int .i64 (putR s0 x.l).2]) ∧ D.sit w' r (putT s0 x.l) ∧ (∀ k, D.own w' r k → D.own W r k ∨ W.heap.size ≤ k) ∧ Only (D.own W r) W w') := Lib.hid fun W r hs hp => D.put hs hp HXI.out.pts (by have := HX40.out; omega)
            obtain ⟨pn, hpn⟩ : ∃ pn, pn = (putR s0 x.l).1 := ⟨_, rfl⟩
            obtain ⟨pe, hpe⟩ : ∃ pe, pe = (putR s0 x.l).2 := ⟨_, rfl⟩
            rw [← hpn, ← hpe] at hcall
            clear hpn hpe
            go_wp2_with fail
            refine (hcall.out _ _ HX11.out.two.fst.sit HPL11.out).mono ?_
            rintro e W12 ⟨rfl, h1, h2, h3⟩
            have hst := HX11.out.step HBS11.out h1 h2 h3
            have p12 := (h3.block N (lt_of_block HN11.out) (fun hk => HFAR.out N hk rfl)).trans HN11.out
            have HX12 := Lib.hid hst.1
            have HBS12 := Lib.hid (Nat.le_trans HBS11.out hst.2.size)
            have HU12 := Lib.hid (HU11.out.trans (hst.2.mono HBw.out))
            have HPL12 := Lib.hid (HLOW.out W12 HU12.out)
            clear h1 h2 h3 hst q0 q1 q2 q3 q4
            obtain ⟨q0, q1, q2, q3, q4⟩ := tact_cells p12
            dsimp only
            clear p12
            go_wp2_with fail
            refine (hcall.out _ _ HX12.out.two.snd.sit HPL12.out).mono ?_
            rintro e W13 ⟨rfl, h1, h2, h3⟩
            have hst := HX12.out.turn.step HBS12.out h1 h2 h3
            have HX13 := Lib.hid hst.1.turn
            have HU13 := Lib.hid (HU12.out.trans (hst.2.mono HBw.out))
            have HBS13 := Lib.hid (Nat.le_trans HBS12.out hst.2.size)
            clear h1 h2 h3 hst
            dsimp only
            go_wp2_with fail
            go_meet
            exact ⟨_, HX13.out, HU13.out, HBS13.out⟩
          have t0 : (x.kind == 0) = false := by simpa using hk
          clear hk
          by_cases hk : x.kind = 1
          · have t0 : (x.kind == 0) = false := by rw [hk]; rfl
            have t1 : (x.kind == 1) = true := by rw [hk]; rfl
            clear hk
            have hcall : Hid (∀ (W : World) (r : Nat), D.sit W r s0 → PLies W (.slice ua x.l.length uc) x.l → Calls Try.prog 14 #[.pointer (some ⟨r, 0, none⟩), .slice ua x.l.length uc] W fun e w' => e = .returned (.tuple #[.int .i64 (putR s0 x.l).1, .int .i64 (putR s0 x.l).2]) ∧ D.sit w' r (putT s0 x.l) ∧ (∀ k, D.own w' r k → D.own W r k ∨ W.heap.size ≤ k) ∧ Only (D.own W r) W w') := Lib.hid fun W r hs hp => D.put hs hp HXI.out.pts (by have := HX40.out; omega)
            obtain ⟨pn, hpn⟩ : ∃ pn, pn = (putR s0 x.l).1 := ⟨_, rfl⟩
            obtain ⟨pe, hpe⟩ : ∃ pe, pe = (putR s0 x.l).2 := ⟨_, rfl⟩
            rw [← hpn, ← hpe] at hcall
            clear hpn hpe
            go_wp2_with fail
            refine (hcall.out _ _ HX11.out.two.fst.sit HPL11.out).mono ?_
            rintro e W12 ⟨rfl, h1, h2, h3⟩
            have hst := HX11.out.step HBS11.out h1 h2 h3
            have p12 := (h3.block N (lt_of_block HN11.out) (fun hk => HFAR.out N hk rfl)).trans HN11.out
            have HX12 := Lib.hid hst.1
            have HBS12 := Lib.hid (Nat.le_trans HBS11.out hst.2.size)
            have HU12 := Lib.hid (HU11.out.trans (hst.2.mono HBw.out))
            have HPL12 := Lib.hid (HLOW.out W12 HU12.out)
            clear h1 h2 h3 hst q0 q1 q2 q3 q4
            obtain ⟨q0, q1, q2, q3, q4⟩ := tact_cells p12
            dsimp only
            clear p12
            go_wp2_with fail
            refine (hcall.out _ _ HX12.out.two.snd.sit HPL12.out).mono ?_
            rintro e W13 ⟨rfl, h1, h2, h3⟩
            have hst := HX12.out.turn.step HBS12.out h1 h2 h3
            have HX13 := Lib.hid hst.1.turn
            have HU13 := Lib.hid (HU12.out.trans (hst.2.mono HBw.out))
            have HBS13 := Lib.hid (Nat.le_trans HBS12.out hst.2.size)
            clear h1 h2 h3 hst
            dsimp only
            go_wp2_with fail
            go_meet
            exact ⟨_, HX13.out, HU13.out, HBS13.out⟩
          have t1 : (x.kind == 1) = false := by simpa using hk
          clear hk
          by_cases hk : x.kind = 2
          · have t0 : (x.kind == 0) = false := by rw [hk]; rfl
            have t1 : (x.kind == 1) = false := by rw [hk]; rfl
            have t2 : (x.kind == 2) = true := by rw [hk]; rfl
            clear hk
            have hcall : Hid (∀ (W : World) (r : Nat), D.sit W r s0 → PLies W (.slice ua x.l.length uc) x.l → Calls Try.prog 14 #[.pointer (some ⟨r, 0, none⟩), .slice ua x.l.length uc] W fun e w' => e = .returned (.tuple #[.int .i64 (putR s0 x.l).1, .int .i64 (putR s0 x.l).2]) ∧ D.sit w' r (putT s0 x.l) ∧ (∀ k, D.own w' r k → D.own W r k ∨ W.heap.size ≤ k) ∧ Only (D.own W r) W w') := Lib.hid fun W r hs hp => D.put hs hp HXI.out.pts (by have := HX40.out; omega)
            obtain ⟨pn, hpn⟩ : ∃ pn, pn = (putR s0 x.l).1 := ⟨_, rfl⟩
            obtain ⟨pe, hpe⟩ : ∃ pe, pe = (putR s0 x.l).2 := ⟨_, rfl⟩
            rw [← hpn, ← hpe] at hcall
            clear hpn hpe
            go_wp2_with fail
            refine (hcall.out _ _ HX11.out.two.fst.sit HPL11.out).mono ?_
            rintro e W12 ⟨rfl, h1, h2, h3⟩
            have hst := HX11.out.step HBS11.out h1 h2 h3
            have p12 := (h3.block N (lt_of_block HN11.out) (fun hk => HFAR.out N hk rfl)).trans HN11.out
            have HX12 := Lib.hid hst.1
            have HBS12 := Lib.hid (Nat.le_trans HBS11.out hst.2.size)
            have HU12 := Lib.hid (HU11.out.trans (hst.2.mono HBw.out))
            have HPL12 := Lib.hid (HLOW.out W12 HU12.out)
            clear h1 h2 h3 hst q0 q1 q2 q3 q4
            obtain ⟨q0, q1, q2, q3, q4⟩ := tact_cells p12
            dsimp only
            clear p12
            go_wp2_with fail
            refine (hcall.out _ _ HX12.out.two.snd.sit HPL12.out).mono ?_
            rintro e W13 ⟨rfl, h1, h2, h3⟩
            have hst := HX12.out.turn.step HBS12.out h1 h2 h3
            have HX13 := Lib.hid hst.1.turn
            have HU13 := Lib.hid (HU12.out.trans (hst.2.mono HBw.out))
            have HBS13 := Lib.hid (Nat.le_trans HBS12.out hst.2.size)
            clear h1 h2 h3 hst
            dsimp only
            go_wp2_with fail
            go_meet
            exact ⟨_, HX13.out, HU13.out, HBS13.out⟩
          have t2 : (x.kind == 2) = false := by simpa using hk
          clear hk
          by_cases hk : x.kind = 3
          · have t0 : (x.kind == 0) = false := by rw [hk]; rfl
            have t1 : (x.kind == 1) = false := by rw [hk]; rfl
            have t2 : (x.kind == 2) = false := by rw [hk]; rfl
            have t3 : (x.kind == 3) = true := by rw [hk]; rfl
            clear hk
            go_wp2_with fail
            refine (D.roll HX11.out.two.fst.sit HXI.out.t0 HXI.out.t1).mono ?_
            rintro e W12 ⟨rfl, h1, h2, h3⟩
            have hst := HX11.out.step HBS11.out h1 h2 h3
            have p12 := (h3.block N (lt_of_block HN11.out) (fun hk => HFAR.out N hk rfl)).trans HN11.out
            have HX12 := Lib.hid hst.1
            have HBS12 := Lib.hid (Nat.le_trans HBS11.out hst.2.size)
            have HU12 := Lib.hid (HU11.out.trans (hst.2.mono HBw.out))
            have HPL12 := Lib.hid (HLOW.out W12 HU12.out)
            clear h1 h2 h3 hst q0 q1 q2 q3 q4
            obtain ⟨q0, q1, q2, q3, q4⟩ := tact_cells p12
            dsimp only
            clear p12
            go_wp2_with fail
            refine (D.roll HX12.out.two.snd.sit HXI.out.t0 HXI.out.t1).mono ?_
            rintro e W13 ⟨rfl, h1, h2, h3⟩
            have hst := HX12.out.turn.step HBS12.out h1 h2 h3
            have HX13 := Lib.hid hst.1.turn
            have HU13 := Lib.hid (HU12.out.trans (hst.2.mono HBw.out))
            have HBS13 := Lib.hid (Nat.le_trans HBS12.out hst.2.size)
            clear h1 h2 h3 hst
            dsimp only
            go_wp2_with fail
            go_meet
            exact ⟨_, HX13.out, HU13.out, HBS13.out⟩
          have t3 : (x.kind == 3) = false := by simpa using hk
          clear hk
          by_cases hk : x.kind = 4
          · have t0 : (x.kind == 0) = false := by rw [hk]; rfl
            have t1 : (x.kind == 1) = false := by rw [hk]; rfl
            have t2 : (x.kind == 2) = false := by rw [hk]; rfl
            have t3 : (x.kind == 3) = false := by rw [hk]; rfl
            have t4 : (x.kind == 4) = true := by rw [hk]; rfl
            clear hk
            go_wp2_with fail
            refine (D.roll HX11.out.two.fst.sit HXI.out.t0 HXI.out.t1).mono ?_
            rintro e W12 ⟨rfl, h1, h2, h3⟩
            have hst := HX11.out.step HBS11.out h1 h2 h3
            have p12 := (h3.block N (lt_of_block HN11.out) (fun hk => HFAR.out N hk rfl)).trans HN11.out
            have HX12 := Lib.hid hst.1
            have HBS12 := Lib.hid (Nat.le_trans HBS11.out hst.2.size)
            have HU12 := Lib.hid (HU11.out.trans (hst.2.mono HBw.out))
            have HPL12 := Lib.hid (HLOW.out W12 HU12.out)
            clear h1 h2 h3 hst q0 q1 q2 q3 q4
            obtain ⟨q0, q1, q2, q3, q4⟩ := tact_cells p12
            dsimp only
            clear p12
            go_wp2_with fail
            refine (D.roll HX12.out.two.snd.sit HXI.out.t0 HXI.out.t1).mono ?_
            rintro e W13 ⟨rfl, h1, h2, h3⟩
            have hst := HX12.out.turn.step HBS12.out h1 h2 h3
            have HX13 := Lib.hid hst.1.turn
            have HU13 := Lib.hid (HU12.out.trans (hst.2.mono HBw.out))
            have HBS13 := Lib.hid (Nat.le_trans HBS12.out hst.2.size)
            clear h1 h2 h3 hst
            dsimp only
            go_wp2_with fail
            go_meet
            exact ⟨_, HX13.out, HU13.out, HBS13.out⟩
          have t4 : (x.kind == 4) = false := by simpa using hk
          clear hk
          go_wp2_with fail
          refine (D.purge HX11.out.two.fst.sit HXI.out.a0 HXI.out.a1 HXI.out.b0 HXI.out.b1).mono ?_
          rintro e W12 ⟨rfl, h1, h2, h3⟩
          have hst := HX11.out.step HBS11.out h1 h2 h3
          have p12 := (h3.block N (lt_of_block HN11.out) (fun hk => HFAR.out N hk rfl)).trans HN11.out
          have HX12 := Lib.hid hst.1
          have HBS12 := Lib.hid (Nat.le_trans HBS11.out hst.2.size)
          have HU12 := Lib.hid (HU11.out.trans (hst.2.mono HBw.out))
          have HPL12 := Lib.hid (HLOW.out W12 HU12.out)
          clear h1 h2 h3 hst q0 q1 q2 q3 q4
          obtain ⟨q0, q1, q2, q3, q4⟩ := tact_cells p12
          dsimp only
          clear p12
          go_wp2_with fail
          refine (D.purge HX12.out.two.snd.sit HXI.out.a0 HXI.out.a1 HXI.out.b0 HXI.out.b1).mono ?_
          rintro e W13 ⟨rfl, h1, h2, h3⟩
          have hst := HX12.out.turn.step HBS12.out h1 h2 h3
          have HX13 := Lib.hid hst.1.turn
          have HU13 := Lib.hid (HU12.out.trans (hst.2.mono HBw.out))
          have HBS13 := Lib.hid (Nat.le_trans HBS12.out hst.2.size)
          clear h1 h2 h3 hst
          dsimp only
          go_wp2_with fail
          go_meet
          exact ⟨_, HX13.out, HU13.out, HBS13.out⟩
      case rest =>
        obtain ⟨s1, hx, hu, hbs⟩ := hcut
        obtain ⟨W20, hW20⟩ : ∃ W20, W20 = wc := ⟨_, rfl⟩
        subst hW20
        obtain ⟨sx, hsx⟩ : ∃ sx, sx = s1 := ⟨_, rfl⟩
        rw [← hsx] at hx
        clear hsx
        have HX20 := Lib.hid hx
        have HU20 := Lib.hid hu
        have HZ20 := Lib.hid hbs
        clear hx hu hbs HX10 HU10 HBS10
        go_upto_region 27 with fail
        have HX20D := Lib.hid (HX20.out.keep ((Below.refl W20.heap.size W20).drew))
        refine wp_region_held_drew (S := fun W => RgAt W PA 0 1099511627777) (by kernel_rfl) HX20D.out.all (fun _ => ?_)
        refine anyH_take (i := 0) (some 108) (v := _) rfl rfl (by kernel_rfl) (by kernel_rfl) (by kernel_rfl) (fun _ _ _ h => h) (by rfl) (HX20D.out.all) (by intro w hSw; obtain ⟨q0, q1, -, -⟩ := RgAt.cells hSw; go_simp; try with_reducible rfl) ?_
        (try simp only [Act.put, List.setIfInBounds_toArray, List.set_cons_zero, List.set_cons_succ])
        refine anyH_take (i := 1) (some 109) (v := _) rfl rfl (by kernel_rfl) (by kernel_rfl) (by kernel_rfl) (fun _ _ _ h => h) (by rfl) (HX20D.out.all) (by intro w hSw; obtain ⟨q0, q1, -, -⟩ := RgAt.cells hSw; go_simp; try with_reducible rfl) ?_
        (try simp only [Act.put, List.setIfInBounds_toArray, List.set_cons_zero, List.set_cons_succ])
        refine anyH_take (i := 3) (some 111) (v := _) rfl rfl (by kernel_rfl) (by kernel_rfl) (by kernel_rfl) (fun _ _ _ h => h) (by rfl) (HX20D.out.all) (by intro w hSw; obtain ⟨q0, q1, -, -⟩ := RgAt.cells hSw; go_simp; try with_reducible rfl) ?_
        (try simp only [Act.put, List.setIfInBounds_toArray, List.set_cons_zero, List.set_cons_succ])
        refine anyH_take (i := 4) (some 112) (v := _) rfl rfl (by kernel_rfl) (by kernel_rfl) (by kernel_rfl) (fun _ _ _ h => h) (by rfl) (HX20D.out.all) (by intro w hSw; obtain ⟨q0, q1, -, -⟩ := RgAt.cells hSw; go_simp; try with_reducible rfl) ?_
        (try simp only [Act.put, List.setIfInBounds_toArray, List.set_cons_zero, List.set_cons_succ])
        refine wpAnyH_ready (rs := [2]) (by kernel_rfl) (by simp) (AllReadyH.cons rfl (fun K hK => ?_) AllReadyH.nil)
        go_simp
        refine (D.points HX20D.out.two.fst.sit (by omega) (by omega) (by omega) (by omega)).mono ?_
        rintro e W21 ⟨v21, rfl, hr, hb⟩; replace hb := below_undrew hb
        have HX21 := Lib.hid (HX20.out.keep hb)
        have HU21 := Lib.hid (HU20.out.trans (hb.mono HU20.out.size))
        have HZ21 := Lib.hid (Nat.le_trans HZ20.out hb.size)
        have HV21 := Lib.hid hr.plies
        skip
        clear hb hr
        go_wp2_with fail
        refine hK.out _ _ (HX21.out.all) (fun _ => ?_)
        clear hK K
        (try simp only [Act.put, List.setIfInBounds_toArray, List.set_cons_zero, List.set_cons_succ])
        refine wpAnyH_ready (rs := [5]) (by kernel_rfl) (by simp) (AllReadyH.cons rfl (fun K hK => ?_) AllReadyH.nil)
        go_simp
        refine (D.points HX21.out.two.snd.sit (by omega) (by omega) (by omega) (by omega)).mono ?_
        rintro e W22 ⟨v22, rfl, hr, hb⟩
        have HX22 := Lib.hid (HX21.out.keep hb)
        have HU22 := Lib.hid (HU21.out.trans (hb.mono HU21.out.size))
        have HZ22 := Lib.hid (Nat.le_trans HZ21.out hb.size)
        have HV22 := Lib.hid hr.plies
        have HV21k := Lib.hid (HV21.out.beyond hb)
        clear hb hr
        go_wp2_with fail
        refine hK.out _ _ (HX22.out.all) (fun _ => ?_)
        clear hK K
        (try simp only [Act.put, List.setIfInBounds_toArray, List.set_cons_zero, List.set_cons_succ])
        refine wpAnyH_ready (rs := [6]) (by kernel_rfl) (by simp) (AllReadyH.cons rfl (fun K hK => ?_) AllReadyH.nil)
        go_simp
        refine (samePt_yes HV21k.out HV22.out (by have h1 := (D.good HX22.out.two.fst.sit).plen; have h2 : (getL sx.raw 0 1099511627777).length ≤ sx.raw.length := List.length_filter_le _ _; omega)).mono ?_
        rintro e W23 ⟨rfl, hb⟩
        have HX23 := Lib.hid (HX22.out.keep hb)
        have HU23 := Lib.hid (HU22.out.trans (hb.mono HU22.out.size))
        have HZ23 := Lib.hid (Nat.le_trans HZ22.out hb.size)
        clear hb
        go_wp2_with fail
        refine hK.out _ _ (HX23.out.all) (fun _ => ?_)
        clear hK K
        (try simp only [Act.put, List.setIfInBounds_toArray, List.set_cons_zero, List.set_cons_succ])
        refine anyH_take (i := 7) (some 115) (v := _) rfl rfl (by kernel_rfl) (by kernel_rfl) (by kernel_rfl) (fun _ _ _ h => h) (by rfl) (HX23.out.all) (by intro w hSw; obtain ⟨q0, q1, -, -⟩ := RgAt.cells hSw; go_simp; try with_reducible rfl) ?_
        (try simp only [Act.put, List.setIfInBounds_toArray, List.set_cons_zero, List.set_cons_succ])
        refine anyH_take (i := 8) (some 116) (v := _) rfl rfl (by kernel_rfl) (by kernel_rfl) (by kernel_rfl) (fun _ _ _ h => h) (by rfl) (HX23.out.all) (by intro w hSw; obtain ⟨q0, q1, -, -⟩ := RgAt.cells hSw; go_simp; try with_reducible rfl) ?_
        (try simp only [Act.put, List.setIfInBounds_toArray, List.set_cons_zero, List.set_cons_succ])
        refine anyH_take (i := 9) (some 117) (v := _) rfl rfl (by kernel_rfl) (by kernel_rfl) (by kernel_rfl) (fun _ _ _ h => h) (by rfl) (HX23.out.all) (by intro w hSw; obtain ⟨q0, q1, -, -⟩ := RgAt.cells hSw; go_simp; try with_reducible rfl) ?_
        (try simp only [Act.put, List.setIfInBounds_toArray, List.set_cons_zero, List.set_cons_succ])
        refine anyH_take (i := 10) (some 118) (v := _) rfl rfl (by kernel_rfl) (by kernel_rfl) (by kernel_rfl) (fun _ _ _ h => h) (by rfl) (HX23.out.all) (by intro w hSw; obtain ⟨q0, q1, -, -⟩ := RgAt.cells hSw; go_simp; try with_reducible rfl) ?_
        (try simp only [Act.put, List.setIfInBounds_toArray, List.set_cons_zero, List.set_cons_succ])
        refine anyH_take (i := 12) (some 120) (v := _) rfl rfl (by kernel_rfl) (by kernel_rfl) (by kernel_rfl) (fun _ _ _ h => h) (by rfl) (HX23.out.all) (by intro w hSw; obtain ⟨q0, q1, -, -⟩ := RgAt.cells hSw; go_simp; try with_reducible rfl) ?_
        (try simp only [Act.put, List.setIfInBounds_toArray, List.set_cons_zero, List.set_cons_succ])
        refine anyH_take (i := 13) (some 121) (v := _) rfl rfl (by kernel_rfl) (by kernel_rfl) (by kernel_rfl) (fun _ _ _ h => h) (by rfl) (HX23.out.all) (by intro w hSw; obtain ⟨q0, q1, -, -⟩ := RgAt.cells hSw; go_simp; try with_reducible rfl) ?_
        (try simp only [Act.put, List.setIfInBounds_toArray, List.set_cons_zero, List.set_cons_succ])
        refine wpAnyH_ready (rs := [11]) (by kernel_rfl) (by simp) (AllReadyH.cons rfl (fun K hK => ?_) AllReadyH.nil)
        go_simp
        refine (D.aggs (t := 1) HX23.out.two.fst.sit (by omega) (by omega) (by omega) (by omega) (by omega) (by omega)).mono ?_
        rintro e W24 ⟨v24, rfl, hr, hb⟩
        have HX24 := Lib.hid (HX23.out.keep hb)
        have HU24 := Lib.hid (HU23.out.trans (hb.mono HU23.out.size))
        have HZ24 := Lib.hid (Nat.le_trans HZ23.out hb.size)
        have HV24 := Lib.hid hr.lies
        skip
        clear hb hr
        go_wp2_with fail
        refine hK.out _ _ (HX24.out.all) (fun _ => ?_)
        clear hK K
        (try simp only [Act.put, List.setIfInBounds_toArray, List.set_cons_zero, List.set_cons_succ])
        refine wpAnyH_ready (rs := [14]) (by kernel_rfl) (by simp) (AllReadyH.cons rfl (fun K hK => ?_) AllReadyH.nil)
        go_simp
        refine (D.aggs (t := 1) HX24.out.two.snd.sit (by omega) (by omega) (by omega) (by omega) (by omega) (by omega)).mono ?_
        rintro e W25 ⟨v25, rfl, hr, hb⟩
        have HX25 := Lib.hid (HX24.out.keep hb)
        have HU25 := Lib.hid (HU24.out.trans (hb.mono HU24.out.size))
        have HZ25 := Lib.hid (Nat.le_trans HZ24.out hb.size)
        have HV25 := Lib.hid hr.lies
        have HV24k := Lib.hid (HV24.out.beyond hb)
        clear hb hr
        go_wp2_with fail
        refine hK.out _ _ (HX25.out.all) (fun _ => ?_)
        clear hK K
        (try simp only [Act.put, List.setIfInBounds_toArray, List.set_cons_zero, List.set_cons_succ])
        refine wpAnyH_ready (rs := [15]) (by kernel_rfl) (by simp) (AllReadyH.cons rfl (fun K hK => ?_) AllReadyH.nil)
        go_simp
        refine (sameAg_yes HV24k.out HV25.out (aggs_len (D.good HX25.out.two.fst.sit) _ _ _)).mono ?_
        rintro e W26 ⟨rfl, hb⟩
        have HX26 := Lib.hid (HX25.out.keep hb)
        have HU26 := Lib.hid (HU25.out.trans (hb.mono HU25.out.size))
        have HZ26 := Lib.hid (Nat.le_trans HZ25.out hb.size)
        clear hb
        go_wp2_with fail
        refine hK.out _ _ (HX26.out.all) (fun _ => ?_)
        clear hK K
        (try simp only [Act.put, List.setIfInBounds_toArray, List.set_cons_zero, List.set_cons_succ])
        refine anyH_take (i := 16) (some 124) (v := _) rfl rfl (by kernel_rfl) (by kernel_rfl) (by kernel_rfl) (fun _ _ _ h => h) (by rfl) (HX26.out.all) (by intro w hSw; obtain ⟨q0, q1, -, -⟩ := RgAt.cells hSw; go_simp; try with_reducible rfl) ?_
        (try simp only [Act.put, List.setIfInBounds_toArray, List.set_cons_zero, List.set_cons_succ])
        refine anyH_take (i := 17) (some 125) (v := _) rfl rfl (by kernel_rfl) (by kernel_rfl) (by kernel_rfl) (fun _ _ _ h => h) (by rfl) (HX26.out.all) (by intro w hSw; obtain ⟨q0, q1, -, -⟩ := RgAt.cells hSw; go_simp; try with_reducible rfl) ?_
        (try simp only [Act.put, List.setIfInBounds_toArray, List.set_cons_zero, List.set_cons_succ])
        refine anyH_take (i := 18) (some 126) (v := _) rfl rfl (by kernel_rfl) (by kernel_rfl) (by kernel_rfl) (fun _ _ _ h => h) (by rfl) (HX26.out.all) (by intro w hSw; obtain ⟨q0, q1, -, -⟩ := RgAt.cells hSw; go_simp; try with_reducible rfl) ?_
        (try simp only [Act.put, List.setIfInBounds_toArray, List.set_cons_zero, List.set_cons_succ])
        refine anyH_take (i := 19) (some 127) (v := _) rfl rfl (by kernel_rfl) (by kernel_rfl) (by kernel_rfl) (fun _ _ _ h => h) (by rfl) (HX26.out.all) (by intro w hSw; obtain ⟨q0, q1, -, -⟩ := RgAt.cells hSw; go_simp; try with_reducible rfl) ?_
        (try simp only [Act.put, List.setIfInBounds_toArray, List.set_cons_zero, List.set_cons_succ])
        refine anyH_take (i := 20) (some 128) (v := _) rfl rfl (by kernel_rfl) (by kernel_rfl) (by kernel_rfl) (fun _ _ _ h => h) (by rfl) (HX26.out.all) (by intro w hSw; obtain ⟨q0, q1, -, -⟩ := RgAt.cells hSw; go_simp; try with_reducible rfl) ?_
        (try simp only [Act.put, List.setIfInBounds_toArray, List.set_cons_zero, List.set_cons_succ])
        refine anyH_take (i := 22) (some 130) (v := _) rfl rfl (by kernel_rfl) (by kernel_rfl) (by kernel_rfl) (fun _ _ _ h => h) (by rfl) (HX26.out.all) (by intro w hSw; obtain ⟨q0, q1, -, -⟩ := RgAt.cells hSw; go_simp; try with_reducible rfl) ?_
        (try simp only [Act.put, List.setIfInBounds_toArray, List.set_cons_zero, List.set_cons_succ])
        refine anyH_take (i := 23) (some 131) (v := _) rfl rfl (by kernel_rfl) (by kernel_rfl) (by kernel_rfl) (fun _ _ _ h => h) (by rfl) (HX26.out.all) (by intro w hSw; obtain ⟨q0, q1, -, -⟩ := RgAt.cells hSw; go_simp; try with_reducible rfl) ?_
        (try simp only [Act.put, List.setIfInBounds_toArray, List.set_cons_zero, List.set_cons_succ])
        refine wpAnyH_ready (rs := [21]) (by kernel_rfl) (by simp) (AllReadyH.cons rfl (fun K hK => ?_) AllReadyH.nil)
        go_simp
        refine (D.aggs (t := 2) HX26.out.two.fst.sit (by omega) (by omega) (by omega) (by omega) (by omega) (by omega)).mono ?_
        rintro e W27 ⟨v27, rfl, hr, hb⟩
        have HX27 := Lib.hid (HX26.out.keep hb)
        have HU27 := Lib.hid (HU26.out.trans (hb.mono HU26.out.size))
        have HZ27 := Lib.hid (Nat.le_trans HZ26.out hb.size)
        have HV27 := Lib.hid hr.lies
        skip
        clear hb hr
        go_wp2_with fail
        refine hK.out _ _ (HX27.out.all) (fun _ => ?_)
        clear hK K
        (try simp only [Act.put, List.setIfInBounds_toArray, List.set_cons_zero, List.set_cons_succ])
        refine wpAnyH_ready (rs := [24]) (by kernel_rfl) (by simp) (AllReadyH.cons rfl (fun K hK => ?_) AllReadyH.nil)
        go_simp
        refine (D.aggs (t := 2) HX27.out.two.snd.sit (by omega) (by omega) (by omega) (by omega) (by omega) (by omega)).mono ?_
        rintro e W28 ⟨v28, rfl, hr, hb⟩
        have HX28 := Lib.hid (HX27.out.keep hb)
        have HU28 := Lib.hid (HU27.out.trans (hb.mono HU27.out.size))
        have HZ28 := Lib.hid (Nat.le_trans HZ27.out hb.size)
        have HV28 := Lib.hid hr.lies
        have HV27k := Lib.hid (HV27.out.beyond hb)
        clear hb hr
        go_wp2_with fail
        refine hK.out _ _ (HX28.out.all) (fun _ => ?_)
        clear hK K
        (try simp only [Act.put, List.setIfInBounds_toArray, List.set_cons_zero, List.set_cons_succ])
        refine wpAnyH_ready (rs := [25]) (by kernel_rfl) (by simp) (AllReadyH.cons rfl (fun K hK => ?_) AllReadyH.nil)
        go_simp
        refine (sameAg_yes HV27k.out HV28.out (aggs_len (D.good HX28.out.two.fst.sit) _ _ _)).mono ?_
        rintro e W29 ⟨rfl, hb⟩
        have HX29 := Lib.hid (HX28.out.keep hb)
        have HU29 := Lib.hid (HU28.out.trans (hb.mono HU28.out.size))
        have HZ29 := Lib.hid (Nat.le_trans HZ28.out hb.size)
        clear hb
        go_wp2_with fail
        refine hK.out _ _ (HX29.out.all) (fun _ => ?_)
        clear hK K
        (try simp only [Act.put, List.setIfInBounds_toArray, List.set_cons_zero, List.set_cons_succ])
        refine anyH_take (i := 26) (some 134) (v := _) rfl rfl (by kernel_rfl) (by kernel_rfl) (by kernel_rfl) (fun _ _ _ h => h) (by rfl) (HX29.out.all) (by intro w hSw; obtain ⟨q0, q1, -, -⟩ := RgAt.cells hSw; go_simp; try with_reducible rfl) ?_
        (try simp only [Act.put, List.setIfInBounds_toArray, List.set_cons_zero, List.set_cons_succ])
        refine anyH_take (i := 27) (some 135) (v := _) rfl rfl (by kernel_rfl) (by kernel_rfl) (by kernel_rfl) (fun _ _ _ h => h) (by rfl) (HX29.out.all) (by intro w hSw; obtain ⟨q0, q1, -, -⟩ := RgAt.cells hSw; go_simp; try with_reducible rfl) ?_
        (try simp only [Act.put, List.setIfInBounds_toArray, List.set_cons_zero, List.set_cons_succ])
        refine wpAnyH_done (by kernel_rfl) ?_ _
        go_wp2_with fail
        go_roundw
        case rel => exact ⟨z + 1, sx, by omega, by omega, rfl, HX29.out, HU29.out, HZ29.out⟩
        case measure => simp [intOf]; omega
    · obtain rfl : z = (M.length : Int) := by omega
      have tl : decide ((M.length : Int) < (M.length : Int)) = false := decide_eq_false (by omega)
      go_wp2
      go_ret
      exact ⟨rfl, HU10.out⟩
end Go.Proofs.Ytmpphidiofhnlaa
