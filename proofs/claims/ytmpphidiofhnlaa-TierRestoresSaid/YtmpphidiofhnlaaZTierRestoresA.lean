/- TierRestores, over what package tier does. Written by py/ti-restores.py. -/
import Derived.Test.YtmpphidiofhnlaaZTiLives
import Derived.Test.YtmpphidiofhnlaaZTiPlay3
import Derived.Test.YtmpphidiofhnlaaZTiSame
import Derived.Test.YtmpphidiofhnlaaZTiRest
import Derived.Deep.CutBlock
namespace Go.Proofs.Ytmpphidiofhnlaa
open Go.RowKit

theorem aggs_lenR {s : Stk} (h : GoodT s) (t a b : Int) : (aggsT s t a b).length ≤ 1000000 := by
  unfold aggsT
  split
  · have h1 : (s.mid.filter fun x => decide (a < b) && metA 300 a b x.at_).length ≤ s.mid.length := List.length_filter_le _ _
    have := h.mid.len; omega
  · split
    · have h1 : (s.long.filter fun x => decide (a < b) && metA 3600 a b x.at_).length ≤ s.long.length := List.length_filter_le _ _
      have := h.long.len; omega
    · simp
theorem marks3 {W : World} {P : Nat} {a b c : Value} {t : TypeId} (h : W.heap[P]? = some (.cells #[a, b, c] t (0, 0))) : W.cell? ⟨P, 0, none⟩ = some a ∧ W.cell? ⟨P, 1, none⟩ = some b ∧ W.cell? ⟨P, 2, none⟩ = some c ∧ W.frozen? ⟨P, 0, none⟩ = false ∧ W.frozen? ⟨P, 1, none⟩ = false ∧ W.frozen? ⟨P, 2, none⟩ = false := cells3 h
set_option maxHeartbeats 64000000 in
set_option maxRecDepth 1000000 in
theorem tierRestores_over (D : TierD) (E : TierR D) {w : World} {v0 v1 : Value} {L M : List TActL} {mk : Int} (hv : TActsAt w v0 L) (hin : ∀ x ∈ L, x.In) (hm : L.length ≤ maxLen) (hv1 : TActsAt w v1 M) (hin1 : ∀ x ∈ M, x.In) (hm1 : M.length ≤ maxLen)
    (hk0 : -9223372036854775808 ≤ mk) (hk1 : mk ≤ 9223372036854775807) :
    Calls Try.prog 4 #[v0, v1, .int .i64 mk] w fun e w' => e = .returned (.bool true) ∧ Below w.heap.size w w' := by
  have HV0 := Lib.hid hv
  have HV1 := Lib.hid hv1
  have HIN := Lib.hid hin
  have HIN1 := Lib.hid hin1
  have HMK := Lib.hid (And.intro hk0 hk1)
  have HLN : Hid (L.length ≤ 9223372036854775807 ∧ M.length ≤ 9223372036854775807) := Lib.hid (by unfold maxLen at hm hm1; omega)
  obtain ⟨ad1, b1, off1, cap1, rfl, hadr1, hacts1⟩ := hv1
  have HADR1 := Lib.hid hadr1
  have HA1 := Lib.hid hacts1
  have hmx : M.length ≤ 9223372036854775807 := HLN.out.2
  clear hv hin hin1 hm hm1 hadr1 hacts1 hk0 hk1
  have HLI : Hid (∀ W, Calls Try.prog 6 #[] W fun e w' => e = .returned (.bool true) ∧ Below W.heap.size W w') := Lib.hid fun W => tilives_any D W
  have HF0 : Hid (∀ W, Below w.heap.size w W → Calls Try.prog 7 #[v0, .int .i64 30] W fun e w' => e = .returned (.bool (fewT L 30)) ∧ Below W.heap.size W w') := Lib.hid fun W hb => few_any (HV0.out.keep hb) HLN.out.1 30
  have HF1 : Hid (∀ W, Below w.heap.size w W → Calls Try.prog 7 #[.slice ad1 M.length cap1, .int .i64 30] W fun e w' => e = .returned (.bool (fewT M 30)) ∧ Below W.heap.size W w') := Lib.hid fun W hb => few_any (HV1.out.keep hb) HLN.out.2 30
  obtain ⟨f0, hf0⟩ : ∃ f0, f0 = fewT L 30 := ⟨_, rfl⟩
  obtain ⟨f1, hf1⟩ : ∃ f1, f1 = fewT M 30 := ⟨_, rfl⟩
  rw [← hf0] at HF0
  rw [← hf1] at HF1
  have HFE : Hid (f0 = fewT L 30 ∧ f1 = fewT M 30) := Lib.hid ⟨hf0, hf1⟩
  clear hf0 hf1
  go_enter Try.func4, Try.ntmps4
  go_wp2_with fail
  refine (HLI.out w).mono ?_
  rintro e W1 ⟨rfl, hb⟩
  have HB1 := Lib.hid hb
  clear hb
  dsimp only
  go_wp2_with fail
  refine (HF0.out W1 HB1.out).mono ?_
  rintro e W2 ⟨rfl, hb⟩
  have HB2 := Lib.hid (HB1.out.trans (hb.mono HB1.out.size))
  clear hb HB1
  dsimp only
  cases f0 with
  | false =>
    go_wp2_with fail
    refine (HLI.out W2).mono ?_
    rintro e W3 ⟨rfl, hb⟩
    have HB3 := Lib.hid (HB2.out.trans (hb.mono HB2.out.size))
    clear hb
    dsimp only
    go_wp2
    go_ret
    exact ⟨rfl, HB3.out⟩
  | true =>
  go_wp2_with fail
  refine (HF1.out W2 HB2.out).mono ?_
  rintro e W2b ⟨rfl, hb⟩
  have HB2b := Lib.hid (HB2.out.trans (hb.mono HB2.out.size))
  clear hb HB2
  dsimp only
  cases f1 with
  | false =>
    go_wp2_with fail
    refine (HLI.out W2b).mono ?_
    rintro e W3 ⟨rfl, hb⟩
    have HB3 := Lib.hid (HB2b.out.trans (hb.mono HB2b.out.size))
    clear hb
    dsimp only
    go_wp2
    go_ret
    exact ⟨rfl, HB3.out⟩
  | true =>
  have HSM : Hid (∀ (K : List TActL), true = fewT K 30 → (∀ x ∈ K, x.l.length ≤ 40) ∧ K.length ≤ 30) := Lib.hid fun K hK => by
    unfold fewT at hK
    have hK' := hK.symm
    rw [Bool.and_eq_true, decide_eq_true_iff, List.all_eq_true] at hK'
    refine ⟨fun x hx => ?_, by omega⟩
    have h1 := hK'.1 x hx
    unfold fewAct at h1
    rw [Bool.and_eq_true, decide_eq_true_iff] at h1
    exact h1.1
  have HL40 := Lib.hid (HSM.out L HFE.out.1)
  have HM40 := Lib.hid (HSM.out M HFE.out.2)
  clear HSM HFE HF0 HF1 HLI
  go_wp2_with fail
  refine (tiplay3_any D (HV0.out.keep HB2b.out) HIN.out HL40.out.1 (by have := HL40.out.2; omega)).mono ?_
  rintro e W3 ⟨p, rfl, hs, hb⟩
  obtain ⟨B, hB⟩ : ∃ B, B = W2b.heap.size := ⟨_, rfl⟩
  rw [mapAct_id, ← hB] at hs
  have HBw : Hid (w.heap.size ≤ B) := Lib.hid (by rw [hB]; exact HB2b.out.size)
  have HU3 := Lib.hid (HB2b.out.trans (hb.mono HB2b.out.size))
  have HBS3 : Hid (B ≤ W3.heap.size) := Lib.hid (by rw [hB]; exact hb.size)
  obtain ⟨S, hS⟩ : ∃ S, S = playT L := ⟨_, rfl⟩
  rw [← hS] at hs
  have HLOW : Hid (S.mm ≤ 1099511627776) := Lib.hid (by rw [hS]; exact play_low fun x hx => (HIN.out x hx).pts)
  have HS3 := Lib.hid hs
  have HG : Hid (GoodT S) := Lib.hid (D.good hs.sit)
  obtain ⟨Z0, hZ0⟩ : ∃ Z0, Z0 = W3.heap.size := ⟨_, rfl⟩
  have HO3 : Hid (∀ k, D.own W3 p k → k < Z0) := Lib.hid fun k hk => by rw [hZ0]; exact D.lt HS3.out.sit hk
  have HBZ : Hid (B ≤ Z0) := Lib.hid (by rw [hZ0]; exact HBS3.out)
  clear hs hb hB hS HB2b HL40 HBS3
  dsimp only
  go_upto_region 5 with fail
  refine wp_name fun W4 hW4 => ?_
  obtain ⟨ZA, hZA⟩ : ∃ ZA, ZA = W3.heap.size := ⟨_, rfl⟩
  have hb4 : Below W3.heap.size W3 W4 := by rw [hW4.out]; exact (Below.refl _ _).alloc (Nat.le_refl _) _
  have HR4 : Hid (RgAt W4 ZA 0 1099511627777) := Lib.hid (by rw [hW4.out, hZA]; exact RgAt.new W3 _ _)
  have HS4 := Lib.hid (HS3.out.keep hb4)
  have HO4 : Hid (∀ k, D.own W4 p k → k < Z0) := Lib.hid fun k hk => HO3.out k ((D.keep HS3.out.sit (only_beyond (S := fun _ => False) hb4) (fun _ _ h => h)).2 k hk)
  have HU4 := Lib.hid (HU3.out.trans (hb4.mono HU3.out.size))
  have HZ4 : Hid (Z0 ≤ W4.heap.size) := Lib.hid (by rw [hZ0]; exact hb4.size)
  have HZA : Hid (ZA = Z0) := Lib.hid (by rw [hZA, hZ0])
  rw [← hZA]
  clear hW4 hZA hb4 hZ0 HS3 HO3 HU3
  have hmk1 := D.mark (t := 1) HS4.out.sit (by omega) (by omega)
  rw [show markT S 1 = S.mm from rfl] at hmk1
  have HK1 := Lib.hid hmk1
  clear hmk1
  go_wp2_with fail
  refine (HK1.out).mono ?_
  rintro e W4b ⟨rfl, hb⟩
  have HR4b := Lib.hid (HR4.out.keep hb)
  have HS4b := Lib.hid (HS4.out.keep hb)
  have HO4b : Hid (∀ k, D.own W4b p k → k < Z0) := Lib.hid fun k hk => HO4.out k ((D.keep HS4.out.sit (only_beyond (S := fun _ => False) hb) (fun _ _ h => h)).2 k hk)
  have HU4b := Lib.hid (HU4.out.trans (hb.mono HU4.out.size))
  have HZ4b := Lib.hid (Nat.le_trans HZ4.out hb.size)
  clear hb HR4 HS4 HO4 HU4 HZ4 HK1
  dsimp only
  have hmk2 := D.mark (t := 2) HS4b.out.sit (by omega) (by omega)
  rw [show markT S 2 = S.ml from rfl] at hmk2
  have HK2 := Lib.hid hmk2
  clear hmk2
  go_wp2_with fail
  refine (HK2.out).mono ?_
  rintro e W4c ⟨rfl, hb⟩
  have HR4c := Lib.hid (HR4b.out.keep hb)
  have HS4c := Lib.hid (HS4b.out.keep hb)
  have HO4c : Hid (∀ k, D.own W4c p k → k < Z0) := Lib.hid fun k hk => HO4b.out k ((D.keep HS4b.out.sit (only_beyond (S := fun _ => False) hb) (fun _ _ h => h)).2 k hk)
  have HU4c := Lib.hid (HU4b.out.trans (hb.mono HU4b.out.size))
  have HZ4c := Lib.hid (Nat.le_trans HZ4b.out hb.size)
  clear hb HR4b HS4b HO4b HU4b HZ4b HK2
  dsimp only
  go_upto_region 6 with fail
  refine wp_name fun W5 hW5 => ?_
  obtain ⟨ZB, hZB⟩ : ∃ ZB, ZB = W4c.heap.size := ⟨_, rfl⟩
  have hb5 : Below W4c.heap.size W4c W5 := by rw [hW5.out]; exact (Below.refl _ _).alloc (Nat.le_refl _) _
  have HA5 : Hid (W5.heap[ZB]? = some (.cells #[.int .i64 0, .int .i64 S.mm, .int .i64 S.ml] 49 (0, 0))) := Lib.hid (by rw [hW5.out, hZB]; exact heap_alloc_new W4c _)
  have HR5 := Lib.hid (HR4c.out.keep hb5)
  have HS5 := Lib.hid (HS4c.out.keep hb5)
  have HO5 : Hid (∀ k, D.own W5 p k → k < Z0) := Lib.hid fun k hk => HO4c.out k ((D.keep HS4c.out.sit (only_beyond (S := fun _ => False) hb5) (fun _ _ h => h)).2 k hk)
  have HU5 := Lib.hid (HU4c.out.trans (hb5.mono HU4c.out.size))
  have HZ5 := Lib.hid (Nat.le_trans HZ4c.out hb5.size)
  have HZB : Hid (Z0 ≤ ZB) := Lib.hid (by rw [hZB]; exact HZ4c.out)
  rw [← hZB]
  clear hW5 hZB hb5 HR4c HS4c HO4c HU4c HZ4c
  go_upto_region 6 with fail
  have HS5D := Lib.hid (HS5.out.keep ((Below.refl W5.heap.size W5).drew))
  refine wp_region_held_drew (S := fun W => RgAt W ZA 0 1099511627777) (by kernel_rfl) HR5.out.drew (fun _ => ?_)
  refine anyH_take (i := 0) (some 51) (v := _) rfl rfl (by kernel_rfl) (by kernel_rfl) (by kernel_rfl) (fun _ _ _ h => h) (by rfl) (HR5.out.drew) (by intro w hSw; obtain ⟨q0, q1, -, -⟩ := RgAt.cells hSw; go_simp; try with_reducible rfl) ?_
  (try simp only [Act.put, List.setIfInBounds_toArray, List.set_cons_zero, List.set_cons_succ])
  refine anyH_take (i := 1) (some 52) (v := _) rfl rfl (by kernel_rfl) (by kernel_rfl) (by kernel_rfl) (fun _ _ _ h => h) (by rfl) (HR5.out.drew) (by intro w hSw; obtain ⟨q0, q1, -, -⟩ := RgAt.cells hSw; go_simp; try with_reducible rfl) ?_
  (try simp only [Act.put, List.setIfInBounds_toArray, List.set_cons_zero, List.set_cons_succ])
  refine anyH_take (i := 3) (some 54) (v := _) rfl rfl (by kernel_rfl) (by kernel_rfl) (by kernel_rfl) (fun _ _ _ h => h) (by rfl) (HR5.out.drew) (by intro w hSw; obtain ⟨q0, q1, -, -⟩ := RgAt.cells hSw; go_simp; try with_reducible rfl) ?_
  (try simp only [Act.put, List.setIfInBounds_toArray, List.set_cons_zero, List.set_cons_succ])
  refine anyH_take (i := 4) (some 55) (v := _) rfl rfl (by kernel_rfl) (by kernel_rfl) (by kernel_rfl) (fun _ _ _ h => h) (by rfl) (HR5.out.drew) (by intro w hSw; obtain ⟨q0, q1, -, -⟩ := RgAt.cells hSw; go_simp; try with_reducible rfl) ?_
  (try simp only [Act.put, List.setIfInBounds_toArray, List.set_cons_zero, List.set_cons_succ])
  refine anyH_take (i := 6) (some 57) (v := _) rfl rfl (by kernel_rfl) (by kernel_rfl) (by kernel_rfl) (fun _ _ _ h => h) (by rfl) (HR5.out.drew) (by intro w hSw; obtain ⟨q0, q1, -, -⟩ := RgAt.cells hSw; go_simp; try with_reducible rfl) ?_
  (try simp only [Act.put, List.setIfInBounds_toArray, List.set_cons_zero, List.set_cons_succ])
  refine anyH_take (i := 7) (some 58) (v := _) rfl rfl (by kernel_rfl) (by kernel_rfl) (by kernel_rfl) (fun _ _ _ h => h) (by rfl) (HR5.out.drew) (by intro w hSw; obtain ⟨q0, q1, -, -⟩ := RgAt.cells hSw; go_simp; try with_reducible rfl) ?_
  (try simp only [Act.put, List.setIfInBounds_toArray, List.set_cons_zero, List.set_cons_succ])
  refine wpAnyH_ready (rs := [2]) (by kernel_rfl) (by simp) (AllReadyH.cons rfl (fun K hK => ?_) AllReadyH.nil)
  go_simp
  refine (D.points HS5D.out.sit (by omega) (by omega) (by omega) (by omega)).mono ?_
  rintro e W6 ⟨v6, rfl, hr, hb⟩; replace hb := below_undrew hb
  have HS6 := Lib.hid (HS5.out.keep hb)
  have HR6 := Lib.hid (HR5.out.keep hb)
  have HA6 := Lib.hid (((hb.block _ (lt_of_block HA5.out)).trans HA5.out : W6.heap[ZB]? = some (.cells #[.int .i64 0, .int .i64 S.mm, .int .i64 S.ml] 49 (0, 0))))
  have HU6 := Lib.hid (HU5.out.trans (hb.mono HU5.out.size))
  have HO6 : Hid (∀ k, D.own W6 p k → k < Z0) := Lib.hid fun k hk => HO5.out k ((D.keep HS5.out.sit (only_beyond (S := fun _ => False) hb) (fun _ _ h => h)).2 k hk)
  have HZ6 := Lib.hid (Nat.le_trans HZ5.out hb.size)
  have hrb := hr.base HZ5.out
  rw [all_points HG.out] at hrb
  have HP6 : Hid (PtRowB Z0 W6 v6 S.raw) := Lib.hid hrb
  clear hb hr hrb
  go_wp2_with fail
  refine hK.out _ _ (HR6.out) (fun _ => ?_)
  clear hK K
  (try simp only [Act.put, List.setIfInBounds_toArray, List.set_cons_zero, List.set_cons_succ])
  refine wpAnyH_ready (rs := [5]) (by kernel_rfl) (by simp) (AllReadyH.cons rfl (fun K hK => ?_) AllReadyH.nil)
  go_simp
  refine (D.aggs (t := 1) HS6.out.sit (by omega) (by omega) (by omega) (by omega) (by omega) (by omega)).mono ?_
  rintro e W7 ⟨v7, rfl, hr, hb⟩
  have HS7 := Lib.hid (HS6.out.keep hb)
  have HR7 := Lib.hid (HR6.out.keep hb)
  have HA7 := Lib.hid (((hb.block _ (lt_of_block HA6.out)).trans HA6.out : W7.heap[ZB]? = some (.cells #[.int .i64 0, .int .i64 S.mm, .int .i64 S.ml] 49 (0, 0))))
  have HU7 := Lib.hid (HU6.out.trans (hb.mono HU6.out.size))
  have HO7 : Hid (∀ k, D.own W7 p k → k < Z0) := Lib.hid fun k hk => HO6.out k ((D.keep HS6.out.sit (only_beyond (S := fun _ => False) hb) (fun _ _ h => h)).2 k hk)
  have HZ7 := Lib.hid (Nat.le_trans HZ6.out hb.size)
  have hrb := hr.base HZ6.out
  rw [all_mid HG.out HLOW.out] at hrb
  have HP7 := Lib.hid (HP6.out.keep hb)
  have HM7 : Hid (AgRow Z0 W7 v7 S.mid) := Lib.hid hrb
  clear hb hr hrb
  go_wp2_with fail
  refine hK.out _ _ (HR7.out) (fun _ => ?_)
  clear hK K
  (try simp only [Act.put, List.setIfInBounds_toArray, List.set_cons_zero, List.set_cons_succ])
  refine wpAnyH_ready (rs := [8]) (by kernel_rfl) (by simp) (AllReadyH.cons rfl (fun K hK => ?_) AllReadyH.nil)
  go_simp
  refine (D.aggs (t := 2) HS7.out.sit (by omega) (by omega) (by omega) (by omega) (by omega) (by omega)).mono ?_
  rintro e W8 ⟨v8, rfl, hr, hb⟩
  have HS8 := Lib.hid (HS7.out.keep hb)
  have HR8 := Lib.hid (HR7.out.keep hb)
  have HA8 := Lib.hid (((hb.block _ (lt_of_block HA7.out)).trans HA7.out : W8.heap[ZB]? = some (.cells #[.int .i64 0, .int .i64 S.mm, .int .i64 S.ml] 49 (0, 0))))
  have HU8 := Lib.hid (HU7.out.trans (hb.mono HU7.out.size))
  have HO8 : Hid (∀ k, D.own W8 p k → k < Z0) := Lib.hid fun k hk => HO7.out k ((D.keep HS7.out.sit (only_beyond (S := fun _ => False) hb) (fun _ _ h => h)).2 k hk)
  have HZ8 := Lib.hid (Nat.le_trans HZ7.out hb.size)
  have hrb := hr.base HZ7.out
  rw [all_long HG.out HLOW.out] at hrb
  have HP8 := Lib.hid (HP7.out.keep hb)
  have HM8 := Lib.hid (HM7.out.keep hb)
  have HL8 : Hid (AgRow Z0 W8 v8 S.long) := Lib.hid hrb
  clear hb hr hrb
  go_wp2_with fail
  refine hK.out _ _ (HR8.out) (fun _ => ?_)
  clear hK K
  (try simp only [Act.put, List.setIfInBounds_toArray, List.set_cons_zero, List.set_cons_succ])
  refine anyH_take (i := 9) (some 10) (v := _) rfl rfl (by kernel_rfl) (by kernel_rfl) (by kernel_rfl) (fun _ _ _ h => h) (by rfl) (HR8.out) (by intro w hSw; obtain ⟨q0, q1, -, -⟩ := RgAt.cells hSw; go_simp; try with_reducible rfl) ?_
  (try simp only [Act.put, List.setIfInBounds_toArray, List.set_cons_zero, List.set_cons_succ])
  refine anyH_take (i := 10) (some 11) (v := _) rfl rfl (by kernel_rfl) (by kernel_rfl) (by kernel_rfl) (fun _ _ _ h => h) (by rfl) (HR8.out) (by intro w hSw; obtain ⟨q0, q1, -, -⟩ := RgAt.cells hSw; go_simp; try with_reducible rfl) ?_
  (try simp only [Act.put, List.setIfInBounds_toArray, List.set_cons_zero, List.set_cons_succ])
  refine anyH_take (i := 11) (some 12) (v := _) rfl rfl (by kernel_rfl) (by kernel_rfl) (by kernel_rfl) (fun _ _ _ h => h) (by rfl) (HR8.out) (by intro w hSw; obtain ⟨q0, q1, -, -⟩ := RgAt.cells hSw; go_simp; try with_reducible rfl) ?_
  (try simp only [Act.put, List.setIfInBounds_toArray, List.set_cons_zero, List.set_cons_succ])
  refine wpAnyH_done (by kernel_rfl) ?_ _
  obtain ⟨c0, c1, c2, -, -, -⟩ := marks3 HA8.out
  have hcall := E.restore (m0 := 0) (m1 := S.mm) (m2 := S.ml) HP8.out.plies HM8.out.lies HL8.out.lies HG.out.pfits HG.out.mid.fits HG.out.long.fits (by have := HG.out.plen; omega) (by have := HG.out.mid.len; omega) (by have := HG.out.long.len; omega) (by omega) (by omega) (by have := HG.out.mm; omega) (by have := HG.out.mm; omega) (by have := HG.out.ml; have := HG.out.mm; omega) (by have := HG.out.ml; have := HG.out.mm; omega)
  rw [restOk_own HG.out] at hcall
  have HC := Lib.hid hcall
  clear hcall
  go_wp2_with fail
  refine (HC.out).mono ?_
  rintro e W9 ⟨hb, ⟨-, q, rfl, hq, hown⟩ | ⟨hbad, -⟩⟩
  rotate_left
  · cases hbad
  obtain ⟨Z1, hZ1⟩ : ∃ Z1, Z1 = W8.heap.size := ⟨_, rfl⟩
  have HX9 : Hid (PairZ D B Z0 Z1 W9 W9 p S q S) := Lib.hid ⟨HS8.out.two (Nat.le_trans HBZ.out HZ8.out) hb hq hown, fun k k0 k1 hk => by
      have := HO8.out k ((D.keep HS8.out.sit (only_beyond (S := fun _ => False) hb) (fun _ _ h => h)).2 k hk)
      omega, fun k k0 k1 hk => by have := hown k hk; omega, Only.refl _ _, by rw [hZ1]; exact hb.size⟩
  have HRA : Hid (∀ W, Only (fun k => ¬ (Z0 ≤ k ∧ k < Z1)) W9 W → RgAt W ZA 0 1099511627777) := Lib.hid fun W ho => (HR8.out.keep hb).only ho (fun h => h ⟨by rw [HZA.out]; exact Nat.le_refl _, by rw [hZ1]; exact lt_of_block HR8.out⟩)
  have HAB : Hid (∀ W, Only (fun k => ¬ (Z0 ≤ k ∧ k < Z1)) W9 W → W.heap[ZB]? = some (.cells #[.int .i64 0, .int .i64 S.mm, .int .i64 S.ml] 49 (0, 0))) := Lib.hid fun W ho => by
    have h9 := (hb.block _ (lt_of_block HA8.out)).trans HA8.out
    exact (ho.block ZB (lt_of_block h9) (fun h => h ⟨HZB.out, by rw [hZ1]; exact lt_of_block HA8.out⟩)).trans h9
  have HPZ : Hid (∀ W, Only (fun k => ¬ (Z0 ≤ k ∧ k < Z1)) W9 W → PLies W v6 S.raw) := Lib.hid fun W ho => by
    have h1 : PtRowB Z0 W9 v6 S.raw := HP8.out.keep hb
    have h2 : PtRowB Z0 W v6 S.raw := row_only h1 ho (fun k hk h => h ⟨(HP8.out.lt k hk).1, by rw [hZ1]; exact (HP8.out.lt k hk).2⟩)
    exact h2.plies
  have HMZ : Hid (∀ W, Only (fun k => ¬ (Z0 ≤ k ∧ k < Z1)) W9 W → ALies W v7 S.mid) := Lib.hid fun W ho => by
    have h1 : AgRow Z0 W9 v7 S.mid := HM8.out.keep hb
    have h2 : AgRow Z0 W v7 S.mid := row_only h1 ho (fun k hk h => h ⟨(HM8.out.lt k hk).1, by rw [hZ1]; exact (HM8.out.lt k hk).2⟩)
    exact h2.lies
  have HLZ : Hid (∀ W, Only (fun k => ¬ (Z0 ≤ k ∧ k < Z1)) W9 W → ALies W v8 S.long) := Lib.hid fun W ho => by
    have h1 : AgRow Z0 W9 v8 S.long := HL8.out.keep hb
    have h2 : AgRow Z0 W v8 S.long := row_only h1 ho (fun k hk h => h ⟨(HL8.out.lt k hk).1, by rw [hZ1]; exact (HL8.out.lt k hk).2⟩)
    exact h2.lies
  have HU9 := Lib.hid (HU8.out.trans (hb.mono HU8.out.size))
  have HBS9 : Hid (B ≤ W9.heap.size) := Lib.hid (Nat.le_trans HBZ.out (Nat.le_trans HZ8.out hb.size))
  clear hb hq hown hZ1 HC c0 c1 c2 HP8 HM8 HL8 HR8 HA8 HS8 HO8 HU8 HZ8 HR5 HS5 HO5 HU5 HZ5 HA5
  dsimp only
  go_wp2_with fail
  go_loopw [72] (fun c wr => ∃ (j : Nat) (s' : Stk), j ≤ M.length ∧ c = .int .i64 j ∧ PairZ D B Z0 Z1 W9 wr p s' q s' ∧ Below w.heap.size w wr ∧ B ≤ wr.heap.size) (fun c _ => M.length - (intOf c).toNat)
  case atStart => exact ⟨0, S, Nat.zero_le _, rfl, HX9.out, HU9.out, HBS9.out⟩
  case round =>
    obtain ⟨j, s0, hj, rfl, hx, hu, hbs⟩ := hrel
    obtain ⟨W10, hW10⟩ : ∃ W10, W10 = wr := ⟨_, rfl⟩
    subst hW10
    have HX10 := Lib.hid hx
    have HU10 := Lib.hid hu
    have HBS10 := Lib.hid hbs
    clear hx hu hbs HX9 HU9 HBS9
    by_cases hjm : j < M.length
    · as_aux_lemma =>
        have ea := HADR1.out (by intro h; simp [h] at hjm)
        subst ea
        obtain ⟨x, hx⟩ : ∃ x, M[j]? = some x := ⟨M[j], List.getElem?_eq_getElem hjm⟩
        obtain ⟨u, e0, e1, e2, e3, e4, hpl, -⟩ := HA1.out j x hx
        have HPLw := Lib.hid hpl
        obtain ⟨ua, ub, uo, uc, rfl, -, -⟩ := hpl
        have ek : ∀ o v, w.cell? ⟨b1, o, none⟩ = some v → W10.cell? ⟨b1, o, none⟩ = some v := fun o v hv => (HU10.out.cell (p := ⟨b1, o, none⟩) (cell_lt hv)).trans hv
        have c0 := ek _ _ e0
        have c1 := ek _ _ e1
        have c2 := ek _ _ e2
        have c3 := ek _ _ e3
        have c4 := ek _ _ e4
        clear e0 e1 e2 e3 e4 ek
        have HXI := Lib.hid (HIN1.out x (List.mem_of_getElem? hx))
        have HX40 : Hid (x.l.length ≤ 40) := Lib.hid (HM40.out.1 x (List.mem_of_getElem? hx))
        clear hx
        go_upto_region 13 with fail
        refine wp_name fun W11 hW11 => ?_
        obtain ⟨N, hN⟩ : ∃ N, N = W10.heap.size := ⟨_, rfl⟩
        have hb11 : Below W10.heap.size W10 W11 := by rw [hW11.out]; exact (Below.refl _ _).alloc (Nat.le_refl _) _
        have p0 : W11.heap[N]? = some (.cells #[.int .i64 x.kind, .int .i64 x.at_, .slice ua x.l.length uc, .int .i64 x.a, .int .i64 x.b] 37 (0, 0)) := by rw [hW11.out, hN]; exact heap_alloc_new W10 _
        have HX11 := Lib.hid (HX10.out.keep hb11)
        have HU11 := Lib.hid (HU10.out.trans (hb11.mono HU10.out.size))
        have HBS11 := Lib.hid (Nat.le_trans HBS10.out hb11.size)
        have HPL11 := Lib.hid (HPLw.out.beyond HU11.out)
        have HN11 := Lib.hid p0
        have HFAR : Hid (∀ k, D.own W11 p k → k ≠ N) := Lib.hid fun k hk => by
          obtain ⟨_, h2⟩ := D.keep HX10.out.two.fst.sit (only_beyond (S := fun _ => False) hb11) (fun _ _ h => h)
          have := D.lt HX10.out.two.fst.sit (h2 k hk)
          omega
        have HFAQ : Hid (∀ k, D.own W11 q k → k ≠ N) := Lib.hid fun k hk => by
          obtain ⟨_, h2⟩ := D.keep HX10.out.two.snd.sit (only_beyond (S := fun _ => False) hb11) (fun _ _ h => h)
          have := D.lt HX10.out.two.snd.sit (h2 k hk)
          omega
        obtain ⟨q0, q1, q2, q3, q4⟩ := tact_cells p0
        rw [← hN]
        clear hW11 hN hb11 p0 c0 c1 c2 c3 c4 HX10 HU10 HBS10
        go_upto_block 2 with fail
        go_cut [17, 18] (fun s17 s18 W => (∃ z : Int, s17 = .int .i64 z ∧ s18 = .int .i64 z) ∧ ∃ sx, PairZ D B Z0 Z1 W9 W p sx q sx ∧ Below w.heap.size w W ∧ B ≤ W.heap.size)
        case first =>
          by_cases hk : x.kind = 0
          · as_aux_lemma =>
              have t0 : (x.kind == 0) = true := by rw [hk]; rfl
              clear hk
              have hcall : Hid (∀ (W : World) (r : Nat), D.sit W r s0 → PLies W (.slice ua x.l.length uc) x.l → Calls Try.prog 14 #[.pointer (some ⟨r, 0, none⟩), .slice ua x.l.length uc] W fun e w' => e = .returned (.tuple #[.int .i64 (putR s0 x.l).1, .int .i64 (putR s0 x.l).2]) ∧ D.sit w' r (putT s0 x.l) ∧ (∀ k, D.own w' r k → D.own W r k ∨ W.heap.size ≤ k) ∧ Only (D.own W r) W w') := Lib.hid fun W r hs hp => D.put hs hp HXI.out.pts (by have := HX40.out; omega)
              obtain ⟨pn, hpn⟩ : ∃ pn, pn = (putR s0 x.l).1 := ⟨_, rfl⟩
              obtain ⟨pe, hpe⟩ : ∃ pe, pe = (putR s0 x.l).2 := ⟨_, rfl⟩
              rw [← hpn, ← hpe] at hcall
              clear hpn hpe
              go_wp2_with fail
              refine (hcall.out _ _ HX11.out.two.fst.sit HPL11.out).mono ?_
              rintro e W12 ⟨rfl, h1, h2, h3⟩
              have hst := HX11.out.step HBS11.out h1 h2 h3
              have p12 := (h3.block N (lt_of_block HN11.out) (fun hk => HFAR.out N hk rfl)).trans HN11.out
              have HX12 := Lib.hid hst.1
              have HBS12 := Lib.hid (Nat.le_trans HBS11.out hst.2.size)
              have HU12 := Lib.hid (HU11.out.trans (hst.2.mono HBw.out))
              have HPL12 := Lib.hid (HPLw.out.beyond HU12.out)
              clear q0 q1 q2 q3 q4
              obtain ⟨q0, q1, q2, q3, q4⟩ := tact_cells p12
              clear p12
              clear h1 h2 h3 hst
              dsimp only
              go_wp2_with fail
              refine (hcall.out _ _ HX12.out.two.snd.sit HPL12.out).mono ?_
              rintro e W13 ⟨rfl, h1, h2, h3⟩
              have hst := HX12.out.turn.step HBS12.out h1 h2 h3
              have HX13 := Lib.hid hst.1.turn
              have HBS13 := Lib.hid (Nat.le_trans HBS12.out hst.2.size)
              have HU13 := Lib.hid (HU12.out.trans (hst.2.mono HBw.out))
              clear h1 h2 h3 hst
              dsimp only
              go_wp2_with fail
              go_meet
              exact ⟨⟨_, rfl, rfl⟩, _, HX13.out, HU13.out, HBS13.out⟩
          have t0 : (x.kind == 0) = false := by simpa using hk
          clear hk
          by_cases hk : x.kind = 1
          · as_aux_lemma =>
              have t0 : (x.kind == 0) = false := by rw [hk]; rfl
              have t1 : (x.kind == 1) = true := by rw [hk]; rfl
              clear hk
              have hcall : Hid (∀ (W : World) (r : Nat), D.sit W r s0 → PLies W (.slice ua x.l.length uc) x.l → Calls Try.prog 14 #[.pointer (some ⟨r, 0, none⟩), .slice ua x.l.length uc] W fun e w' => e = .returned (.tuple #[.int .i64 (putR s0 x.l).1, .int .i64 (putR s0 x.l).2]) ∧ D.sit w' r (putT s0 x.l) ∧ (∀ k, D.own w' r k → D.own W r k ∨ W.heap.size ≤ k) ∧ Only (D.own W r) W w') := Lib.hid fun W r hs hp => D.put hs hp HXI.out.pts (by have := HX40.out; omega)
              obtain ⟨pn, hpn⟩ : ∃ pn, pn = (putR s0 x.l).1 := ⟨_, rfl⟩
              obtain ⟨pe, hpe⟩ : ∃ pe, pe = (putR s0 x.l).2 := ⟨_, rfl⟩
              rw [← hpn, ← hpe] at hcall
              clear hpn hpe
              go_wp2_with fail
              refine (hcall.out _ _ HX11.out.two.fst.sit HPL11.out).mono ?_
              rintro e W12 ⟨rfl, h1, h2, h3⟩
              have hst := HX11.out.step HBS11.out h1 h2 h3
              have p12 := (h3.block N (lt_of_block HN11.out) (fun hk => HFAR.out N hk rfl)).trans HN11.out
              have HX12 := Lib.hid hst.1
              have HBS12 := Lib.hid (Nat.le_trans HBS11.out hst.2.size)
              have HU12 := Lib.hid (HU11.out.trans (hst.2.mono HBw.out))
              have HPL12 := Lib.hid (HPLw.out.beyond HU12.out)
              clear q0 q1 q2 q3 q4
              obtain ⟨q0, q1, q2, q3, q4⟩ := tact_cells p12
              clear p12
              clear h1 h2 h3 hst
              dsimp only
              go_wp2_with fail
              refine (hcall.out _ _ HX12.out.two.snd.sit HPL12.out).mono ?_
              rintro e W13 ⟨rfl, h1, h2, h3⟩
              have hst := HX12.out.turn.step HBS12.out h1 h2 h3
              have HX13 := Lib.hid hst.1.turn
              have HBS13 := Lib.hid (Nat.le_trans HBS12.out hst.2.size)
              have HU13 := Lib.hid (HU12.out.trans (hst.2.mono HBw.out))
              clear h1 h2 h3 hst
              dsimp only
              go_wp2_with fail
              go_meet
              exact ⟨⟨_, rfl, rfl⟩, _, HX13.out, HU13.out, HBS13.out⟩
          have t1 : (x.kind == 1) = false := by simpa using hk
          clear hk
          by_cases hk : x.kind = 2
          · as_aux_lemma =>
              have t0 : (x.kind == 0) = false := by rw [hk]; rfl
              have t1 : (x.kind == 1) = false := by rw [hk]; rfl
              have t2 : (x.kind == 2) = true := by rw [hk]; rfl
              clear hk
              have hcall : Hid (∀ (W : World) (r : Nat), D.sit W r s0 → PLies W (.slice ua x.l.length uc) x.l → Calls Try.prog 14 #[.pointer (some ⟨r, 0, none⟩), .slice ua x.l.length uc] W fun e w' => e = .returned (.tuple #[.int .i64 (putR s0 x.l).1, .int .i64 (putR s0 x.l).2]) ∧ D.sit w' r (putT s0 x.l) ∧ (∀ k, D.own w' r k → D.own W r k ∨ W.heap.size ≤ k) ∧ Only (D.own W r) W w') := Lib.hid fun W r hs hp => D.put hs hp HXI.out.pts (by have := HX40.out; omega)
              obtain ⟨pn, hpn⟩ : ∃ pn, pn = (putR s0 x.l).1 := ⟨_, rfl⟩
              obtain ⟨pe, hpe⟩ : ∃ pe, pe = (putR s0 x.l).2 := ⟨_, rfl⟩
              rw [← hpn, ← hpe] at hcall
              clear hpn hpe
              go_wp2_with fail
              refine (hcall.out _ _ HX11.out.two.fst.sit HPL11.out).mono ?_
              rintro e W12 ⟨rfl, h1, h2, h3⟩
              have hst := HX11.out.step HBS11.out h1 h2 h3
              have p12 := (h3.block N (lt_of_block HN11.out) (fun hk => HFAR.out N hk rfl)).trans HN11.out
              have HX12 := Lib.hid hst.1
              have HBS12 := Lib.hid (Nat.le_trans HBS11.out hst.2.size)
              have HU12 := Lib.hid (HU11.out.trans (hst.2.mono HBw.out))
              have HPL12 := Lib.hid (HPLw.out.beyond HU12.out)
              clear q0 q1 q2 q3 q4
              obtain ⟨q0, q1, q2, q3, q4⟩ := tact_cells p12
              clear p12
              clear h1 h2 h3 hst
              dsimp only
              go_wp2_with fail
              refine (hcall.out _ _ HX12.out.two.snd.sit HPL12.out).mono ?_
              rintro e W13 ⟨rfl, h1, h2, h3⟩
              have hst := HX12.out.turn.step HBS12.out h1 h2 h3
              have HX13 := Lib.hid hst.1.turn
              have HBS13 := Lib.hid (Nat.le_trans HBS12.out hst.2.size)
              have HU13 := Lib.hid (HU12.out.trans (hst.2.mono HBw.out))
              clear h1 h2 h3 hst
              dsimp only
              go_wp2_with fail
              go_meet
              exact ⟨⟨_, rfl, rfl⟩, _, HX13.out, HU13.out, HBS13.out⟩
          have t2 : (x.kind == 2) = false := by simpa using hk
          clear hk
          by_cases hk : x.kind = 3
          · as_aux_lemma =>
              have t0 : (x.kind == 0) = false := by rw [hk]; rfl
              have t1 : (x.kind == 1) = false := by rw [hk]; rfl
              have t2 : (x.kind == 2) = false := by rw [hk]; rfl
              have t3 : (x.kind == 3) = true := by rw [hk]; rfl
              clear hk
              have hcall : Hid (∀ (W : World) (r : Nat), D.sit W r s0 → Calls Try.prog 15 #[.pointer (some ⟨r, 0, none⟩), .int .i64 x.at_] W fun e w' => e = .returned (.tuple #[.int .i64 (rollR s0 x.at_).1, .int .i64 (rollR s0 x.at_).2]) ∧ D.sit w' r (rollT s0 x.at_) ∧ (∀ k, D.own w' r k → D.own W r k ∨ W.heap.size ≤ k) ∧ Only (D.own W r) W w') := Lib.hid fun W r hs => D.roll hs HXI.out.t0 HXI.out.t1
              obtain ⟨pn, hpn⟩ : ∃ pn, pn = (rollR s0 x.at_).1 := ⟨_, rfl⟩
              obtain ⟨pe, hpe⟩ : ∃ pe, pe = (rollR s0 x.at_).2 := ⟨_, rfl⟩
              rw [← hpn, ← hpe] at hcall
              clear hpn hpe
              go_wp2_with fail
              refine (hcall.out _ _ HX11.out.two.fst.sit).mono ?_
              rintro e W12 ⟨rfl, h1, h2, h3⟩
              have hst := HX11.out.step HBS11.out h1 h2 h3
              have p12 := (h3.block N (lt_of_block HN11.out) (fun hk => HFAR.out N hk rfl)).trans HN11.out
              have HX12 := Lib.hid hst.1
              have HBS12 := Lib.hid (Nat.le_trans HBS11.out hst.2.size)
              have HU12 := Lib.hid (HU11.out.trans (hst.2.mono HBw.out))
              have HPL12 := Lib.hid (HPLw.out.beyond HU12.out)
              clear q0 q1 q2 q3 q4
              obtain ⟨q0, q1, q2, q3, q4⟩ := tact_cells p12
              clear p12
              clear h1 h2 h3 hst
              dsimp only
              go_wp2_with fail
              refine (hcall.out _ _ HX12.out.two.snd.sit).mono ?_
              rintro e W13 ⟨rfl, h1, h2, h3⟩
              have hst := HX12.out.turn.step HBS12.out h1 h2 h3
              have HX13 := Lib.hid hst.1.turn
              have HBS13 := Lib.hid (Nat.le_trans HBS12.out hst.2.size)
              have HU13 := Lib.hid (HU12.out.trans (hst.2.mono HBw.out))
              clear h1 h2 h3 hst
              dsimp only
              go_wp2_with fail
              go_meet
              exact ⟨⟨_, rfl, rfl⟩, _, HX13.out, HU13.out, HBS13.out⟩
          have t3 : (x.kind == 3) = false := by simpa using hk
          clear hk
          by_cases hk : x.kind = 4
          · as_aux_lemma =>
              have t0 : (x.kind == 0) = false := by rw [hk]; rfl
              have t1 : (x.kind == 1) = false := by rw [hk]; rfl
              have t2 : (x.kind == 2) = false := by rw [hk]; rfl
              have t3 : (x.kind == 3) = false := by rw [hk]; rfl
              have t4 : (x.kind == 4) = true := by rw [hk]; rfl
              clear hk
              have hcall : Hid (∀ (W : World) (r : Nat), D.sit W r s0 → Calls Try.prog 15 #[.pointer (some ⟨r, 0, none⟩), .int .i64 x.at_] W fun e w' => e = .returned (.tuple #[.int .i64 (rollR s0 x.at_).1, .int .i64 (rollR s0 x.at_).2]) ∧ D.sit w' r (rollT s0 x.at_) ∧ (∀ k, D.own w' r k → D.own W r k ∨ W.heap.size ≤ k) ∧ Only (D.own W r) W w') := Lib.hid fun W r hs => D.roll hs HXI.out.t0 HXI.out.t1
              obtain ⟨pn, hpn⟩ : ∃ pn, pn = (rollR s0 x.at_).1 := ⟨_, rfl⟩
              obtain ⟨pe, hpe⟩ : ∃ pe, pe = (rollR s0 x.at_).2 := ⟨_, rfl⟩
              rw [← hpn, ← hpe] at hcall
              clear hpn hpe
              go_wp2_with fail
              refine (hcall.out _ _ HX11.out.two.fst.sit).mono ?_
              rintro e W12 ⟨rfl, h1, h2, h3⟩
              have hst := HX11.out.step HBS11.out h1 h2 h3
              have p12 := (h3.block N (lt_of_block HN11.out) (fun hk => HFAR.out N hk rfl)).trans HN11.out
              have HX12 := Lib.hid hst.1
              have HBS12 := Lib.hid (Nat.le_trans HBS11.out hst.2.size)
              have HU12 := Lib.hid (HU11.out.trans (hst.2.mono HBw.out))
              have HPL12 := Lib.hid (HPLw.out.beyond HU12.out)
              clear q0 q1 q2 q3 q4
              obtain ⟨q0, q1, q2, q3, q4⟩ := tact_cells p12
              clear p12
              clear h1 h2 h3 hst
              dsimp only
              go_wp2_with fail
              refine (hcall.out _ _ HX12.out.two.snd.sit).mono ?_
              rintro e W13 ⟨rfl, h1, h2, h3⟩
              have hst := HX12.out.turn.step HBS12.out h1 h2 h3
              have HX13 := Lib.hid hst.1.turn
              have HBS13 := Lib.hid (Nat.le_trans HBS12.out hst.2.size)
              have HU13 := Lib.hid (HU12.out.trans (hst.2.mono HBw.out))
              clear h1 h2 h3 hst
              dsimp only
              go_wp2_with fail
              go_meet
              exact ⟨⟨_, rfl, rfl⟩, _, HX13.out, HU13.out, HBS13.out⟩
          have t4 : (x.kind == 4) = false := by simpa using hk
          clear hk
          have hcall : Hid (∀ (W : World) (r : Nat), D.sit W r s0 → Calls Try.prog 13 #[.pointer (some ⟨r, 0, none⟩), .agg #[.int .i64 x.a, .int .i64 x.b]] W fun e w' => e = .returned (.int .i64 (goneR s0 x.a x.b)) ∧ D.sit w' r (purgeT s0 x.a x.b) ∧ (∀ k, D.own w' r k → D.own W r k ∨ W.heap.size ≤ k) ∧ Only (D.own W r) W w') := Lib.hid fun W r hs => D.purge hs HXI.out.a0 HXI.out.a1 HXI.out.b0 HXI.out.b1
          obtain ⟨pn, hpn⟩ : ∃ pn, pn = goneR s0 x.a x.b := ⟨_, rfl⟩
          rw [← hpn] at hcall
          clear hpn
          go_upto_region 15 with fail
          have HXD := Lib.hid (HX11.out.keep ((Below.refl W11.heap.size W11).drew))
          have HND : Hid (W11.drew.heap[N]? = some (.cells #[.int .i64 x.kind, .int .i64 x.at_, .slice ua x.l.length uc, .int .i64 x.a, .int .i64 x.b] 37 (0, 0))) := Lib.hid HN11.out
          have HFARD : Hid (∀ k, D.own W11.drew p k → k ≠ N) := Lib.hid fun k hk => by
            obtain ⟨_, h2⟩ := D.keep HX11.out.two.fst.sit (only_beyond (S := fun _ => False) ((Below.refl W11.heap.size W11).drew)) (fun _ _ h => h)
            exact HFAR.out k (h2 k hk)
          have HFARQ : Hid (∀ k, D.own W11 q k → k ≠ N) := HFAQ
          refine wp_region_held_drew (S := fun W => W.cell? ⟨N, 3, none⟩ = some (.int .i64 x.a) ∧ W.cell? ⟨N, 4, none⟩ = some (.int .i64 x.b)) (by kernel_rfl) ⟨(tact_cells HND.out).2.2.2.1, (tact_cells HND.out).2.2.2.2⟩ (fun _ => ?_)
          refine anyH_take (i := 0) (some 78) (v := _) rfl rfl (by kernel_rfl) (by kernel_rfl) (by kernel_rfl) (fun _ _ _ h => h) (by rfl) (⟨(tact_cells HND.out).2.2.2.1, (tact_cells HND.out).2.2.2.2⟩) (by intro w hSw; obtain ⟨r3, r4⟩ := hSw; go_simp; try with_reducible rfl) ?_
          (try simp only [Act.put, List.setIfInBounds_toArray, List.set_cons_zero, List.set_cons_succ])
          refine anyH_take (i := 1) (some 79) (v := _) rfl rfl (by kernel_rfl) (by kernel_rfl) (by kernel_rfl) (fun _ _ _ h => h) (by rfl) (⟨(tact_cells HND.out).2.2.2.1, (tact_cells HND.out).2.2.2.2⟩) (by intro w hSw; obtain ⟨r3, r4⟩ := hSw; go_simp; try with_reducible rfl) ?_
          (try simp only [Act.put, List.setIfInBounds_toArray, List.set_cons_zero, List.set_cons_succ])
          refine anyH_take (i := 2) (some 80) (v := _) rfl rfl (by kernel_rfl) (by kernel_rfl) (by kernel_rfl) (fun _ _ _ h => h) (by rfl) (⟨(tact_cells HND.out).2.2.2.1, (tact_cells HND.out).2.2.2.2⟩) (by intro w hSw; obtain ⟨r3, r4⟩ := hSw; go_simp; try with_reducible rfl) ?_
          (try simp only [Act.put, List.setIfInBounds_toArray, List.set_cons_zero, List.set_cons_succ])
          refine anyH_take (i := 4) (some 82) (v := _) rfl rfl (by kernel_rfl) (by kernel_rfl) (by kernel_rfl) (fun _ _ _ h => h) (by rfl) (⟨(tact_cells HND.out).2.2.2.1, (tact_cells HND.out).2.2.2.2⟩) (by intro w hSw; obtain ⟨r3, r4⟩ := hSw; go_simp; try with_reducible rfl) ?_
          (try simp only [Act.put, List.setIfInBounds_toArray, List.set_cons_zero, List.set_cons_succ])
          refine anyH_take (i := 5) (some 83) (v := _) rfl rfl (by kernel_rfl) (by kernel_rfl) (by kernel_rfl) (fun _ _ _ h => h) (by rfl) (⟨(tact_cells HND.out).2.2.2.1, (tact_cells HND.out).2.2.2.2⟩) (by intro w hSw; obtain ⟨r3, r4⟩ := hSw; go_simp; try with_reducible rfl) ?_
          (try simp only [Act.put, List.setIfInBounds_toArray, List.set_cons_zero, List.set_cons_succ])
          refine anyH_take (i := 6) (some 84) (v := _) rfl rfl (by kernel_rfl) (by kernel_rfl) (by kernel_rfl) (fun _ _ _ h => h) (by rfl) (⟨(tact_cells HND.out).2.2.2.1, (tact_cells HND.out).2.2.2.2⟩) (by intro w hSw; obtain ⟨r3, r4⟩ := hSw; go_simp; try with_reducible rfl) ?_
          (try simp only [Act.put, List.setIfInBounds_toArray, List.set_cons_zero, List.set_cons_succ])
          refine wpAnyH_ready (rs := [3]) (by kernel_rfl) (by simp) (AllReadyH.cons rfl (fun K hK => ?_) AllReadyH.nil)
          go_simp
          refine (hcall.out _ _ HXD.out.two.fst.sit).mono ?_
          rintro e W12 ⟨rfl, h1, h2, h3⟩
          have hst := HXD.out.step HBS11.out h1 h2 h3
          have p12 : Hid (W12.heap[N]? = some (.cells #[.int .i64 x.kind, .int .i64 x.at_, .slice ua x.l.length uc, .int .i64 x.a, .int .i64 x.b] 37 (0, 0))) := Lib.hid ((h3.block N (lt_of_block HND.out) (fun hk => HFARD.out N hk rfl)).trans HND.out)
          have HFQ12 : Hid (∀ k, D.own W12 q k → k ≠ N) := Lib.hid fun k hk => by
            obtain ⟨_, g2⟩ := D.keep HX11.out.two.snd.sit (only_beyond (S := fun _ => False) ((Below.refl W11.heap.size W11).drew)) (fun _ _ h => h)
            obtain ⟨_, k2⟩ := D.keep HXD.out.two.snd.sit h3 (fun k hk hk' => HXD.out.two.apart k hk' hk)
            exact HFARQ.out k (g2 k (k2 k hk))
          have HX12 := Lib.hid hst.1
          have HBS12 := Lib.hid (Nat.le_trans HBS11.out hst.2.size)
          have HU12 : Hid (Below w.heap.size w W12) := Lib.hid ((below_drew HU11.out).trans (hst.2.mono HBw.out))
          clear h1 h2 h3 hst
          go_wp2_with fail
          refine hK.out _ _ (⟨(tact_cells p12.out).2.2.2.1, (tact_cells p12.out).2.2.2.2⟩) (fun _ => ?_)
          clear hK K
          (try simp only [Act.put, List.setIfInBounds_toArray, List.set_cons_zero, List.set_cons_succ])
          refine wpAnyH_ready (rs := [7]) (by kernel_rfl) (by simp) (AllReadyH.cons rfl (fun K hK => ?_) AllReadyH.nil)
          go_simp
          refine (hcall.out _ _ HX12.out.two.snd.sit).mono ?_
          rintro e W13 ⟨rfl, h1, h2, h3⟩
          have hst := HX12.out.turn.step HBS12.out h1 h2 h3
          have p13 : Hid (W13.heap[N]? = some (.cells #[.int .i64 x.kind, .int .i64 x.at_, .slice ua x.l.length uc, .int .i64 x.a, .int .i64 x.b] 37 (0, 0))) := Lib.hid ((h3.block N (lt_of_block p12.out) (fun hk => HFQ12.out N hk rfl)).trans p12.out)
          have HX13 := Lib.hid hst.1.turn
          have HBS13 := Lib.hid (Nat.le_trans HBS12.out hst.2.size)
          have HU13 := Lib.hid (HU12.out.trans (hst.2.mono HBw.out))
          clear h1 h2 h3 hst
          go_wp2_with fail
          refine hK.out _ _ (⟨(tact_cells p13.out).2.2.2.1, (tact_cells p13.out).2.2.2.2⟩) (fun _ => ?_)
          clear hK K
          (try simp only [Act.put, List.setIfInBounds_toArray, List.set_cons_zero, List.set_cons_succ])
          refine anyH_take (i := 8) (some 17) (v := _) rfl rfl (by kernel_rfl) (by kernel_rfl) (by kernel_rfl) (fun _ _ _ h => h) (by rfl) (⟨(tact_cells p13.out).2.2.2.1, (tact_cells p13.out).2.2.2.2⟩) (by intro w hSw; obtain ⟨r3, r4⟩ := hSw; go_simp; try with_reducible rfl) ?_
          (try simp only [Act.put, List.setIfInBounds_toArray, List.set_cons_zero, List.set_cons_succ])
          refine anyH_take (i := 9) (some 18) (v := _) rfl rfl (by kernel_rfl) (by kernel_rfl) (by kernel_rfl) (fun _ _ _ h => h) (by rfl) (⟨(tact_cells p13.out).2.2.2.1, (tact_cells p13.out).2.2.2.2⟩) (by intro w hSw; obtain ⟨r3, r4⟩ := hSw; go_simp; try with_reducible rfl) ?_
          (try simp only [Act.put, List.setIfInBounds_toArray, List.set_cons_zero, List.set_cons_succ])
          refine wpAnyH_done (by kernel_rfl) ?_ _
          go_wp2_with fail
          go_meet
          exact ⟨⟨_, rfl, rfl⟩, _, HX13.out, HU13.out, HBS13.out⟩
        case rest =>
          as_aux_lemma =>
            obtain ⟨⟨z, rfl, rfl⟩, s1, hx, hu, hbs⟩ := hcut
            obtain ⟨W20, hW20⟩ : ∃ W20, W20 = wc := ⟨_, rfl⟩
            subst hW20
            obtain ⟨sx, hsx⟩ : ∃ sx, sx = s1 := ⟨_, rfl⟩
            rw [← hsx] at hx
            have HX20 := Lib.hid hx
            have HU20 := Lib.hid hu
            have HB20 := Lib.hid hbs
            clear hsx hx hu hbs HX11 HU11 HBS11 HPL11 HN11 HFAR HFAQ q0 q1 q2 q3 q4
            go_upto_region 25 with fail
            have HX20D := Lib.hid (HX20.out.keep ((Below.refl W20.heap.size W20).drew))
            refine wp_region_held_drew (S := fun W => RgAt W ZA 0 1099511627777) (by kernel_rfl) (HRA.out _ HX20D.out.fix) (fun _ => ?_)
            refine anyH_take (i := 0) (some 121) (v := _) rfl rfl (by kernel_rfl) (by kernel_rfl) (by kernel_rfl) (fun _ _ _ h => h) (by rfl) (HRA.out _ HX20D.out.fix) (by intro w hSw; obtain ⟨q0, q1, -, -⟩ := RgAt.cells hSw; go_simp; try with_reducible rfl) ?_
            (try simp only [Act.put, List.setIfInBounds_toArray, List.set_cons_zero, List.set_cons_succ])
            refine anyH_take (i := 1) (some 122) (v := _) rfl rfl (by kernel_rfl) (by kernel_rfl) (by kernel_rfl) (fun _ _ _ h => h) (by rfl) (HRA.out _ HX20D.out.fix) (by intro w hSw; obtain ⟨q0, q1, -, -⟩ := RgAt.cells hSw; go_simp; try with_reducible rfl) ?_
            (try simp only [Act.put, List.setIfInBounds_toArray, List.set_cons_zero, List.set_cons_succ])
            refine anyH_take (i := 2) (some 123) (v := _) rfl rfl (by kernel_rfl) (by kernel_rfl) (by kernel_rfl) (fun _ _ _ h => h) (by rfl) (HRA.out _ HX20D.out.fix) (by intro w hSw; obtain ⟨q0, q1, -, -⟩ := RgAt.cells hSw; go_simp; try with_reducible rfl) ?_
            (try simp only [Act.put, List.setIfInBounds_toArray, List.set_cons_zero, List.set_cons_succ])
            refine anyH_take (i := 3) (some 124) (v := _) rfl rfl (by kernel_rfl) (by kernel_rfl) (by kernel_rfl) (fun _ _ _ h => h) (by rfl) (HRA.out _ HX20D.out.fix) (by intro w hSw; obtain ⟨q0, q1, -, -⟩ := RgAt.cells hSw; go_simp; try with_reducible rfl) ?_
            (try simp only [Act.put, List.setIfInBounds_toArray, List.set_cons_zero, List.set_cons_succ])
            refine anyH_take (i := 4) (some 125) (v := _) rfl rfl (by kernel_rfl) (by kernel_rfl) (by kernel_rfl) (fun _ _ _ h => h) (by rfl) (HRA.out _ HX20D.out.fix) (by intro w hSw; obtain ⟨q0, q1, -, -⟩ := RgAt.cells hSw; go_simp; try with_reducible rfl) ?_
            (try simp only [Act.put, List.setIfInBounds_toArray, List.set_cons_zero, List.set_cons_succ])
            refine anyH_take (i := 5) (some 126) (v := _) rfl rfl (by kernel_rfl) (by kernel_rfl) (by kernel_rfl) (fun _ _ _ h => h) (by rfl) (HRA.out _ HX20D.out.fix) (by intro w hSw; obtain ⟨q0, q1, -, -⟩ := RgAt.cells hSw; go_simp; try with_reducible rfl) ?_
            (try simp only [Act.put, List.setIfInBounds_toArray, List.set_cons_zero, List.set_cons_succ])
            refine anyH_take (i := 7) (some 128) (v := _) rfl rfl (by kernel_rfl) (by kernel_rfl) (by kernel_rfl) (fun _ _ _ h => h) (by rfl) (HRA.out _ HX20D.out.fix) (by intro w hSw; obtain ⟨q0, q1, -, -⟩ := RgAt.cells hSw; go_simp; try with_reducible rfl) ?_
            (try simp only [Act.put, List.setIfInBounds_toArray, List.set_cons_zero, List.set_cons_succ])
            refine anyH_take (i := 8) (some 129) (v := _) rfl rfl (by kernel_rfl) (by kernel_rfl) (by kernel_rfl) (fun _ _ _ h => h) (by rfl) (HRA.out _ HX20D.out.fix) (by intro w hSw; obtain ⟨q0, q1, -, -⟩ := RgAt.cells hSw; go_simp; try with_reducible rfl) ?_
            (try simp only [Act.put, List.setIfInBounds_toArray, List.set_cons_zero, List.set_cons_succ])
            refine wpAnyH_ready (rs := [6]) (by kernel_rfl) (by simp) (AllReadyH.cons rfl (fun K hK => ?_) AllReadyH.nil)
            go_simp
            refine (D.points HX20D.out.two.fst.sit (by omega) (by omega) (by omega) (by omega)).mono ?_
            rintro e W21 ⟨v21, rfl, hr, hb⟩; replace hb := below_undrew hb
            have HX21 := Lib.hid (HX20.out.keep hb)
            have HU21 := Lib.hid (HU20.out.trans (hb.mono HU20.out.size))
            have HB21 := Lib.hid (Nat.le_trans HB20.out hb.size)
            have HV21 := Lib.hid hr.plies
            skip
            clear hb hr
            go_wp2_with fail
            refine hK.out _ _ (HRA.out _ HX21.out.fix) (fun _ => ?_)
            clear hK K
            (try simp only [Act.put, List.setIfInBounds_toArray, List.set_cons_zero, List.set_cons_succ])
            refine wpAnyH_ready (rs := [9]) (by kernel_rfl) (by simp) (AllReadyH.cons rfl (fun K hK => ?_) AllReadyH.nil)
            go_simp
            refine (D.points HX21.out.two.snd.sit (by omega) (by omega) (by omega) (by omega)).mono ?_
            rintro e W22 ⟨v22, rfl, hr, hb⟩
            have HX22 := Lib.hid (HX21.out.keep hb)
            have HU22 := Lib.hid (HU21.out.trans (hb.mono HU21.out.size))
            have HB22 := Lib.hid (Nat.le_trans HB21.out hb.size)
            have HV22 := Lib.hid hr.plies
            have HV21k := Lib.hid (HV21.out.beyond hb)
            clear hb hr
            go_wp2_with fail
            refine hK.out _ _ (HRA.out _ HX22.out.fix) (fun _ => ?_)
            clear hK K
            (try simp only [Act.put, List.setIfInBounds_toArray, List.set_cons_zero, List.set_cons_succ])
            refine wpAnyH_ready (rs := [10]) (by kernel_rfl) (by simp) (AllReadyH.cons rfl (fun K hK => ?_) AllReadyH.nil)
            go_simp
            refine (samePt_yes HV21k.out HV22.out (by have h1 := (D.good HX22.out.two.fst.sit).plen; have h2 : (getL sx.raw 0 1099511627777).length ≤ sx.raw.length := List.length_filter_le _ _; omega)).mono ?_
            rintro e W23 ⟨rfl, hb⟩
            have HX23 := Lib.hid (HX22.out.keep hb)
            have HU23 := Lib.hid (HU22.out.trans (hb.mono HU22.out.size))
            have HB23 := Lib.hid (Nat.le_trans HB22.out hb.size)
            clear hb
            go_wp2_with fail
            refine hK.out _ _ (HRA.out _ HX23.out.fix) (fun _ => ?_)
            clear hK K
            (try simp only [Act.put, List.setIfInBounds_toArray, List.set_cons_zero, List.set_cons_succ])
            refine anyH_take (i := 11) (some 132) (v := _) rfl rfl (by kernel_rfl) (by kernel_rfl) (by kernel_rfl) (fun _ _ _ h => h) (by rfl) (HRA.out _ HX23.out.fix) (by intro w hSw; obtain ⟨q0, q1, -, -⟩ := RgAt.cells hSw; go_simp; try with_reducible rfl) ?_
            (try simp only [Act.put, List.setIfInBounds_toArray, List.set_cons_zero, List.set_cons_succ])
            refine anyH_take (i := 12) (some 133) (v := _) rfl rfl (by kernel_rfl) (by kernel_rfl) (by kernel_rfl) (fun _ _ _ h => h) (by rfl) (HRA.out _ HX23.out.fix) (by intro w hSw; obtain ⟨q0, q1, -, -⟩ := RgAt.cells hSw; go_simp; try with_reducible rfl) ?_
            (try simp only [Act.put, List.setIfInBounds_toArray, List.set_cons_zero, List.set_cons_succ])
            refine anyH_take (i := 13) (some 134) (v := _) rfl rfl (by kernel_rfl) (by kernel_rfl) (by kernel_rfl) (fun _ _ _ h => h) (by rfl) (HRA.out _ HX23.out.fix) (by intro w hSw; obtain ⟨q0, q1, -, -⟩ := RgAt.cells hSw; go_simp; try with_reducible rfl) ?_
            (try simp only [Act.put, List.setIfInBounds_toArray, List.set_cons_zero, List.set_cons_succ])
            refine anyH_take (i := 14) (some 135) (v := _) rfl rfl (by kernel_rfl) (by kernel_rfl) (by kernel_rfl) (fun _ _ _ h => h) (by rfl) (HRA.out _ HX23.out.fix) (by intro w hSw; obtain ⟨q0, q1, -, -⟩ := RgAt.cells hSw; go_simp; try with_reducible rfl) ?_
            (try simp only [Act.put, List.setIfInBounds_toArray, List.set_cons_zero, List.set_cons_succ])
            refine anyH_take (i := 15) (some 136) (v := _) rfl rfl (by kernel_rfl) (by kernel_rfl) (by kernel_rfl) (fun _ _ _ h => h) (by rfl) (HRA.out _ HX23.out.fix) (by intro w hSw; obtain ⟨q0, q1, -, -⟩ := RgAt.cells hSw; go_simp; try with_reducible rfl) ?_
            (try simp only [Act.put, List.setIfInBounds_toArray, List.set_cons_zero, List.set_cons_succ])
            refine anyH_take (i := 17) (some 138) (v := _) rfl rfl (by kernel_rfl) (by kernel_rfl) (by kernel_rfl) (fun _ _ _ h => h) (by rfl) (HRA.out _ HX23.out.fix) (by intro w hSw; obtain ⟨q0, q1, -, -⟩ := RgAt.cells hSw; go_simp; try with_reducible rfl) ?_
            (try simp only [Act.put, List.setIfInBounds_toArray, List.set_cons_zero, List.set_cons_succ])
            refine anyH_take (i := 18) (some 139) (v := _) rfl rfl (by kernel_rfl) (by kernel_rfl) (by kernel_rfl) (fun _ _ _ h => h) (by rfl) (HRA.out _ HX23.out.fix) (by intro w hSw; obtain ⟨q0, q1, -, -⟩ := RgAt.cells hSw; go_simp; try with_reducible rfl) ?_
            (try simp only [Act.put, List.setIfInBounds_toArray, List.set_cons_zero, List.set_cons_succ])
            refine wpAnyH_ready (rs := [16]) (by kernel_rfl) (by simp) (AllReadyH.cons rfl (fun K hK => ?_) AllReadyH.nil)
            go_simp
            refine (D.aggs (t := 1) HX23.out.two.fst.sit (by omega) (by omega) (by omega) (by omega) (by omega) (by omega)).mono ?_
            rintro e W24 ⟨v24, rfl, hr, hb⟩
            have HX24 := Lib.hid (HX23.out.keep hb)
            have HU24 := Lib.hid (HU23.out.trans (hb.mono HU23.out.size))
            have HB24 := Lib.hid (Nat.le_trans HB23.out hb.size)
            have HV24 := Lib.hid hr.lies
            skip
            clear hb hr
            go_wp2_with fail
            refine hK.out _ _ (HRA.out _ HX24.out.fix) (fun _ => ?_)
            clear hK K
            (try simp only [Act.put, List.setIfInBounds_toArray, List.set_cons_zero, List.set_cons_succ])
            refine wpAnyH_ready (rs := [19]) (by kernel_rfl) (by simp) (AllReadyH.cons rfl (fun K hK => ?_) AllReadyH.nil)
            go_simp
            refine (D.aggs (t := 1) HX24.out.two.snd.sit (by omega) (by omega) (by omega) (by omega) (by omega) (by omega)).mono ?_
            rintro e W25 ⟨v25, rfl, hr, hb⟩
            have HX25 := Lib.hid (HX24.out.keep hb)
            have HU25 := Lib.hid (HU24.out.trans (hb.mono HU24.out.size))
            have HB25 := Lib.hid (Nat.le_trans HB24.out hb.size)
            have HV25 := Lib.hid hr.lies
            have HV24k := Lib.hid (HV24.out.beyond hb)
            clear hb hr
            go_wp2_with fail
            refine hK.out _ _ (HRA.out _ HX25.out.fix) (fun _ => ?_)
            clear hK K
            (try simp only [Act.put, List.setIfInBounds_toArray, List.set_cons_zero, List.set_cons_succ])
            refine wpAnyH_ready (rs := [20]) (by kernel_rfl) (by simp) (AllReadyH.cons rfl (fun K hK => ?_) AllReadyH.nil)
            go_simp
            refine (sameAg_yes HV24k.out HV25.out (aggs_lenR (D.good HX25.out.two.fst.sit) _ _ _)).mono ?_
            rintro e W26 ⟨rfl, hb⟩
            have HX26 := Lib.hid (HX25.out.keep hb)
            have HU26 := Lib.hid (HU25.out.trans (hb.mono HU25.out.size))
            have HB26 := Lib.hid (Nat.le_trans HB25.out hb.size)
            clear hb
            go_wp2_with fail
            refine hK.out _ _ (HRA.out _ HX26.out.fix) (fun _ => ?_)
            clear hK K
            (try simp only [Act.put, List.setIfInBounds_toArray, List.set_cons_zero, List.set_cons_succ])
            refine anyH_take (i := 21) (some 142) (v := _) rfl rfl (by kernel_rfl) (by kernel_rfl) (by kernel_rfl) (fun _ _ _ h => h) (by rfl) (HRA.out _ HX26.out.fix) (by intro w hSw; obtain ⟨q0, q1, -, -⟩ := RgAt.cells hSw; go_simp; try with_reducible rfl) ?_
            (try simp only [Act.put, List.setIfInBounds_toArray, List.set_cons_zero, List.set_cons_succ])
            refine anyH_take (i := 22) (some 143) (v := _) rfl rfl (by kernel_rfl) (by kernel_rfl) (by kernel_rfl) (fun _ _ _ h => h) (by rfl) (HRA.out _ HX26.out.fix) (by intro w hSw; obtain ⟨q0, q1, -, -⟩ := RgAt.cells hSw; go_simp; try with_reducible rfl) ?_
            (try simp only [Act.put, List.setIfInBounds_toArray, List.set_cons_zero, List.set_cons_succ])
            refine anyH_take (i := 23) (some 144) (v := _) rfl rfl (by kernel_rfl) (by kernel_rfl) (by kernel_rfl) (fun _ _ _ h => h) (by rfl) (HRA.out _ HX26.out.fix) (by intro w hSw; obtain ⟨q0, q1, -, -⟩ := RgAt.cells hSw; go_simp; try with_reducible rfl) ?_
            (try simp only [Act.put, List.setIfInBounds_toArray, List.set_cons_zero, List.set_cons_succ])
            refine anyH_take (i := 24) (some 145) (v := _) rfl rfl (by kernel_rfl) (by kernel_rfl) (by kernel_rfl) (fun _ _ _ h => h) (by rfl) (HRA.out _ HX26.out.fix) (by intro w hSw; obtain ⟨q0, q1, -, -⟩ := RgAt.cells hSw; go_simp; try with_reducible rfl) ?_
            (try simp only [Act.put, List.setIfInBounds_toArray, List.set_cons_zero, List.set_cons_succ])
            refine anyH_take (i := 25) (some 146) (v := _) rfl rfl (by kernel_rfl) (by kernel_rfl) (by kernel_rfl) (fun _ _ _ h => h) (by rfl) (HRA.out _ HX26.out.fix) (by intro w hSw; obtain ⟨q0, q1, -, -⟩ := RgAt.cells hSw; go_simp; try with_reducible rfl) ?_
            (try simp only [Act.put, List.setIfInBounds_toArray, List.set_cons_zero, List.set_cons_succ])
            refine anyH_take (i := 27) (some 148) (v := _) rfl rfl (by kernel_rfl) (by kernel_rfl) (by kernel_rfl) (fun _ _ _ h => h) (by rfl) (HRA.out _ HX26.out.fix) (by intro w hSw; obtain ⟨q0, q1, -, -⟩ := RgAt.cells hSw; go_simp; try with_reducible rfl) ?_
            (try simp only [Act.put, List.setIfInBounds_toArray, List.set_cons_zero, List.set_cons_succ])
            refine anyH_take (i := 28) (some 149) (v := _) rfl rfl (by kernel_rfl) (by kernel_rfl) (by kernel_rfl) (fun _ _ _ h => h) (by rfl) (HRA.out _ HX26.out.fix) (by intro w hSw; obtain ⟨q0, q1, -, -⟩ := RgAt.cells hSw; go_simp; try with_reducible rfl) ?_
            (try simp only [Act.put, List.setIfInBounds_toArray, List.set_cons_zero, List.set_cons_succ])
            refine wpAnyH_ready (rs := [26]) (by kernel_rfl) (by simp) (AllReadyH.cons rfl (fun K hK => ?_) AllReadyH.nil)
            go_simp
            refine (D.aggs (t := 2) HX26.out.two.fst.sit (by omega) (by omega) (by omega) (by omega) (by omega) (by omega)).mono ?_
            rintro e W27 ⟨v27, rfl, hr, hb⟩
            have HX27 := Lib.hid (HX26.out.keep hb)
            have HU27 := Lib.hid (HU26.out.trans (hb.mono HU26.out.size))
            have HB27 := Lib.hid (Nat.le_trans HB26.out hb.size)
            have HV27 := Lib.hid hr.lies
            skip
            clear hb hr
            go_wp2_with fail
            refine hK.out _ _ (HRA.out _ HX27.out.fix) (fun _ => ?_)
            clear hK K
            (try simp only [Act.put, List.setIfInBounds_toArray, List.set_cons_zero, List.set_cons_succ])
            refine wpAnyH_ready (rs := [29]) (by kernel_rfl) (by simp) (AllReadyH.cons rfl (fun K hK => ?_) AllReadyH.nil)
            go_simp
            refine (D.aggs (t := 2) HX27.out.two.snd.sit (by omega) (by omega) (by omega) (by omega) (by omega) (by omega)).mono ?_
            rintro e W28 ⟨v28, rfl, hr, hb⟩
            have HX28 := Lib.hid (HX27.out.keep hb)
            have HU28 := Lib.hid (HU27.out.trans (hb.mono HU27.out.size))
            have HB28 := Lib.hid (Nat.le_trans HB27.out hb.size)
            have HV28 := Lib.hid hr.lies
            have HV27k := Lib.hid (HV27.out.beyond hb)
            clear hb hr
            go_wp2_with fail
            refine hK.out _ _ (HRA.out _ HX28.out.fix) (fun _ => ?_)
            clear hK K
            (try simp only [Act.put, List.setIfInBounds_toArray, List.set_cons_zero, List.set_cons_succ])
            refine wpAnyH_ready (rs := [30]) (by kernel_rfl) (by simp) (AllReadyH.cons rfl (fun K hK => ?_) AllReadyH.nil)
            go_simp
            refine (sameAg_yes HV27k.out HV28.out (aggs_lenR (D.good HX28.out.two.fst.sit) _ _ _)).mono ?_
            rintro e W29 ⟨rfl, hb⟩
            have HX29 := Lib.hid (HX28.out.keep hb)
            have HU29 := Lib.hid (HU28.out.trans (hb.mono HU28.out.size))
            have HB29 := Lib.hid (Nat.le_trans HB28.out hb.size)
            clear hb
            go_wp2_with fail
            refine hK.out _ _ (HRA.out _ HX29.out.fix) (fun _ => ?_)
            clear hK K
            (try simp only [Act.put, List.setIfInBounds_toArray, List.set_cons_zero, List.set_cons_succ])
            refine anyH_take (i := 31) (some 152) (v := _) rfl rfl (by kernel_rfl) (by kernel_rfl) (by kernel_rfl) (fun _ _ _ h => h) (by rfl) (HRA.out _ HX29.out.fix) (by intro w hSw; obtain ⟨q0, q1, -, -⟩ := RgAt.cells hSw; go_simp; try with_reducible rfl) ?_
            (try simp only [Act.put, List.setIfInBounds_toArray, List.set_cons_zero, List.set_cons_succ])
            refine anyH_take (i := 32) (some 153) (v := _) rfl rfl (by kernel_rfl) (by kernel_rfl) (by kernel_rfl) (fun _ _ _ h => h) (by rfl) (HRA.out _ HX29.out.fix) (by intro w hSw; obtain ⟨q0, q1, -, -⟩ := RgAt.cells hSw; go_simp; try with_reducible rfl) ?_
            (try simp only [Act.put, List.setIfInBounds_toArray, List.set_cons_zero, List.set_cons_succ])
            refine wpAnyH_done (by kernel_rfl) ?_ _
            go_wp2_with fail
            go_roundw
            case rel => exact ⟨j + 1, sx, by omega, by go_num, HX29.out, HU29.out, HB29.out⟩
            case measure => simp [intOf]; omega
    · as_aux_lemma =>
        obtain rfl : j = M.length := by omega
        have HFX := Lib.hid HX10.out.fix
        obtain ⟨c0, c1, c2, -, -, -⟩ := marks3 (HAB.out _ HFX.out)
        go_upto_region 30 with fail
        refine wp_name fun W11 hW11 => ?_
        obtain ⟨N, hN⟩ : ∃ N, N = W10.heap.size := ⟨_, rfl⟩
        have hb11 : Below W10.heap.size W10 W11 := by rw [hW11.out]; exact (Below.refl _ _).alloc (Nat.le_refl _) _
        have HN11 : Hid (W11.heap[N]? = some (.cells #[.int .i64 0, .int .i64 mk, .int .i64 S.ml] 49 (0, 0))) := Lib.hid (by rw [hW11.out, hN]; exact heap_alloc_new W10 _)
        have HF11 : Hid (Only (fun k => ¬ (Z0 ≤ k ∧ k < Z1)) W9 W11) := Lib.hid (HFX.out.trans (only_beyond (S := fun _ => False) hb11) (fun _ _ h => h.elim))
        have HU11 := Lib.hid (HU10.out.trans (hb11.mono HU10.out.size))
        rw [← hN]
        clear hW11 hN hb11 c0 c1 c2 HX10 HU10 HBS10 HFX
        obtain ⟨q0, q1, q2, -, -, -⟩ := marks3 HN11.out
        have hcall := E.restore (m0 := 0) (m1 := mk) (m2 := S.ml) (HPZ.out _ HF11.out) (HMZ.out _ HF11.out) (HLZ.out _ HF11.out) HG.out.pfits HG.out.mid.fits HG.out.long.fits (by have := HG.out.plen; omega) (by have := HG.out.mid.len; omega) (by have := HG.out.long.len; omega) (by omega) (by omega) HMK.out.1 HMK.out.2 (by have := HG.out.ml; have := HG.out.mm; omega) (by have := HG.out.ml; have := HG.out.mm; omega)
        rw [restOk_mark HG.out] at hcall
        obtain ⟨F1, hF1⟩ : ∃ F1, F1 = (decide (0 ≤ mk) && decide (mk ≤ 1099511631376) && decide (mk % 300 = 0) && decide (S.ml ≤ mk)) := ⟨_, rfl⟩
        obtain ⟨F, hF⟩ : ∃ F, F = (F1 && S.mid.all fun t => decide (t.at_ < mk)) := ⟨_, rfl⟩
        rw [← hF1, ← hF] at hcall
        have HC : Hid (Calls Try.prog 22 #[v6, v7, v8, .agg #[.int .i64 0, .int .i64 mk, .int .i64 S.ml]] W11 fun e w' => ∃ pv fe, e = .returned (.tuple #[.pointer pv, .int .i64 fe]) ∧ (fe == 0) = F ∧ Below W11.heap.size W11 w') := Lib.hid (hcall.mono fun e w' hh => by
          obtain ⟨hb, h⟩ := hh
          rcases h with ⟨hT, p', rfl, -, -⟩ | ⟨hT, rfl⟩
          · exact ⟨_, 0, rfl, by rw [hT]; rfl, hb⟩
          · exact ⟨_, 2, rfl, by rw [hT]; rfl, hb⟩)
        have HF1 := Lib.hid hF1
        have HFF := Lib.hid hF
        clear hcall hF1 hF
        go_wp2_with fail
        refine (HC.out).mono ?_
        rintro e W12 ⟨pv, fe, rfl, hfe, hb⟩
        have HFE := Lib.hid hfe
        have HF12 : Hid (Only (fun k => ¬ (Z0 ≤ k ∧ k < Z1)) W9 W12) := Lib.hid (HF11.out.trans (only_beyond (S := fun _ => False) hb) (fun _ _ h => h.elim))
        have HU12 := Lib.hid (HU11.out.trans (hb.mono HU11.out.size))
        clear hfe hb HC q0 q1 q2 HN11 HF11 HU11
        dsimp only
        obtain ⟨c0, c1, c2, -, -, -⟩ := marks3 (HAB.out _ HF12.out)
        go_upto_region 31 with fail
        go_cut [22] (fun s22 W => s22 = .bool F1 ∧ W = W12)
        case first =>
          by_cases g0 : 0 ≤ mk
          · have t0 : decide (0 ≤ mk) = true := decide_eq_true g0
            by_cases g1 : mk ≤ 1099511631376
            · have t1 : decide (mk ≤ 1099511631376) = true := decide_eq_true g1
              have m1 : mk.tmod 300 = mk % 300 := Int.tmod_eq_emod_of_nonneg g0
              by_cases g2 : mk % 300 = 0
              · have t2 : (mk.tmod 300 == 0) = true := by rw [m1]; simpa using g2
                by_cases g3 : S.ml ≤ mk
                · have t3 : decide (S.ml ≤ mk) = true := decide_eq_true g3
                  have hf : F1 = true := by rw [HF1.out, t0, t1, t3, decide_eq_true g2]; rfl
                  clear g0 g1 g2 g3 m1
                  go_wp2_with fail
                  go_meet
                  exact ⟨by rw [hf], rfl⟩
                · have t3 : decide (S.ml ≤ mk) = false := decide_eq_false g3
                  have hf : F1 = false := by rw [HF1.out, t3, Bool.and_false]
                  clear g0 g1 g2 g3 m1
                  go_wp2_with fail
                  go_meet
                  exact ⟨by rw [hf], rfl⟩
              · have t2 : (mk.tmod 300 == 0) = false := by rw [m1]; simpa using g2
                have hf : F1 = false := by rw [HF1.out, decide_eq_false g2, Bool.and_false, Bool.false_and]
                clear g0 g1 g2 m1
                go_wp2_with fail
                go_meet
                exact ⟨by rw [hf], rfl⟩
            · have t1 : decide (mk ≤ 1099511631376) = false := decide_eq_false g1
              have hf : F1 = false := by rw [HF1.out, t1, Bool.and_false, Bool.false_and, Bool.false_and]
              clear g0 g1
              go_wp2_with fail
              go_meet
              exact ⟨by rw [hf], rfl⟩
          · have t0 : decide (0 ≤ mk) = false := decide_eq_false g0
            have hf : F1 = false := by rw [HF1.out, t0, Bool.false_and, Bool.false_and, Bool.false_and]
            clear g0
            go_wp2_with fail
            go_meet
            exact ⟨by rw [hf], rfl⟩
        case rest =>
          obtain ⟨rfl, rfl⟩ := hcut
          obtain ⟨W13, hW13⟩ : ∃ W13, W13 = wc := ⟨_, rfl⟩
          subst hW13
          obtain ⟨ad2, b2, off2, cap2, rfl, hadr2, hags2⟩ := HMZ.out _ HF12.out
          have HADR2 := Lib.hid hadr2
          have HAG2 := Lib.hid hags2
          have HR13 := Lib.hid (HRA.out _ HF12.out)
          have hmid : S.mid.length ≤ 1000000 := by have := HG.out.mid.len; omega
          clear c0 c1 c2 hadr2 hags2 HF12 HMZ HPZ HLZ HAB HRA
          go_wp2_with fail
          go_loopw [22, 185] (fun f c wr => ∃ j : Nat, j ≤ S.mid.length ∧ c = .int .i64 j ∧ f = .bool (F1 && (S.mid.take j).all fun t => decide (t.at_ < mk)) ∧ Below W13.heap.size W13 wr) (fun f c _ => S.mid.length - (intOf c).toNat)
          case atStart => exact ⟨0, Nat.zero_le _, rfl, by simp, Below.refl _ _⟩
          case round =>
            obtain ⟨j, hj, rfl, rfl, hx⟩ := hrel
            obtain ⟨W14, hW14⟩ : ∃ W14, W14 = wr := ⟨_, rfl⟩
            subst hW14
            have HX14 := Lib.hid hx
            clear hx
            by_cases hjm : j < S.mid.length
            · as_aux_lemma =>
                have ea := HADR2.out (by intro h; simp [h] at hjm)
                subst ea
                obtain ⟨t, ht⟩ : ∃ t, S.mid[j]? = some t := ⟨S.mid[j], List.getElem?_eq_getElem hjm⟩
                obtain ⟨e0, e1, e2, e3, e4⟩ := HAG2.out j t ht
                have ek : ∀ o v, W13.cell? ⟨b2, o, none⟩ = some v → W14.cell? ⟨b2, o, none⟩ = some v := fun o v hv => (HX14.out.cell (p := ⟨b2, o, none⟩) (cell_lt hv)).trans hv
                have c0 := ek _ _ e0
                have c1 := ek _ _ e1
                have c2 := ek _ _ e2
                have c3 := ek _ _ e3
                have c4 := ek _ _ e4
                have htk : (S.mid.take (j + 1)).all (fun t => decide (t.at_ < mk)) = ((S.mid.take j).all (fun t => decide (t.at_ < mk)) && decide (t.at_ < mk)) := by rw [List.take_add_one, ht]; simp [List.all_append]
                obtain ⟨f, hf⟩ : ∃ f, f = (F1 && (S.mid.take j).all fun t => decide (t.at_ < mk)) := ⟨_, rfl⟩
                rw [← hf]
                have hnx : (F1 && (S.mid.take (j + 1)).all fun t => decide (t.at_ < mk)) = (f && decide (t.at_ < mk)) := by rw [htk, ← Bool.and_assoc, ← hf]
                have HNX := Lib.hid hnx
                clear e0 e1 e2 e3 e4 ek ht htk hf hnx
                go_upto_region 35 with fail
                refine wp_name fun W15 hW15 => ?_
                obtain ⟨N2, hN2⟩ : ∃ N2, N2 = W14.heap.size := ⟨_, rfl⟩
                have hb15 : Below W14.heap.size W14 W15 := by rw [hW15.out]; exact (Below.refl _ _).alloc (Nat.le_refl _) _
                have HA15 : Hid (AgAt W15 N2 t) := Lib.hid (by rw [hW15.out, hN2]; exact AgAt.new W14 t)
                have HX15 := Lib.hid (HX14.out.trans (hb15.mono HX14.out.size))
                rw [← hN2]
                clear hW15 hN2 hb15 c0 c1 c2 c3 c4 HX14
                obtain ⟨q0, q1, q2, q3, q4, -⟩ := AgAt.cells HA15.out
                cases f with
                | true =>
                  go_wp2_with fail
                  go_roundw
                  case rel => exact ⟨j + 1, by omega, by go_num, by rw [HNX.out, Bool.true_and], HX15.out⟩
                  case measure => simp [intOf]; omega
                | false =>
                  go_wp2_with fail
                  go_roundw
                  case rel => exact ⟨j + 1, by omega, by go_num, by rw [HNX.out, Bool.false_and], HX15.out⟩
                  case measure => simp [intOf]; omega
            · as_aux_lemma =>
                obtain rfl : j = S.mid.length := by omega
                rw [List.take_length, ← HFF.out]
                have t210 : ((fe == 0) == F) = true := by rw [HFE.out]; simp
                go_wp2_with fail
                refine (E.put0 W14).mono ?_
                rintro e W15 ⟨rfl, hb⟩
                have HX15 := Lib.hid (HX14.out.trans (hb.mono HX14.out.size))
                clear hb HX14
                dsimp only
                go_wp2_with fail
                refine (E.roll0 W15).mono ?_
                rintro e W30 ⟨rfl, hb⟩
                have hx30 := HX15.out.trans (hb.mono HX15.out.size)
                have HR30 := Lib.hid (HR13.out.keep hx30)
                have HU30 := Lib.hid (HU12.out.trans (hx30.mono HU12.out.size))
                clear hb hx30 HX15 HR13
                dsimp only
                go_upto_region 40 with fail
                have HR30D := Lib.hid (HR30.out.drew)
                refine wp_region_held_drew (S := fun W => RgAt W ZA 0 1099511627777) (by kernel_rfl) HR30D.out (fun _ => ?_)
                refine anyH_take (i := 0) (some 207) (v := _) rfl rfl (by kernel_rfl) (by kernel_rfl) (by kernel_rfl) (fun _ _ _ h => h) (by rfl) (HR30D.out) (by intro w hSw; obtain ⟨q0, q1, -, -⟩ := RgAt.cells hSw; go_simp; try with_reducible rfl) ?_
                (try simp only [Act.put, List.setIfInBounds_toArray, List.set_cons_zero, List.set_cons_succ])
                refine anyH_take (i := 1) (some 208) (v := _) rfl rfl (by kernel_rfl) (by kernel_rfl) (by kernel_rfl) (fun _ _ _ h => h) (by rfl) (HR30D.out) (by intro w hSw; obtain ⟨q0, q1, -, -⟩ := RgAt.cells hSw; go_simp; try with_reducible rfl) ?_
                (try simp only [Act.put, List.setIfInBounds_toArray, List.set_cons_zero, List.set_cons_succ])
                refine anyH_take (i := 2) (some 209) (v := _) rfl rfl (by kernel_rfl) (by kernel_rfl) (by kernel_rfl) (fun _ _ _ h => h) (by rfl) (HR30D.out) (by intro w hSw; obtain ⟨q0, q1, -, -⟩ := RgAt.cells hSw; go_simp; try with_reducible rfl) ?_
                (try simp only [Act.put, List.setIfInBounds_toArray, List.set_cons_zero, List.set_cons_succ])
                refine anyH_take (i := 3) (some 210) (v := _) rfl rfl (by kernel_rfl) (by kernel_rfl) (by kernel_rfl) (fun _ _ _ h => h) (by rfl) (HR30D.out) (by intro w hSw; obtain ⟨q0, q1, -, -⟩ := RgAt.cells hSw; go_simp; try with_reducible rfl) ?_
                (try simp only [Act.put, List.setIfInBounds_toArray, List.set_cons_zero, List.set_cons_succ])
                refine anyH_take (i := 4) (some 211) (v := _) rfl rfl (by kernel_rfl) (by kernel_rfl) (by kernel_rfl) (fun _ _ _ h => h) (by rfl) (HR30D.out) (by intro w hSw; obtain ⟨q0, q1, -, -⟩ := RgAt.cells hSw; go_simp; try with_reducible rfl) ?_
                (try simp only [Act.put, List.setIfInBounds_toArray, List.set_cons_zero, List.set_cons_succ])
                refine anyH_take (i := 5) (some 212) (v := _) rfl rfl (by kernel_rfl) (by kernel_rfl) (by kernel_rfl) (fun _ _ _ h => h) (by rfl) (HR30D.out) (by intro w hSw; obtain ⟨q0, q1, -, -⟩ := RgAt.cells hSw; go_simp; try with_reducible rfl) ?_
                (try simp only [Act.put, List.setIfInBounds_toArray, List.set_cons_zero, List.set_cons_succ])
                refine anyH_take (i := 6) (some 213) (v := _) rfl rfl (by kernel_rfl) (by kernel_rfl) (by kernel_rfl) (fun _ _ _ h => h) (by rfl) (HR30D.out) (by intro w hSw; obtain ⟨q0, q1, -, -⟩ := RgAt.cells hSw; go_simp; try with_reducible rfl) ?_
                (try simp only [Act.put, List.setIfInBounds_toArray, List.set_cons_zero, List.set_cons_succ])
                refine anyH_take (i := 7) (some 214) (v := _) rfl rfl (by kernel_rfl) (by kernel_rfl) (by kernel_rfl) (fun _ _ _ h => h) (by rfl) (HR30D.out) (by intro w hSw; obtain ⟨q0, q1, -, -⟩ := RgAt.cells hSw; go_simp; try with_reducible rfl) ?_
                (try simp only [Act.put, List.setIfInBounds_toArray, List.set_cons_zero, List.set_cons_succ])
                refine anyH_take (i := 8) (some 215) (v := _) rfl rfl (by kernel_rfl) (by kernel_rfl) (by kernel_rfl) (fun _ _ _ h => h) (by rfl) (HR30D.out) (by intro w hSw; obtain ⟨q0, q1, -, -⟩ := RgAt.cells hSw; go_simp; try with_reducible rfl) ?_
                (try simp only [Act.put, List.setIfInBounds_toArray, List.set_cons_zero, List.set_cons_succ])
                refine anyH_take (i := 9) (some 216) (v := _) rfl rfl (by kernel_rfl) (by kernel_rfl) (by kernel_rfl) (fun _ _ _ h => h) (by rfl) (HR30D.out) (by intro w hSw; obtain ⟨q0, q1, -, -⟩ := RgAt.cells hSw; go_simp; try with_reducible rfl) ?_
                (try simp only [Act.put, List.setIfInBounds_toArray, List.set_cons_zero, List.set_cons_succ])
                refine anyH_take (i := 10) (some 217) (v := _) rfl rfl (by kernel_rfl) (by kernel_rfl) (by kernel_rfl) (fun _ _ _ h => h) (by rfl) (HR30D.out) (by intro w hSw; obtain ⟨q0, q1, -, -⟩ := RgAt.cells hSw; go_simp; try with_reducible rfl) ?_
                (try simp only [Act.put, List.setIfInBounds_toArray, List.set_cons_zero, List.set_cons_succ])
                refine anyH_take (i := 11) (some 218) (v := _) rfl rfl (by kernel_rfl) (by kernel_rfl) (by kernel_rfl) (fun _ _ _ h => h) (by rfl) (HR30D.out) (by intro w hSw; obtain ⟨q0, q1, -, -⟩ := RgAt.cells hSw; go_simp; try with_reducible rfl) ?_
                (try simp only [Act.put, List.setIfInBounds_toArray, List.set_cons_zero, List.set_cons_succ])
                refine anyH_take (i := 12) (some 219) (v := _) rfl rfl (by kernel_rfl) (by kernel_rfl) (by kernel_rfl) (fun _ _ _ h => h) (by rfl) (HR30D.out) (by intro w hSw; obtain ⟨q0, q1, -, -⟩ := RgAt.cells hSw; go_simp; try with_reducible rfl) ?_
                (try simp only [Act.put, List.setIfInBounds_toArray, List.set_cons_zero, List.set_cons_succ])
                refine anyH_take (i := 13) (some 220) (v := _) rfl rfl (by kernel_rfl) (by kernel_rfl) (by kernel_rfl) (fun _ _ _ h => h) (by rfl) (HR30D.out) (by intro w hSw; obtain ⟨q0, q1, -, -⟩ := RgAt.cells hSw; go_simp; try with_reducible rfl) ?_
                (try simp only [Act.put, List.setIfInBounds_toArray, List.set_cons_zero, List.set_cons_succ])
                refine anyH_take (i := 15) (some 222) (v := _) rfl rfl (by kernel_rfl) (by kernel_rfl) (by kernel_rfl) (fun _ _ _ h => h) (by rfl) (HR30D.out) (by intro w hSw; obtain ⟨q0, q1, -, -⟩ := RgAt.cells hSw; go_simp; try with_reducible rfl) ?_
                (try simp only [Act.put, List.setIfInBounds_toArray, List.set_cons_zero, List.set_cons_succ])
                refine anyH_take (i := 18) (some 225) (v := _) rfl rfl (by kernel_rfl) (by kernel_rfl) (by kernel_rfl) (fun _ _ _ h => h) (by rfl) (HR30D.out) (by intro w hSw; obtain ⟨q0, q1, -, -⟩ := RgAt.cells hSw; go_simp; try with_reducible rfl) ?_
                (try simp only [Act.put, List.setIfInBounds_toArray, List.set_cons_zero, List.set_cons_succ])
                refine anyH_take (i := 19) (some 226) (v := _) rfl rfl (by kernel_rfl) (by kernel_rfl) (by kernel_rfl) (fun _ _ _ h => h) (by rfl) (HR30D.out) (by intro w hSw; obtain ⟨q0, q1, -, -⟩ := RgAt.cells hSw; go_simp; try with_reducible rfl) ?_
                (try simp only [Act.put, List.setIfInBounds_toArray, List.set_cons_zero, List.set_cons_succ])
                refine anyH_take (i := 22) (some 229) (v := _) rfl rfl (by kernel_rfl) (by kernel_rfl) (by kernel_rfl) (fun _ _ _ h => h) (by rfl) (HR30D.out) (by intro w hSw; obtain ⟨q0, q1, -, -⟩ := RgAt.cells hSw; go_simp; try with_reducible rfl) ?_
                (try simp only [Act.put, List.setIfInBounds_toArray, List.set_cons_zero, List.set_cons_succ])
                refine anyH_take (i := 23) (some 230) (v := _) rfl rfl (by kernel_rfl) (by kernel_rfl) (by kernel_rfl) (fun _ _ _ h => h) (by rfl) (HR30D.out) (by intro w hSw; obtain ⟨q0, q1, -, -⟩ := RgAt.cells hSw; go_simp; try with_reducible rfl) ?_
                (try simp only [Act.put, List.setIfInBounds_toArray, List.set_cons_zero, List.set_cons_succ])
                refine anyH_take (i := 27) (some 234) (v := _) rfl rfl (by kernel_rfl) (by kernel_rfl) (by kernel_rfl) (fun _ _ _ h => h) (by rfl) (HR30D.out) (by intro w hSw; obtain ⟨q0, q1, -, -⟩ := RgAt.cells hSw; go_simp; try with_reducible rfl) ?_
                (try simp only [Act.put, List.setIfInBounds_toArray, List.set_cons_zero, List.set_cons_succ])
                refine anyH_take (i := 28) (some 235) (v := _) rfl rfl (by kernel_rfl) (by kernel_rfl) (by kernel_rfl) (fun _ _ _ h => h) (by rfl) (HR30D.out) (by intro w hSw; obtain ⟨q0, q1, -, -⟩ := RgAt.cells hSw; go_simp; try with_reducible rfl) ?_
                (try simp only [Act.put, List.setIfInBounds_toArray, List.set_cons_zero, List.set_cons_succ])
                refine wpAnyH_ready (rs := [14]) (by kernel_rfl) (by simp) (AllReadyH.cons rfl (fun K hK => ?_) AllReadyH.nil)
                go_simp
                refine (E.bytes0 W30.drew).mono ?_
                rintro e W31 ⟨rfl, hb⟩; replace hb := below_undrew hb
                have HR31 := Lib.hid (HR30.out.keep hb)
                have HU31 := Lib.hid (HU30.out.trans (hb.mono HU30.out.size))
                clear hb
                go_wp2_with fail
                refine hK.out _ _ (HR31.out) (fun _ => ?_)
                clear hK K
                (try simp only [Act.put, List.setIfInBounds_toArray, List.set_cons_zero, List.set_cons_succ])
                refine wpAnyH_ready (rs := [16]) (by kernel_rfl) (by simp) (AllReadyH.cons rfl (fun K hK => ?_) AllReadyH.nil)
                go_simp
                refine (E.len0 W31).mono ?_
                rintro e W32 ⟨rfl, hb⟩
                have HR32 := Lib.hid (HR31.out.keep hb)
                have HU32 := Lib.hid (HU31.out.trans (hb.mono HU31.out.size))
                clear hb
                go_wp2_with fail
                refine hK.out _ _ (HR32.out) (fun _ => ?_)
                clear hK K
                (try simp only [Act.put, List.setIfInBounds_toArray, List.set_cons_zero, List.set_cons_succ])
                refine anyH_take (i := 17) (some 224) (v := _) rfl rfl (by kernel_rfl) (by kernel_rfl) (by kernel_rfl) (fun _ _ _ h => h) (by rfl) (HR32.out) (by intro w hSw; obtain ⟨q0, q1, -, -⟩ := RgAt.cells hSw; go_simp; try with_reducible rfl) ?_
                (try simp only [Act.put, List.setIfInBounds_toArray, List.set_cons_zero, List.set_cons_succ])
                refine wpAnyH_ready (rs := [20]) (by kernel_rfl) (by simp) (AllReadyH.cons rfl (fun K hK => ?_) AllReadyH.nil)
                go_simp
                refine (E.purge0 W32 0 1099511627777).mono ?_
                rintro e W33 ⟨rfl, hb⟩
                have HR33 := Lib.hid (HR32.out.keep hb)
                have HU33 := Lib.hid (HU32.out.trans (hb.mono HU32.out.size))
                clear hb
                go_wp2_with fail
                refine hK.out _ _ (HR33.out) (fun _ => ?_)
                clear hK K
                (try simp only [Act.put, List.setIfInBounds_toArray, List.set_cons_zero, List.set_cons_succ])
                refine anyH_take (i := 21) (some 228) (v := _) rfl rfl (by kernel_rfl) (by kernel_rfl) (by kernel_rfl) (fun _ _ _ h => h) (by rfl) (HR33.out) (by intro w hSw; obtain ⟨q0, q1, -, -⟩ := RgAt.cells hSw; go_simp; try with_reducible rfl) ?_
                (try simp only [Act.put, List.setIfInBounds_toArray, List.set_cons_zero, List.set_cons_succ])
                refine wpAnyH_ready (rs := [24]) (by kernel_rfl) (by simp) (AllReadyH.cons rfl (fun K hK => ?_) AllReadyH.nil)
                go_simp
                refine (E.points0 W33 0 1099511627777).mono ?_
                rintro e W34 ⟨⟨a33, k33, rfl⟩, hb⟩
                have HR34 := Lib.hid (HR33.out.keep hb)
                have HU34 := Lib.hid (HU33.out.trans (hb.mono HU33.out.size))
                clear hb
                go_wp2_with fail
                refine hK.out _ _ (HR34.out) (fun _ => ?_)
                clear hK K
                (try simp only [Act.put, List.setIfInBounds_toArray, List.set_cons_zero, List.set_cons_succ])
                refine anyH_take (i := 25) (some 232) (v := _) rfl rfl (by kernel_rfl) (by kernel_rfl) (by kernel_rfl) (fun _ _ _ h => h) (by rfl) (HR34.out) (by intro w hSw; obtain ⟨q0, q1, -, -⟩ := RgAt.cells hSw; go_simp; try with_reducible rfl) ?_
                (try simp only [Act.put, List.setIfInBounds_toArray, List.set_cons_zero, List.set_cons_succ])
                refine anyH_take (i := 26) (some 233) (v := _) rfl rfl (by kernel_rfl) (by kernel_rfl) (by kernel_rfl) (fun _ _ _ h => h) (by rfl) (HR34.out) (by intro w hSw; obtain ⟨q0, q1, -, -⟩ := RgAt.cells hSw; go_simp; try with_reducible rfl) ?_
                (try simp only [Act.put, List.setIfInBounds_toArray, List.set_cons_zero, List.set_cons_succ])
                refine wpAnyH_ready (rs := [29]) (by kernel_rfl) (by simp) (AllReadyH.cons rfl (fun K hK => ?_) AllReadyH.nil)
                go_simp
                refine (E.aggs0 W34 0 1099511627777).mono ?_
                rintro e W35 ⟨⟨a34, k34, rfl⟩, hb⟩
                have HR35 := Lib.hid (HR34.out.keep hb)
                have HU35 := Lib.hid (HU34.out.trans (hb.mono HU34.out.size))
                clear hb
                go_wp2_with fail
                refine hK.out _ _ (HR35.out) (fun _ => ?_)
                clear hK K
                (try simp only [Act.put, List.setIfInBounds_toArray, List.set_cons_zero, List.set_cons_succ])
                refine anyH_take (i := 30) (some 237) (v := _) rfl rfl (by kernel_rfl) (by kernel_rfl) (by kernel_rfl) (fun _ _ _ h => h) (by rfl) (HR35.out) (by intro w hSw; obtain ⟨q0, q1, -, -⟩ := RgAt.cells hSw; go_simp; try with_reducible rfl) ?_
                (try simp only [Act.put, List.setIfInBounds_toArray, List.set_cons_zero, List.set_cons_succ])
                refine anyH_take (i := 31) (some 238) (v := _) rfl rfl (by kernel_rfl) (by kernel_rfl) (by kernel_rfl) (fun _ _ _ h => h) (by rfl) (HR35.out) (by intro w hSw; obtain ⟨q0, q1, -, -⟩ := RgAt.cells hSw; go_simp; try with_reducible rfl) ?_
                (try simp only [Act.put, List.setIfInBounds_toArray, List.set_cons_zero, List.set_cons_succ])
                refine anyH_take (i := 32) (some 239) (v := _) rfl rfl (by kernel_rfl) (by kernel_rfl) (by kernel_rfl) (fun _ _ _ h => h) (by rfl) (HR35.out) (by intro w hSw; obtain ⟨q0, q1, -, -⟩ := RgAt.cells hSw; go_simp; try with_reducible rfl) ?_
                (try simp only [Act.put, List.setIfInBounds_toArray, List.set_cons_zero, List.set_cons_succ])
                refine anyH_take (i := 33) (some 240) (v := _) rfl rfl (by kernel_rfl) (by kernel_rfl) (by kernel_rfl) (fun _ _ _ h => h) (by rfl) (HR35.out) (by intro w hSw; obtain ⟨q0, q1, -, -⟩ := RgAt.cells hSw; go_simp; try with_reducible rfl) ?_
                (try simp only [Act.put, List.setIfInBounds_toArray, List.set_cons_zero, List.set_cons_succ])
                refine anyH_take (i := 34) (some 241) (v := _) rfl rfl (by kernel_rfl) (by kernel_rfl) (by kernel_rfl) (fun _ _ _ h => h) (by rfl) (HR35.out) (by intro w hSw; obtain ⟨q0, q1, -, -⟩ := RgAt.cells hSw; go_simp; try with_reducible rfl) ?_
                (try simp only [Act.put, List.setIfInBounds_toArray, List.set_cons_zero, List.set_cons_succ])
                refine anyH_take (i := 35) (some 242) (v := _) rfl rfl (by kernel_rfl) (by kernel_rfl) (by kernel_rfl) (fun _ _ _ h => h) (by rfl) (HR35.out) (by intro w hSw; obtain ⟨q0, q1, -, -⟩ := RgAt.cells hSw; go_simp; try with_reducible rfl) ?_
                (try simp only [Act.put, List.setIfInBounds_toArray, List.set_cons_zero, List.set_cons_succ])
                refine wpAnyH_ready (rs := [36]) (by kernel_rfl) (by simp) (AllReadyH.cons rfl (fun K hK => ?_) AllReadyH.nil)
                go_simp
                refine (E.copy0 W35).mono ?_
                rintro e W36 ⟨rfl, hb⟩
                have HR36 := Lib.hid (HR35.out.keep hb)
                have HU36 := Lib.hid (HU35.out.trans (hb.mono HU35.out.size))
                clear hb
                go_wp2_with fail
                refine hK.out _ _ (HR36.out) (fun _ => ?_)
                clear hK K
                (try simp only [Act.put, List.setIfInBounds_toArray, List.set_cons_zero, List.set_cons_succ])
                refine anyH_take (i := 37) (some 244) (v := _) rfl rfl (by kernel_rfl) (by kernel_rfl) (by kernel_rfl) (fun _ _ _ h => h) (by rfl) (HR36.out) (by intro w hSw; obtain ⟨q0, q1, -, -⟩ := RgAt.cells hSw; go_simp; try with_reducible rfl) ?_
                (try simp only [Act.put, List.setIfInBounds_toArray, List.set_cons_zero, List.set_cons_succ])
                refine anyH_take (i := 38) (some 245) (v := _) rfl rfl (by kernel_rfl) (by kernel_rfl) (by kernel_rfl) (fun _ _ _ h => h) (by rfl) (HR36.out) (by intro w hSw; obtain ⟨q0, q1, -, -⟩ := RgAt.cells hSw; go_simp; try with_reducible rfl) ?_
                (try simp only [Act.put, List.setIfInBounds_toArray, List.set_cons_zero, List.set_cons_succ])
                refine anyH_take (i := 39) (some 6) (v := _) rfl rfl (by kernel_rfl) (by kernel_rfl) (by kernel_rfl) (fun _ _ _ h => h) (by rfl) (HR36.out) (by intro w hSw; obtain ⟨q0, q1, -, -⟩ := RgAt.cells hSw; go_simp; try with_reducible rfl) ?_
                (try simp only [Act.put, List.setIfInBounds_toArray, List.set_cons_zero, List.set_cons_succ])
                refine wpAnyH_done (by kernel_rfl) ?_ _
                have hw0 : (IntKind.i64.wrap (IntKind.i64.wrap (IntKind.i64.wrap (IntKind.i64.wrap 0))) == 0) = true := by decide
                rw [hw0]
                go_wp2_with fail
                go_ret
                exact ⟨rfl, HU36.out⟩
end Go.Proofs.Ytmpphidiofhnlaa
