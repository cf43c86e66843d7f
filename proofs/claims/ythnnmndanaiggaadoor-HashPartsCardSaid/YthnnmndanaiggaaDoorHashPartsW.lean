/- HashParts, walked. -/
import Derived.Test.YthnnmndanaiggaaDoorHaParts
namespace Go.Proofs.YthnnmndanaiggaaDoor
open Go.RowKit

theorem off_const (w : World) (l : List Nat) (fr : Nat × Nat) {P : Nat} (hP : P < w.heap.size) (hl : l ≠ []) : Off (w.alloc (.cells (u8s l).toArray 5 fr)) P (.slice (some ⟨w.heap.size, 0, none⟩) l.length l.length) l := by
  rcases const_lies w l fr with ⟨hv, hb⟩ | ⟨_, _, _, hb⟩ | ⟨b, off, c, hv, hb⟩
  · exact absurd hb hl
  · exact absurd hb hl
  · cases hv
    exact .inr ⟨_, 0, _, rfl, hb, by omega, hl, Nat.le_refl _⟩
theorem cut_of {w : World} {a : Option Addr} {c i : Nat} {cs : List Nat} (hv : Lies w (.slice a cs.length c) cs) (hi : i < cs.length) : ∃ b off, a = some ⟨b, off, none⟩ ∧ BytesAt w b off cs := by
  rcases hv with ⟨_, rfl⟩ | ⟨_, _, _, rfl⟩ | ⟨b, off, c', hv, hb⟩
  · simp at hi
  · simp at hi
  · cases hv; exact ⟨b, off, rfl, hb⟩
theorem take_more (bs : List Nat) (p k : Nat) : bs.take p ++ (bs.drop p).take k = bs.take (p + k) := by rw [List.take_add]

set_option maxHeartbeats 16000000 in
set_option maxRecDepth 1000000 in
theorem hashParts_main {w : World} {a0 a1 : Option Addr} {c0 c1 n m : Nat} {bs cs : List Nat} (hv0 : Lies w (.slice a0 bs.length c0) bs) (hf0 : bs.length ≤ c0) (hb0 : ∀ x ∈ bs, x < 256) (hv1 : Lies w (.slice a1 cs.length c1) cs) (hb1 : ∀ x ∈ cs, x < 256) (hn : n = bs.length) (hm : m = cs.length) (hn1 : n ≤ 1000) (hm2 : m ≤ 200) (htab : Tabs w) :
    Calls Tryd.prog 4 #[.slice a0 n c0, .slice a1 m c1] w fun e w' => e = .returned (.bool true) ∧ Below w.heap.size w w' := by
  have t1 : decide (1000 < (n : Int)) = false := by simp only [decide_eq_false_iff_not]; omega
  have t2 : decide (200 < (m : Int)) = false := by simp only [decide_eq_false_iff_not]; omega
  have HT := Lib.hid htab
  have HV0 := Lib.hid hv0
  have HV1 := Lib.hid hv1
  have HF0 := Lib.hid hf0
  have HB0 := Lib.hid hb0
  have HB1 := Lib.hid hb1
  have HN := Lib.hid hn
  have HM := Lib.hid hm
  clear htab hv0 hv1 hf0 hb0 hb1 hn hm
  obtain ⟨iU, hiU, hzU, hsU, hbU⟩ : ∃ i, Tryd.prog.info? 5 = some i ∧ i.zero = some (.int .u8 0) ∧ i.size = 1 ∧ i.bytes = 1 := by
    have h := infoU8
    cases hi : Tryd.prog.info? 5 with
    | none => rw [hi] at h; simp at h
    | some i => rw [hi] at h; simp at h; exact ⟨i, rfl, h.1, h.2.1, h.2.2⟩
  go_enter Tryd.func4, Tryd.ntmps4
  repeat (first | go_values | go_skip | go_guarded | go_step | go_upon)
  refine (lives_any w HT.out).mono ?_
  rintro e W1 ⟨rfl, hw1⟩
  have HBW1 := Lib.hid hw1
  clear hw1
  dsimp only
  repeat (first | go_values | go_skip | go_guarded | go_step | go_upon)
  refine (new_any W1 (HT.out.keep HBW1.out)).mono ?_
  rintro e W2 ⟨rfl, hst, hw2⟩
  have HS2 := Lib.hid hst
  have HBW2 : Hid (Below w.heap.size w W2) := Lib.hid (HBW1.out.trans (hw2.mono HBW1.out.size))
  clear hst hw2
  dsimp only
  repeat (first | go_values | go_skip | go_guarded | go_step | go_upon)
  obtain ⟨P, hP⟩ : ∃ p, p = W1.heap.size := ⟨_, rfl⟩
  rw [← hP] at HS2 ⊢
  have hPw : w.heap.size ≤ P := by rw [hP]; exact HBW1.out.size
  have HPG : Hid (P ≠ 0 ∧ P ≠ 1) := Lib.hid ⟨by have := HT.out.lt0; omega, by have := HT.out.lt1; omega⟩
  clear hP HBW1
  go_loopw [6, 30] (fun vp c wr => ∃ i p : Nat, i ≤ m ∧ p ≤ n ∧ c = .int .i64 i ∧ vp = .int .i64 p ∧ St wr P (bs.take p) ∧ Below w.heap.size w wr) (fun _ c _ => m - (intOf c).toNat)
  case atStart => exact ⟨0, 0, by omega, by omega, rfl, rfl, by simpa using HS2.out, HBW2.out⟩
  case round =>
    obtain ⟨i, p, hi, hp, rfl, rfl, hst, hbw⟩ := hrel
    have HS := Lib.hid hst
    have HBW := Lib.hid hbw
    clear hst hbw HS2 HBW2 t1 t2
    by_cases hlt : i < m
    · have t3 : decide ((i : Int) < (m : Int)) = true := by simp only [decide_eq_true_eq]; omega
      have hti : (i : Int) < (m : Int) := by omega
      obtain ⟨b1, o1, rfl, hby1⟩ := cut_of (i := i) HV1.out (by have := HM.out; omega)
      have c1' := hby1.below HBW.out (cell_lt (hby1 i (by have := HM.out; omega))) i (by have := HM.out; omega)
      obtain ⟨x, hx⟩ : ∃ x, x = cs.getD i 0 := ⟨_, rfl⟩
      rw [← hx] at c1'
      have hx256 : x < 256 := by rw [hx]; exact getD_lt HB1.out i
      obtain ⟨rst, hrst⟩ : ∃ r, r = n - p := ⟨_, rfl⟩
      obtain ⟨k, hk⟩ : ∃ k, k = min x rst := ⟨_, rfl⟩
      obtain ⟨q, hq⟩ : ∃ q, q = p + k := ⟨_, rfl⟩
      have e1 : IntKind.i64.wrap ((n : Int) - p) = (rst : Int) := by rw [IntKind.wrap_i64]; omega
      have e2 : IntKind.i64.wrap ((p : Int) + k) = (q : Int) := by rw [IntKind.wrap_i64]; omega
      have e3 : (if rst < x then (rst : Int) else (x : Int)) = (k : Int) := by split <;> omega
      have hqn : q ≤ n := by omega
      have hpq : p ≤ q := by omega
      obtain ⟨pc, hpc⟩ : ∃ l, l = (bs.drop p).take (q - p) := ⟨_, rfl⟩
      have hpcl : pc.length = k := by rw [hpc, List.length_take, List.length_drop, ← HN.out]; omega
      have HPB : Hid (∀ x ∈ pc, x < 256) := Lib.hid (by rw [hpc]; exact fun x hx => HB0.out x (List.mem_of_mem_drop (List.mem_of_mem_take hx)))
      have HTK : Hid (bs.take p ++ pc = bs.take q) := Lib.hid (by rw [hpc, take_more]; congr 1; omega)
      have HLM : Hid (∀ W, Below w.heap.size w W → Lies W (midS a0 c0 p q) pc) := Lib.hid fun W hW => by
        rw [hpc]; exact lies_keep (lies_mid HV0.out HF0.out hpq (by rw [← HN.out]; exact hqn)) hW
      have hq0 : q ≤ c0 := by have := HF0.out; have := HN.out; omega
      have HPL := Lib.hid hpcl
      have hkk : k ≤ 1000 := by omega
      have HTL : Hid ((bs.take p).length ≤ 1000) := Lib.hid (by rw [List.length_take]; omega)
      clear hx hrst hk hpc hpcl hby1 hq
      repeat (first | (refine wpList_mid rfl 22 (.tmp 42) (some (.tmp 43)) (some (.tmp 46)) rfl 5 Tryd.underlying22 (by kernel_rfl) a0 n c0 p q (some (.int .i64 (p : Int))) (some (.int .i64 (q : Int))) rfl rfl rfl (fun w => bounds_lh w n c0 p q hpq hq0) ?_; intro V hV) | (refine wpList_append_bytes _ rfl (.tmp 41) (.tmp 47) 22 rfl wr.heap.size 5 iU Tryd.underlying22 hiU hzU hsU hbU _ 0 [] rfl (own_empty wr) V pc (by rfl) (by rw [hV.out]; exact HLM.out _ (HBW.out.alloc HBW.out.size _)) (by have := HPL.out; omega) (by simp) ?_; intro v10 W10 hown hg10 _; have hown := (show W10.ownsRow wr.heap.size 5 1 v10 k (u8s pc) by have h := hown; rw [Nat.zero_add, List.nil_append, HPL.out] at h; exact h); obtain ⟨a10, c10, rfl⟩ := own_slice hown; have HO10 := Lib.hid hown; have HBR := Lib.hid (((Below.refl wr.heap.size wr).alloc (Nat.le_refl _) _).grown hg10 (by simp) (fun k hk => ((own_empty wr).lt k hk).1)); clear hown hg10) | go_values | go_skip | go_guarded | go_step | go_upon)
      have HBW10 : Hid (Below w.heap.size w W10) := Lib.hid (HBW.out.trans (HBR.out.mono HBW.out.size))
      have hPr : P < wr.heap.size := HS.out.lt
      refine (write_any (HS.out.beyond HBR.out) (off_own HO10.out hPr) HPB.out (by have := HTL.out; have := HPL.out; omega) (HT.out.keep HBW10.out) HPG.out.1 HPG.out.2).mono ?_
      rintro e W11 ⟨rfl, hst11, ho11⟩
      have HS11 := Lib.hid (show St W11 P (bs.take q) by rw [← HTK.out]; exact hst11)
      have HOB : Hid (∀ b, (Value.slice a10 k c10).ownBlock = some b → wr.heap.size ≤ b) := Lib.hid fun b hb => (HO10.out.lt b hb).1
      have HO11 := Lib.hid (row_only HO10.out ho11 (fun b hb h => by have := HOB.out b hb; omega))
      have HBW11 : Hid (Below w.heap.size w W11) := Lib.hid (HBW10.out.trans (ho11.below (by have := HBW10.out.size; omega) (fun b hb => by omega)))
      have HBI := Lib.hid (own_bytesIn HO11.out HPB.out)
      have HFORM : Hid (0 < k → ∃ g, a10 = some ⟨g, 0, none⟩ ∧ wr.heap.size ≤ g) := Lib.hid fun hk => by
        obtain ⟨g, cap, hv, hg, _⟩ := HO11.out.form hk
        cases hv; exact ⟨g, rfl, hg⟩
      clear hst11 ho11
      dsimp only
      obtain ⟨wq, hwq⟩ : ∃ wq, wq = wr := ⟨_, rfl⟩
      subst hwq
      repeat (first | go_values | go_skip | go_guarded | go_step | go_upon)
      go_loopw [54] (fun c w2 => ∃ j : Nat, j ≤ k ∧ c = .int .i64 j ∧ BytesIn w2 (.slice a10 k c10) k ∧ Only (fun b => (Value.slice a10 k c10).ownBlock = some b) W11 w2) (fun c _ => k - (intOf c).toNat)
      case atStart => exact ⟨0, by omega, rfl, HBI.out, Only.refl _ _⟩
      case round =>
        obtain ⟨j, hj, rfl, hbi, ho⟩ := hrel
        have HBIx := Lib.hid hbi
        have HOx := Lib.hid ho
        clear HBI hbi ho
        by_cases hjk : j < k
        · have t4 : decide ((j : Int) < (k : Int)) = true := by simp only [decide_eq_true_eq]; omega
          have htj : (j : Int) < (k : Int) := by omega
          obtain ⟨g, hga, hgB⟩ := HFORM.out (by omega)
          subst hga
          obtain ⟨cur, ha, hc⟩ := HBIx.out g c10 rfl
          obtain ⟨z, hz, hcz⟩ := hc j hjk
          have d1 := ha.cell hcz
          have q1 := ha.free j
          obtain ⟨y, hy⟩ : ∃ y, y = z ^^^ 255 := ⟨_, rfl⟩
          have hy256 : y < 256 := by rw [hy]; exact Nat.xor_lt_two_pow (n := 8) hz (by decide)
          have x1 : bits .xor .u8 (z : Int) 255 = (y : Int) := by rw [show (255 : Int) = ((255 : Nat) : Int) from rfl, u8_xor_nat z 255 hz (by decide), hy]
          clear ha hc hcz hy
          repeat (first | go_values | go_skip | go_guarded | go_step | go_upon)
          go_roundw
          case rel => exact ⟨j + 1, by omega, by go_num, HBIx.out.set hy256, HOx.out.trans (Only.setCell (S := fun b => (Value.slice (some ⟨g, 0, none⟩) k c10).ownBlock = some b) wr (p := ⟨g, j, none⟩) rfl _) (fun _ _ h => h)⟩
          case measure => simp [intOf]; omega
        · have t4 : decide ((j : Int) < (k : Int)) = false := by simp only [decide_eq_false_iff_not]; omega
          have HS12 := Lib.hid (HS11.out.only HOx.out (fun h => by have := HOB.out P h; omega))
          have HBW12 : Hid (Below w.heap.size w wr) := Lib.hid (HBW11.out.trans (HOx.out.below (by have := HBW11.out.size; omega) (fun b hb => by have := HOB.out b hb; have := HBW.out.size; omega)))
          obtain ⟨L, hL⟩ : ∃ L, L = u8s (digest (bs.take q)) := ⟨_, rfl⟩
          have HSUM : Hid (∀ W, St W P (bs.take q) → Tabs W → Calls Tryd.prog 11 #[.pointer (some ⟨P, 0, none⟩)] W fun e w' => e = .returned (.agg L.toArray) ∧ Below W.heap.size W w') := Lib.hid fun W h1 h2 => by
            rw [hL]; exact sum_any h1 (by rw [List.length_take]; omega) h2
          obtain ⟨V2, hV2⟩ : ∃ V, V = midS a0 c0 0 q := ⟨_, rfl⟩
          have HHS : Hid (∀ W, Below w.heap.size w W → Calls Tryd.prog 7 #[V2] W fun e w' => e = .returned (.agg L.toArray) ∧ Below W.heap.size W w') := Lib.hid fun W hW => by
            rw [hL, hV2]
            have h1 := lies_mid HV0.out HF0.out (Nat.zero_le q) (by rw [← HN.out]; exact hqn)
            rw [List.drop_zero, Nat.sub_zero] at h1
            exact hsum_any (lies_keep h1 hW) (fits_mid hq0) (fun x hx => HB0.out x (List.mem_of_mem_take hx)) (by rw [List.length_take]; omega) (HT.out.keep hW)
          have HEQ : Hid (∀ W, (Op.equalIn 10000 25 (.agg L.toArray) (.agg L.toArray)).run Tryd.prog W = .ok true W) := Lib.hid fun W => by rw [hL]; exact dig_same _ (digest_length _) W
          have HV2 := Lib.hid hV2
          clear hL hV2
          repeat (first | go_values | go_skip | go_guarded | go_step | go_upon)
          refine wp_region_held_drew (S := fun _ => True) (by kernel_rfl) trivial (fun _ => ?_)
          refine anyH_take (i := 0) (some 67) (v := _) rfl rfl (by kernel_rfl) (by kernel_rfl) (by kernel_rfl) (fun _ _ _ h => h) (by rfl) trivial (by intro w hSw; go_simp; try with_reducible rfl) ?_
          (try simp only [Act.put, List.setIfInBounds_toArray, List.set_cons_zero, List.set_cons_succ])
          refine anyH_take (i := 2) (some 69) (v := _) rfl rfl (by kernel_rfl) (by kernel_rfl) (by kernel_rfl) (fun _ _ _ h => h) (by rfl) trivial (by intro w hSw; go_simp; try with_reducible rfl) ?_
          (try simp only [Act.put, List.setIfInBounds_toArray, List.set_cons_zero, List.set_cons_succ])
          refine anyH_take (i := 3) (some 70) (v := _) rfl rfl (by kernel_rfl) (by kernel_rfl) (by kernel_rfl) (fun _ _ _ h => h) (by rfl) trivial (by intro w hSw; go_simp; try with_reducible rfl) ?_
          (try simp only [Act.put, List.setIfInBounds_toArray, List.set_cons_zero, List.set_cons_succ])
          refine anyH_take (i := 4) (some 71) (v := V2) rfl rfl (by kernel_rfl) (by kernel_rfl) (by kernel_rfl) (fun _ _ _ h => h) (by rfl) trivial (by intro w hSw; rw [HV2.out]; exact run_mid_op w 22 (.tmp 69) none (some (.tmp 70)) rfl 5 Tryd.underlying22 (by kernel_rfl) a0 n c0 0 q none (some (.int .i64 (q : Int))) rfl rfl rfl (fun w => bounds_h w n c0 q hq0)) ?_
          (try simp only [Act.put, List.setIfInBounds_toArray, List.set_cons_zero, List.set_cons_succ])
          refine wpAnyH_ready (rs := [1]) (by kernel_rfl) (by simp) (AllReadyH.cons rfl (fun K hK => ?_) AllReadyH.nil)
          go_simp
          refine (HSUM.out _ (HS12.out.only (Only.drew (fun _ => False) wr) (fun h => h)) ((HT.out.keep HBW12.out).only (Only.drew (fun _ => False) wr) (fun h => h) (fun h => h))).mono ?_
          rintro e W13 ⟨rfl, hw13⟩
          have HBW13 : Hid (Below w.heap.size w W13) := Lib.hid ((HBW12.out.trans ((Below.refl _ _).drew.mono HBW12.out.size)).trans (hw13.mono HBW12.out.size))
          have HS13 := Lib.hid ((HS12.out.only (Only.drew (fun _ => False) wr) (fun h => h)).beyond hw13)
          clear hw13
          go_wp2_with fail
          refine hK.out _ _ trivial (fun _ => ?_)
          clear hK K
          (try simp only [Act.put, List.setIfInBounds_toArray, List.set_cons_zero, List.set_cons_succ])
          refine wpAnyH_ready (rs := [5]) (by kernel_rfl) (by simp) (AllReadyH.cons rfl (fun K hK => ?_) AllReadyH.nil)
          go_simp
          refine (HHS.out W13 HBW13.out).mono ?_
          rintro e W14 ⟨rfl, hw14⟩
          go_wp2_with fail
          refine hK.out _ _ trivial (fun _ => ?_)
          clear hK K
          (try simp only [Act.put, List.setIfInBounds_toArray, List.set_cons_zero, List.set_cons_succ])
          refine anyH_take (i := 6) (some 73) (v := _) rfl rfl (by kernel_rfl) (by kernel_rfl) (by kernel_rfl) (fun _ _ _ h => h) (by rfl) trivial (by intro w hSw; have hq := HEQ.out w; go_simp; try with_reducible rfl) ?_
          (try simp only [Act.put, List.setIfInBounds_toArray, List.set_cons_zero, List.set_cons_succ])
          refine wpAnyH_done (by kernel_rfl) ?_ _
          have HBW14 : Hid (Below w.heap.size w W14) := Lib.hid (HBW13.out.trans (hw14.mono HBW13.out.size))
          have HS14 := Lib.hid (HS13.out.beyond hw14)
          clear hw14
          repeat (first | go_values | go_skip | go_guarded | go_step | go_upon)
          refine (copy_any HS14.out).mono ?_
          rintro e W15 ⟨rfl, hst15, hw15⟩
          have HS15 := Lib.hid hst15
          have HB15 := Lib.hid hw15
          have HBW15 : Hid (Below w.heap.size w W15) := Lib.hid (HBW14.out.trans (hw15.mono HBW14.out.size))
          clear hst15 hw15
          dsimp only
          obtain ⟨P2, hP2⟩ : ∃ p, p = W14.heap.size := ⟨_, rfl⟩
          have hP2w : w.heap.size ≤ P2 := by rw [hP2]; exact HBW14.out.size
          have hPP2 : P < P2 := by rw [hP2]; exact HS14.out.lt
          have hP2G : P2 ≠ 0 ∧ P2 ≠ 1 := ⟨by have := HT.out.lt0; omega, by have := HT.out.lt1; omega⟩
          rw [← hP2] at HS15 ⊢
          have HP2G := Lib.hid hP2G
          have hP2l : P2 < W15.heap.size := HS15.out.lt
          clear hP2 hP2G
          repeat (first | (refine wpList_conv_const rfl 22 5 (.tmp 77) rfl (u8s [111, 116, 104, 101, 114]).toArray 5 5 rfl Tryd.underlying22 Tryd.underlying5 ?_) | go_values | go_skip | go_guarded | go_step | go_upon)
          refine calls_name ?_
          intro W16 hW16
          have HB16 : Hid (Below W15.heap.size W15 W16) := Lib.hid (by rw [hW16.out]; exact (Below.refl _ _).alloc (Nat.le_refl _) _)
          have HBW16 : Hid (Below w.heap.size w W16) := Lib.hid (HBW15.out.trans (HB16.out.mono HBW15.out.size))
          refine (write_any (bs := bs.take q) (cs := [111, 116, 104, 101, 114]) (HS15.out.beyond HB16.out) (by rw [hW16.out]; exact off_const W15 [111, 116, 104, 101, 114] _ hP2l (by simp)) (by decide) (by rw [List.length_take]; simp; omega) (HT.out.keep HBW16.out) HP2G.out.1 HP2G.out.2).mono ?_
          rintro e W17 ⟨rfl, _, ho17⟩
          have HS17 := Lib.hid (((HS14.out.beyond HB15.out).beyond HB16.out).only ho17 (by omega))
          have HBW17 : Hid (Below w.heap.size w W17) := Lib.hid (HBW16.out.trans (ho17.below (by have := HBW16.out.size; omega) (fun b hb => by omega)))
          clear ho17 hW16
          dsimp only
          repeat (first | go_values | go_skip | go_guarded | go_step | go_upon)
          go_roundw
          case rel => exact ⟨i + 1, q, by omega, by omega, by go_num, rfl, HS17.out, HBW17.out⟩
          case measure => simp [intOf]; omega
    · have t3 : decide ((i : Int) < (m : Int)) = false := by simp only [decide_eq_false_iff_not]; omega
      have hnc : n ≤ c0 := by have := HF0.out; have := HN.out; omega
      have HL2 : Hid (Lies w (midS a0 c0 p n) (bs.drop p)) := Lib.hid (by
        have h1 := lies_mid HV0.out HF0.out (lo := p) (hi := n) hp (by rw [← HN.out]; exact Nat.le_refl _)
        rw [List.take_of_length_le (by rw [List.length_drop, ← HN.out]; exact Nat.le_refl _)] at h1; exact h1)
      obtain ⟨L, hL⟩ : ∃ L, L = u8s (digest bs) := ⟨_, rfl⟩
      obtain ⟨E, hE⟩ : ∃ L, L = u8s (digest []) := ⟨_, rfl⟩
      have HSUM : Hid (∀ W, St W P bs → Tabs W → Calls Tryd.prog 11 #[.pointer (some ⟨P, 0, none⟩)] W fun e w' => e = .returned (.agg L.toArray) ∧ Below W.heap.size W w') := Lib.hid fun W h1 h2 => by
        rw [hL]; exact sum_any h1 (by rw [← HN.out]; omega) h2
      have HHS : Hid (∀ W, Below w.heap.size w W → Calls Tryd.prog 7 #[.slice a0 n c0] W fun e w' => e = .returned (.agg L.toArray) ∧ Below W.heap.size W w') := Lib.hid fun W hW => by
        rw [hL, HN.out]; exact hsum_any (lies_keep HV0.out hW) (fits_slice HF0.out) HB0.out (by rw [← HN.out]; omega) (HT.out.keep hW)
      have HNS : Hid (∀ W, Tabs W → Calls Tryd.prog 11 #[.pointer none] W fun e w' => e = .returned (.agg E.toArray) ∧ Below W.heap.size W w') := Lib.hid fun W h2 => by rw [hE]; exact sum_none W h2
      have HNH : Hid (∀ W, Tabs W → Calls Tryd.prog 7 #[.slice none 0 0] W fun e w' => e = .returned (.agg E.toArray) ∧ Below W.heap.size W w') := Lib.hid fun W h2 => by
        rw [hE]; exact hsum_any (.inl ⟨rfl, rfl⟩) (fits_slice (Nat.le_refl _)) (by simp) (by simp) h2
      have HEQ : Hid (∀ W, (Op.equalIn 10000 25 (.agg L.toArray) (.agg L.toArray)).run Tryd.prog W = .ok true W) := Lib.hid fun W => by rw [hL]; exact dig_same _ (digest_length _) W
      have HEE : Hid (∀ W, (Op.equalIn 10000 25 (.agg E.toArray) (.agg E.toArray)).run Tryd.prog W = .ok true W) := Lib.hid fun W => by rw [hE]; exact dig_same _ (digest_length _) W
      clear hL hE
      repeat (first | (refine wpList_mid rfl 22 (.tmp 82) (some (.tmp 83)) none rfl 5 Tryd.underlying22 (by kernel_rfl) a0 n c0 p n (some (.int .i64 (p : Int))) none rfl rfl rfl (fun w => bounds_l w n c0 p hp) ?_; intro V hV) | go_values | go_skip | go_guarded | go_step | go_upon)
      refine (write_any HS.out (off_of (by rw [hV.out]; exact HL2.out) (by rw [hV.out]; exact fits_mid hnc) HBW.out hPw) (fun x hx => HB0.out x (List.mem_of_mem_drop hx)) (by rw [List.length_take, List.length_drop, ← HN.out]; omega) (HT.out.keep HBW.out) HPG.out.1 HPG.out.2).mono ?_
      rintro e W20 ⟨rfl, hst20, ho20⟩
      have HS20 := Lib.hid (show St W20 P bs by rw [List.take_append_drop] at hst20; exact hst20)
      have HBW20 : Hid (Below w.heap.size w W20) := Lib.hid (HBW.out.trans (ho20.below (by have := HBW.out.size; omega) (fun b hb => by omega)))
      clear hst20 ho20
      dsimp only
      repeat (first | go_values | go_skip | go_guarded | go_step | go_upon)
      refine (write_none _ _).mono ?_
      rintro e w' ⟨rfl, hw'⟩
      have hw' := hw'.symm
      subst hw'
      dsimp only
      repeat (first | go_values | go_skip | go_guarded | go_step | go_upon)
      refine (HSUM.out _ HS20.out (HT.out.keep HBW20.out)).mono ?_
      rintro e W21 ⟨rfl, hw21⟩
      have HBW21 : Hid (Below w.heap.size w W21) := Lib.hid (HBW20.out.trans (hw21.mono HBW20.out.size))
      clear hw21
      dsimp only
      repeat (first | go_values | go_skip | go_guarded | go_step | go_upon)
      refine (HHS.out _ HBW21.out).mono ?_
      rintro e W22 ⟨rfl, hw22⟩
      have HBW22 : Hid (Below w.heap.size w W22) := Lib.hid (HBW21.out.trans (hw22.mono HBW21.out.size))
      have hq1 := HEQ.out W22
      clear hw22
      dsimp only
      repeat (first | go_values | go_skip | go_guarded | go_step | go_upon)
      refine (HNS.out _ (HT.out.keep HBW22.out)).mono ?_
      rintro e W23 ⟨rfl, hw23⟩
      have HBW23 : Hid (Below w.heap.size w W23) := Lib.hid (HBW22.out.trans (hw23.mono HBW22.out.size))
      clear hw23
      dsimp only
      repeat (first | go_values | go_skip | go_guarded | go_step | go_upon)
      refine (HNH.out _ (HT.out.keep HBW23.out)).mono ?_
      rintro e W24 ⟨rfl, hw24⟩
      have HBW24 : Hid (Below w.heap.size w W24) := Lib.hid (HBW23.out.trans (hw24.mono HBW23.out.size))
      have hq2 := HEE.out W24
      clear hw24
      dsimp only
      repeat (first | go_values | go_skip | go_guarded | go_step | go_upon)
      refine (copy_none _).mono ?_
      rintro e w' ⟨rfl, hw'⟩
      have hw' := hw'.symm
      subst hw'
      dsimp only
      repeat (first | go_values | go_skip | go_guarded | go_step | go_upon)
      go_ret
      exact ⟨rfl, HBW24.out⟩
end Go.Proofs.YthnnmndanaiggaaDoor
