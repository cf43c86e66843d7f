/- VaultKeeps, walked. (py/va-keeps.py writes it.) -/
import Derived.Test.YtcdgbmeechnpiaaDoorZVaKeep
namespace Go.Proofs.YtcdgbmeechnpiaaDoor
open Go.RowKit

/-- the acts so far: a vault, its image, its changes -/
structure KeptI (B P : Nat) (w : World) (V J k t : Nat) (vi : Value) (img : List Nat) (ad : Option Addr) (cd : Nat) (us : List Value) (C : List (List Nat)) (d : Dev) : Prop where
  vau : Vau B w V J P k 50 t (img :: C) d
  im : ImgAt w V J P vi img
  rows : RowsC B w (.slice ad C.length cd) us C
  nd : C = [] → ad = none
theorem KeptI.on {B P : Nat} {w w' : World} {V J k t : Nat} {vi : Value} {img : List Nat} {ad : Option Addr} {cd : Nat} {us : List Value} {C : List (List Nat)} {d : Dev} (h : KeptI B P w V J k t vi img ad cd us C d) (hb : Below w.heap.size w w') : KeptI B P w' V J k t vi img ad cd us C d :=
  ⟨h.vau.on hb, h.im.on h.vau.sit.dev hb, h.rows.on hb, h.nd⟩
theorem own_fits11 {B : Nat} {w : World} {a : Option Addr} {m c : Nat} {us : List Value} {R : List (List Nat)} (h : RowsC B w (.slice a R.length c) us R) (hm : m = R.length) : m ≤ c := by
  rcases h.rows.row.2 with ⟨hv, h0⟩ | ⟨g, cap, cur, hv, _, _, hc, _⟩
  · have := h.rows.len; omega
  · have h1 := h.rows.len
    injection hv with _ e2 e3
    omega
theorem KeptI.small {B P : Nat} {w : World} {V J k t : Nat} {vi : Value} {img : List Nat} {ad : Option Addr} {cd : Nat} {us : List Value} {C : List (List Nat)} {d : Dev} (h : KeptI B P w V J k t vi img ad cd us C d) : (∀ x ∈ img, x < 256) ∧ SmallL C :=
  ⟨fun x hx => h.vau.st.jk.small img List.mem_cons_self x hx, fun r hr => h.vau.st.jk.small r (List.mem_cons_of_mem _ hr)⟩

set_option maxRecDepth 1000000 in
set_option maxHeartbeats 32000000 in
theorem vaultKeeps_walk {w : World} {v0 : Value} {L : List VactL} (hv0 : VactsAt w v0 L) (hin : ∀ x ∈ L, x.In) (_hm0 : L.length ≤ maxLen) (hl : StepsLaid w) :
    Calls Tryd.prog 3 #[v0] w fun e w' => e = .returned (.bool true) ∧ Below w.heap.size w w' := by
  obtain ⟨a0, c0, rfl, hr0⟩ := hv0
  obtain ⟨la, hla⟩ : ∃ n, n = L.length := ⟨_, rfl⟩
  have HLV : Hid (∀ w1, Below w.heap.size w w1 → Calls Tryd.prog 5 #[] w1 fun e w' => e = .returned (.bool true) ∧ Below w1.heap.size w1 w') := Lib.hid (fun w1 h => lives11_any w1 (hl.below h))
  have HBw0 : Hid (Below w.heap.size w w) := Lib.hid (Below.refl _ _)
  have HL := Lib.hid hl
  have HR0 := Lib.hid hr0
  have HLA := Lib.hid hla
  have HIN := Lib.hid hin
  rw [← hla]
  clear hl hr0 hla hin
  go_enter Tryd.func3, Tryd.ntmps3
  by_cases h25 : la ≤ 25
  · have t1 : decide ((25 : Int) < (la : Int)) = false := by simp; omega
    go_wp2_with (first | (go_at_call 5; refine (HLV.out _ HBw0.out).mono ?_; rintro e w1 ⟨rfl, hb1⟩; have HB1 := Lib.hid hb1; clear hb1; dsimp only) | (go_at_call 6; refine (new_ok (n := 100) (by omega) (by omega) w1).mono ?_; rintro e w2 ⟨P, rfl, hd2, hb2⟩; have HD2 := Lib.hid hd2; have HB2 := Lib.hid hb2; clear hd2 hb2; dsimp only))
    have hw1 := HB1.out.size
    have hgB : 0 < w1.heap.size := Nat.lt_of_lt_of_le HL.out.lt hw1
    have HSTP1 : Hid (StepsLaid w2) := Lib.hid ((HL.out.below HB1.out).below HB2.out)
    refine (vau_format (N := 50) (D := []) HD2.out HB2.out.size hgB (by omega) (.inl ⟨rfl, rfl⟩) (fun q h => by cases h) (by simp) HSTP1.out (by decide)).mono ?_
    rintro e w3 ⟨V, J, d, rfl, hs3, ha3, hk3, hV3, hJ3⟩
    obtain ⟨B, hB⟩ : ∃ B, B = w1.heap.size := ⟨_, rfl⟩
    rw [← hB] at hs3 hgB
    have hwB : w.heap.size ≤ B := by rw [hB]; exact hw1
    have HB3 : Hid (Below B w1 w3) := Lib.hid (by rw [hB]; exact HB2.out.trans (HD2.out.below HB2.out.size hk3))
    have HBw : Hid (∀ w', Below B w1 w' → Below w.heap.size w w' ∧ B ≤ w'.heap.size) := Lib.hid (fun w' h => ⟨HB1.out.trans (h.mono hwB), by rw [hB]; exact h.size⟩)
    have HS3 : Hid (KeptI B P w3 V J 0 1 (.slice none 0 0) [] none 0 [] [] d) := Lib.hid ⟨hs3, img_nil _ _ _ _, RowsC.nil B w3, fun _ => rfl⟩
    clear hs3 ha3 hk3 hV3 hJ3 hB hw1 HB2 HD2 HSTP1
    dsimp only
    go_wp2_with fail
    go_loopw [5, 7, 8, 46] (fun vv vi vc x wr => ∃ (i V J k t : Nat) (img : List Nat) (ad : Option Addr) (cd : Nat) (us : List Value) (C : List (List Nat)) (d : Dev), i ≤ la ∧ x = .int .i64 (i : Int) ∧ vv = .pointer (some ⟨V, 0, none⟩) ∧ vc = .slice ad C.length cd ∧ t ≤ 2 * i + 1 ∧ C.length ≤ i ∧ img.length ≤ 300 ∧ KeptI B P wr V J k t vi img ad cd us C d ∧ C.flatten.length ≤ 150 * i ∧ Below B w1 wr) (fun _ _ _ x _ => la - (intOf x).toNat)
    case atStart => exact ⟨0, V, J, 0, 1, [], none, 0, [], [], d, Nat.zero_le _, rfl, rfl, rfl, by omega, Nat.le_refl _, by simp, HS3.out, by simp, HB3.out⟩
    case round =>
      clear HS3 HB3 d J
      obtain ⟨i, V, J, k, t, img, ad, cd, us, C, d, hi, rfl, rfl, rfl, hti, hCi, himg, hk, hfl, hb⟩ := hrel
      have HK := Lib.hid hk
      have HB := Lib.hid hb
      have hBr := (HBw.out wr HB.out).2
      obtain ⟨m, hm⟩ : ∃ m, m = C.length := ⟨_, rfl⟩
      rw [← hm]
      have hmc : m ≤ cd := own_fits11 hk.rows hm
      have had : (if C = [] then none else ad) = ad := by
        by_cases h : C = []
        · rw [if_pos h, hk.nd h]
        · rw [if_neg h]
      have HAD := Lib.hid had
      have HM : Hid (m = C.length ∧ m ≤ i ∧ C.flatten.length ≤ 150 * i ∧ img.length ≤ 300) := Lib.hid ⟨hm, by omega, hfl, himg⟩
      clear hk hb hm had hCi hfl himg
      by_cases hlt : i < la
      · obtain ⟨x, hx⟩ : ∃ x, L[i]? = some x := ⟨_, List.getElem?_eq_getElem (by rw [← HLA.out]; exact hlt)⟩
        obtain ⟨b, off, rfl, hacts⟩ := HR0.out (fun e => by rw [e] at hx; simp at hx)
        have hxin := HIN.out x (List.mem_of_getElem? hx)
        obtain ⟨u, y0, y1, y2, y3, y4, y5, hli⟩ := (hacts i x hx).keep (HBw.out wr HB.out).1
        obtain ⟨kind, nn, bs, keep, torn, bytes⟩ := x
        have hfar : ∀ q, u.ownBlock = some q → bs ≠ [] → q < B := by
          obtain ⟨u', _, _, z2, _, _, _, hz⟩ := hacts i _ hx
          have e1 : wr.cell? ⟨b, off + i * 6 + 2, none⟩ = some u' := ((HBw.out wr HB.out).1.cell (p := ⟨b, off + i * 6 + 2, none⟩) (cell_lt z2)).trans z2
          rw [y2] at e1
          cases e1
          exact lies_far hz hwB
        obtain ⟨hk1, hk2, hn1, hn2, hkeep, hsm⟩ := hxin
        simp only at y0 y1 y2 y3 y4 y5 hli hk1 hk2 hn1 hn2 hkeep hsm
        obtain ⟨au, cu, rfl⟩ := lies_len hli
        obtain ⟨l, hl⟩ : ∃ l, l = bs.length := ⟨_, rfl⟩
        rw [← hl] at y2
        have HLI : Hid (Lies wr (.slice au l cu) bs) := Lib.hid (by rw [hl]; exact hli)
        have HFAR : Hid (∀ q, (Value.slice au l cu).ownBlock = some q → bs ≠ [] → q < B) := Lib.hid (by rw [hl]; exact hfar)
        have HSM := Lib.hid hsm
        have HLL := Lib.hid hl
        have HKP := Lib.hid hkeep
        have HNN := Lib.hid (And.intro hn1 hn2)
        clear hx hacts hli hfar hsm hl hkeep hn1 hn2
        have ti : (i : Int) < (la : Int) := by omega
        by_cases h150 : l ≤ 150
        · have t2 : decide ((150 : Int) < (l : Int)) = false := by simp; omega
          have t2' : ¬ ((150 : Int) < (l : Int)) := by omega
          go_wp2_with fail
          obtain ⟨W1, hW1⟩ : ∃ W, W = wr.alloc (.cells #[.int .i64 kind, .int .i64 nn, .slice au l cu, .int .u64 (keep : Int), .int .i64 torn, .int .i64 bytes] 35) := ⟨_, rfl⟩
          obtain ⟨Q, hQ⟩ : ∃ Q, Q = wr.heap.size := ⟨_, rfl⟩
          have HW1 : Hid (Below wr.heap.size wr W1) := Lib.hid (by rw [hW1]; exact (Below.refl _ _).alloc (Nat.le_refl _) _)
          have HQ : Hid (wr.heap.size ≤ Q ∧ Arr W1 Q 35 [.int .i64 kind, .int .i64 nn, .slice au l cu, .int .u64 (keep : Int), .int .i64 torn, .int .i64 bytes]) := Lib.hid ⟨by omega, by rw [hW1, hQ]; exact arr_new wr _ _⟩
          rw [← hW1, ← hQ]
          clear hW1 hQ
          have HB1' : Hid (Below B w1 W1) := Lib.hid (HB.out.trans (HW1.out.mono hBr))
          have hB1 := (HBw.out W1 HB1'.out).2
          have HK1 := Lib.hid (HK.out.on HW1.out)
          have HLI1 : Hid (Lies W1 (.slice au l cu) bs) := Lib.hid (lies_keep HLI.out HW1.out)
          have x2 : W1.drew.cell? ⟨Q, 2, none⟩ = some (.slice au l cu) := HQ.out.2.cell rfl
          obtain ⟨W2, hW2⟩ : ∃ W, W = W1.drew.alloc (.cells #[.slice au l cu] 31) := ⟨_, rfl⟩
          have hb12 : Below W1.heap.size W1 W2 := by rw [hW2]; exact (Below.refl W1.heap.size W1).drew.alloc (Nat.le_refl _) _
          have hr1 : RowsC B W2 (.slice (some ⟨W1.drew.heap.size, 0, none⟩) 1 1) [.slice au l cu] [bs] := by rw [hW2]; exact rows_one hB1 (lies_keep HLI1.out ((Below.refl W1.heap.size W1).drew)) HFAR.out
          obtain ⟨g3, c3, W3, hj3, hr3, hb3⟩ := done_join (HK1.out.rows.on hb12) hr1 (Nat.le_trans hB1 hb12.size) rfl (by simp) (by rw [List.length_singleton]; have := HM.out; omega) 32
          rw [HAD.out, ← HM.out.1] at hj3
          rw [← HM.out.1] at hr3
          have HJ3 := Lib.hid hj3
          have HB13 : Hid (Below W1.heap.size W1 W3) := Lib.hid (hb12.trans (hb3.mono hb12.size))
          have HW : Hid (RowsC B W3 (.slice (some ⟨g3, 0, none⟩) (m + 1) c3) (us ++ [.slice au l cu]) (C ++ [bs])) := Lib.hid hr3
          have x3 : W3.cell? ⟨Q, 2, none⟩ = some (.slice au l cu) := (HB13.out.cell (cell_lt x2)).trans x2
          have HX23 := Lib.hid (And.intro x2 (And.intro (show W2.cell? ⟨Q, 2, none⟩ = some (.slice au l cu) from (hb12.cell (cell_lt x2)).trans x2) x3))
          have HW2 := Lib.hid hW2
          clear hb12 hr1 hj3 hr3 hb3 x2 x3 hW2
          refine wp_region_held_drew (S := fun W => W.cell? ⟨Q, 2, none⟩ = some (.slice au l cu)) (by kernel_rfl) HX23.out.1 (fun _ => ?_)
          refine anyH_take (i := 0) (some 55) (v := _) rfl rfl (by kernel_rfl) (by kernel_rfl) (by kernel_rfl) (fun _ _ _ h => h) (by rfl) (HX23.out.1) (by intro w hSw; go_simp; try with_reducible rfl) ?_
          (try simp only [Act.put, List.setIfInBounds_toArray, List.set_cons_zero, List.set_cons_succ])
          refine anyH_take (i := 1) (some 56) (v := _) rfl rfl (by kernel_rfl) (by kernel_rfl) (by kernel_rfl) (fun _ _ _ h => h) (by rfl) (HX23.out.1) (by intro w hSw; go_simp; try with_reducible rfl) ?_
          (try simp only [Act.put, List.setIfInBounds_toArray, List.set_cons_zero, List.set_cons_succ])
          refine anyH_take (i := 2) (some 57) (v := _) rfl rfl (by kernel_rfl) (by kernel_rfl) (by kernel_rfl) (fun _ _ _ h => h) (by rfl) (HX23.out.1) (by intro w hSw; go_simp; try with_reducible rfl) ?_
          (try simp only [Act.put, List.setIfInBounds_toArray, List.set_cons_zero, List.set_cons_succ])
          refine anyH_take (i := 3) (some 58) (v := _) rfl rfl (by kernel_rfl) (by kernel_rfl) (by kernel_rfl) (fun _ _ _ h => h) (by rfl) (HX23.out.1) (by intro w hSw; go_simp; try with_reducible rfl) ?_
          (try simp only [Act.put, List.setIfInBounds_toArray, List.set_cons_zero, List.set_cons_succ])
          refine anyH_take (i := 4) (some 59) (v := _) rfl rfl (by kernel_rfl) (by kernel_rfl) (by kernel_rfl) (fun _ _ _ h => h) (by rfl) (HX23.out.1) (by intro w hSw; go_simp; try with_reducible rfl) ?_
          (try simp only [Act.put, List.setIfInBounds_toArray, List.set_cons_zero, List.set_cons_succ])
          refine anyH_take (i := 5) (some 60) (v := _) rfl rfl (by kernel_rfl) (by kernel_rfl) (by kernel_rfl) (fun _ _ _ h => h) (by rfl) (HX23.out.1) (fun W _ => run_headR W (.tmp 55) (.tmp 57) (.tmp 59) rfl ad m cd m rfl rfl rfl hmc) ?_
          (try simp only [Act.put, List.setIfInBounds_toArray, List.set_cons_zero, List.set_cons_succ])
          refine anyH_take (i := 6) (some 61) (v := _) rfl rfl (by kernel_rfl) (by kernel_rfl) (by kernel_rfl) (fun _ _ _ h => h) (by rfl) (HX23.out.1) (by intro w hSw; go_simp; try with_reducible rfl) ?_
          (try simp only [Act.put, List.setIfInBounds_toArray, List.set_cons_zero, List.set_cons_succ])
          refine anyH_take (i := 7) (some 62) (v := _) rfl rfl (by kernel_rfl) (by kernel_rfl) (by kernel_rfl) (fun _ _ _ h => h) (by rfl) (HX23.out.1) (fun W hW => run_load_one W 31 (.tmp 61) rfl ⟨Q, 2, none⟩ rfl _ _ hW Tryd.underlying31 rfl) ?_
          (try simp only [Act.put, List.setIfInBounds_toArray, List.set_cons_zero, List.set_cons_succ])
          refine wpAnyH_ready (rs := [8]) (by kernel_rfl) (by simp) (AllReadyH.cons rfl (fun K hK => ?_) AllReadyH.nil)
          refine step_runs (some 63) rfl rfl (run_rowS _ (.tmp 62) rfl au l cu rfl) ?_
          rw [← HW2.out]
          refine hK.out _ _ (HX23.out.2.1) (fun _ => ?_)
          clear hK K
          (try simp only [Act.put, List.setIfInBounds_toArray, List.set_cons_zero, List.set_cons_succ])
          refine wpAnyH_ready (rs := [9]) (by kernel_rfl) (by simp) (AllReadyH.cons rfl (fun K hK => ?_) AllReadyH.nil)
          refine step_runs (some 64) rfl rfl (run_appendR (.tmp 60) (.tmp 63) 32 rfl rfl rfl HJ3.out) ?_
          refine hK.out _ _ (HX23.out.2.2) (fun _ => ?_)
          clear hK K
          (try simp only [Act.put, List.setIfInBounds_toArray, List.set_cons_zero, List.set_cons_succ])
          refine anyH_take (i := 10) (some 11) (v := _) rfl rfl (by kernel_rfl) (by kernel_rfl) (by kernel_rfl) (fun _ _ _ h => h) (by rfl) (HX23.out.2.2) (by intro w hSw; go_simp; try with_reducible rfl) ?_
          (try simp only [Act.put, List.setIfInBounds_toArray, List.set_cons_zero, List.set_cons_succ])
          refine anyH_take (i := 11) (some 12) (v := _) rfl rfl (by kernel_rfl) (by kernel_rfl) (by kernel_rfl) (fun _ _ _ h => h) (by rfl) (HX23.out.2.2) (by intro w hSw; go_simp; try with_reducible rfl) ?_
          (try simp only [Act.put, List.setIfInBounds_toArray, List.set_cons_zero, List.set_cons_succ])
          refine wpAnyH_done (by kernel_rfl) ?_ _
          have HK3 := Lib.hid (HK1.out.on HB13.out)
          have HL3 : Hid (Lies W3 (.slice au l cu) bs) := Lib.hid (lies_keep HLI1.out HB13.out)
          have HB3 : Hid (Below B w1 W3) := Lib.hid (HB1'.out.trans (HB13.out.mono hB1))
          have hB3 := (HBw.out W3 HB3.out).2
          have HBX : Hid (Arr W3 Q 35 [.int .i64 kind, .int .i64 nn, .slice au l cu, .int .u64 (keep : Int), .int .i64 torn, .int .i64 bytes]) := Lib.hid (HQ.out.2.only (only_beyond (S := fun _ => False) HB13.out) (fun e => e))
          obtain ⟨z0, z1, z2, z3, z4, z5⟩ : W3.cell? ⟨Q, 0, none⟩ = some (.int .i64 kind) ∧ W3.cell? ⟨Q, 1, none⟩ = some (.int .i64 nn) ∧ W3.cell? ⟨Q, 2, none⟩ = some (.slice au l cu) ∧ W3.cell? ⟨Q, 3, none⟩ = some (.int .u64 (keep : Int)) ∧ W3.cell? ⟨Q, 4, none⟩ = some (.int .i64 torn) ∧ W3.cell? ⟨Q, 5, none⟩ = some (.int .i64 bytes) := ⟨HBX.out.cell rfl, HBX.out.cell rfl, HBX.out.cell rfl, HBX.out.cell rfl, HBX.out.cell rfl, HBX.out.cell rfl⟩
          clear HX23 HJ3 HW2 HW1 HQ HB1' hB1 HK1 HLI1 HK HB HLI hmc HAD
          have hst3 : StepsLaid W3 := HL.out.below (HBw.out W3 HB3.out).1
          have HST3 := Lib.hid hst3
          clear hst3
          obtain ⟨ud, hud⟩ : ∃ q, q = usedJ (img :: C) := ⟨_, rfl⟩
          have HUD := Lib.hid hud
          have hu50 : ud ≤ 50 := by rw [hud]; exact HK3.out.vau.st.used.2
          clear hud
          by_cases hkc : 0 ≤ kind ∧ kind ≤ 2
          · obtain ⟨hka, hkb⟩ := hkc
            have tk1 : decide (0 ≤ kind) = true := by simpa using hka
            have tk2 : decide (kind ≤ 2) = true := by simpa using hkb
            clear hka hkb
            by_cases hfull : 50 < usedJ (img :: C) + pieces bs.length
            · as_aux_lemma =>
                have HC := vau_full (v := .slice au l cu) (D := bs) HK3.out.vau HL3.out (by rw [← HLL.out]; omega) hfull
                obtain ⟨rq, hrq⟩ : ∃ q, q = 47 * (50 - ud) := ⟨_, rfl⟩
                have HFU : Hid (50 < ud + pieces l) := Lib.hid (by rw [HUD.out, HLL.out]; exact hfull)
                clear hfull
                go_wp2_with fail
                refine HC.mono ?_
                clear HC
                rintro e w4 ⟨rfl, hb4⟩
                have HB4 := Lib.hid hb4
                have HRM : Hid (∀ q, Calls Tryd.prog 9 #[.pointer (some ⟨V, 0, none⟩)] (w4.drewN q) fun e w' => e = .returned (.int .i64 (rq : Int)) ∧ ∃ m, w' = (w4.drewN q).drewN m) := Lib.hid (fun q => by rw [hrq, HUD.out]; exact varoomQ ((HK3.out.vau.sit.on HB4.out).on (below_drewN (Below.refl _ _) q)) (by rw [← HUD.out]; exact hu50))
                have zz2 : w4.cell? ⟨Q, 2, none⟩ = some (.slice au l cu) := (hb4.cell (cell_lt z2)).trans z2
                have HF4 : Hid (∀ q, KeptI B P (w4.drewN q) V J k t u7 img ad cd us C d ∧ Below B w1 (w4.drewN q)) := Lib.hid (fun q => ⟨(HK3.out.on HB4.out).on (below_drewN (Below.refl _ _) q), HB3.out.trans ((HB4.out.trans (below_drewN (Below.refl _ _) q)).mono hB3)⟩)
                clear hb4 z0 z1 z2 z3 z4 z5
                dsimp only
                by_cases hl0 : l = 0
                · have tA : decide ((l : Int) ≤ (rq : Int)) = true := by simp; omega
                  have tB : decide ((0 : Int) < (l : Int)) = false := by simp; omega
                  have tB' : ¬ ((0 : Int) < (l : Int)) := by omega
                  have tA' : (l : Int) ≤ (rq : Int) := by omega
                  clear hrq hl0
                  go_wp2_with fail
                  go_quiet (first | (go_at_call 9; with_reducible refine Calls.quiet_of (HRM.out _)))
                  go_wp2
                  go_roundw
                  case rel => exact ⟨i + 1, V, J, k, t, img, ad, cd, us, C, d, by omega, by simp, rfl, by rw [← HM.out.1], by omega, by have := HM.out; omega, HM.out.2.2.2, (HF4.out _).1, by have := HM.out; omega, (HF4.out _).2⟩
                  case measure => simp [intOf]; omega
                · have tA : decide ((l : Int) ≤ (rq : Int)) = false := by have := HFU.out; unfold pieces at this; simp; omega
                  have tA2 : decide (l ≤ rq) = false := by have := HFU.out; unfold pieces at this; simp; omega
                  clear hrq hl0
                  go_wp2_with fail
                  go_quiet (first | (go_at_call 9; with_reducible refine Calls.quiet_of (HRM.out _)))
                  go_wp2
                  go_roundw
                  case rel => exact ⟨i + 1, V, J, k, t, img, ad, cd, us, C, d, by omega, by simp, rfl, by rw [← HM.out.1], by omega, by have := HM.out; omega, HM.out.2.2.2, (HF4.out _).1, by have := HM.out; omega, (HF4.out _).2⟩
                  case measure => simp [intOf]; omega
            · have HC := vau_commit (v := .slice au l cu) (D := bs) HK3.out.vau hB3 hgB HL3.out HSM.out HST3.out (by omega)
              clear hfull
              go_wp2_with fail
              refine HC.mono ?_
              clear HC
              rintro e w4 ⟨hk4, ⟨rfl, d4, hs4, _⟩ | ⟨rfl, _, d4, R', hd4, hR', hvb⟩⟩
              · as_aux_lemma =>
                  have HF4 : Hid (KeptI B P w4 V J k t u7 img (some ⟨g3, 0, none⟩) c3 (us ++ [.slice au l cu]) (C ++ [bs]) d4) := Lib.hid ⟨hs4, HK3.out.im.kept hk4, by rw [List.length_append, List.length_singleton, ← HM.out.1]; exact HW.out.vk HK3.out.vau.sit hk4, fun e => by simp at e⟩
                  have HB4 : Hid (Below B w1 w4) := Lib.hid (HB3.out.trans (HK3.out.vau.sit.below hB3 hk4))
                  clear hk4 hs4
                  dsimp only
                  go_wp2
                  go_roundw
                  case rel => exact ⟨i + 1, V, J, k, t, img, some ⟨g3, 0, none⟩, c3, us ++ [.slice au l cu], C ++ [bs], d4, by omega, by simp, rfl, by rw [List.length_append, List.length_singleton, ← HM.out.1], by omega, by rw [List.length_append, List.length_singleton]; have := HM.out; omega, HM.out.2.2.2, HF4.out, by rw [List.flatten_append, List.length_append, show ([bs] : List (List Nat)).flatten = bs by simp]; have h1 := HM.out.2.2.1; have h2 := HLL.out; omega, HB4.out⟩
                  case measure => simp [intOf]; omega
              · as_aux_lemma =>
                  have hB4' := HK3.out.vau.sit.below hB3 hk4
                  have HB4 : Hid (Below B w1 w4) := Lib.hid (HB3.out.trans hB4')
                  have hB4 := (HBw.out w4 HB4.out).2
                  have HD4 := Lib.hid hd4
                  have HIM4 := Lib.hid (HK3.out.im.kept hk4)
                  have HRW4 : Hid (RowsC B w4 (.slice ad m cd) us C) := Lib.hid (by have h := HK3.out.rows.vk HK3.out.vau.sit hk4; rwa [← HM.out.1] at h)
                  have HRN4 := Lib.hid (HW.out.vk HK3.out.vau.sit hk4)
                  rcases hR' with rfl | rfl
                  · have HVB : Hid (VBroken 50 k t t (img :: C) d4.up) := Lib.hid hvb
                    have HT4 : Hid (t ≤ 2 * i + 2) := Lib.hid (by omega)
                    clear hvb hk4 hd4 hB4'
                    dsimp only
                    have HUP := Lib.hid (up_any HD4.out)
                    go_wp2_with (go_at_call 14; refine (HUP.out).mono ?_; rintro e w5 ⟨rfl, hd5, hk5⟩; have HD5 := Lib.hid hd5; have HK5 := Lib.hid hk5; clear hd5 hk5; dsimp only)
                    have hB5 : B ≤ w5.heap.size := Nat.le_trans hB4 HK5.out.only.size
                    have HB5 : Hid (Below B w1 w5) := Lib.hid (HB4.out.trans (HD4.out.below hB4 HK5.out))
                    refine (vb_open HD5.out HVB.out (by omega)).mono ?_
                    rintro e w6 ⟨X, u, v, rfl, hx6, hu6, hv6, hX6, hb6⟩
                    have HX6 := Lib.hid hx6
                    have HU6 := Lib.hid hu6
                    have HV6 := Lib.hid hv6
                    have HXB := Lib.hid hX6
                    have HB6 := Lib.hid hb6
                    have HB56 : Hid (Below B w1 w6) := Lib.hid (HB5.out.trans (hb6.mono hB5))
                    have HIM6 : Hid (Lies w6 u7 img) := Lib.hid (lies_on (HIM4.out.lies.only2 HK5.out.only (fun q hq hne => (HIM4.out.far q hq hne).1)) hb6)
                    have HRW6 : Hid (RowsAt w6 (.slice ad m cd) C) := Lib.hid ((HRW4.out.kept HD4.out HK5.out).on hb6).rows.at
                    have HRN6 : Hid (RowsAt w6 (.slice (some ⟨g3, 0, none⟩) (m + 1) c3) (C ++ [bs])) := Lib.hid ((HRN4.out.kept HD4.out HK5.out).on hb6).rows.at
                    clear hx6 hu6 hv6 hX6 hb6 HUP
                    obtain ⟨au6, cu6, rfl⟩ := lies_len HU6.out
                    obtain ⟨av6, cv6, hv6, -⟩ := HV6.out
                    subst hv6
                    obtain ⟨n6, hn6⟩ : ∃ n, n = (img).length := ⟨_, rfl⟩
                    obtain ⟨m6, hm6⟩ : ∃ n, n = (C).length := ⟨_, rfl⟩
                    rw [← hn6, ← hm6]
                    rw [← hn6] at HU6
                    rw [← hm6] at HV6
                    have HNM := Lib.hid (And.intro hn6 hm6)
                    have hsm3 := HK3.out.small
                    have hsm4 : SmallL (C ++ [bs]) := fun r hr => by
                      rcases List.mem_append.1 hr with h | h
                      · exact hsm3.2 r h
                      · rw [List.mem_singleton.1 h]; exact HSM.out
                    have hlC : C.length ≤ 1000000000 := by have := HM.out; omega
                    have hlC2 : (C ++ [bs]).length ≤ 1000000000 := by rw [List.length_append, List.length_singleton]; have := HM.out; omega
                    have hfl2 : (C ++ [bs]).flatten.length ≤ 150 * i + 150 := by rw [List.flatten_append, List.length_append, show ([bs] : List (List Nat)).flatten = bs by simp]; have h1 := HM.out.2.2.1; have h2 := HLL.out; omega
                    have HSAME1 : Hid (Calls Tryd.prog 16 #[.slice au6 n6 cu6, .slice av6 m6 cv6, u7, .slice ad m cd] w6 fun e w' => e = .returned (.bool true) ∧ Below w6.heap.size w6 w') := Lib.hid (by
                      have h := vsame_any HU6.out HV6.out HIM6.out HRW6.out hsm3.1 hsm3.1 hsm3.2 hsm3.2 hlC
                      rwa [show sameL (img) (C) img C = true by unfold sameL; simp] at h)
                    have HSAME2 : Hid (∀ w7, Below w6.heap.size w6 w7 → Calls Tryd.prog 16 #[.slice au6 n6 cu6, .slice av6 m6 cv6, u7, (.slice (some ⟨g3, 0, none⟩) (m + 1) c3)] w7 fun e w' => e = .returned (.bool false) ∧ Below w7.heap.size w7 w') := Lib.hid (fun w7 hb => by
                      have h := vsame_any (lies_on HU6.out hb) (HV6.out.onB hb) (lies_on HIM6.out hb) (HRN6.out.onB hb) hsm3.1 hsm3.1 hsm3.2 hsm4 hlC
                      rwa [show sameL (img) (C) img (C ++ [bs]) = false by unfold sameL; simp] at h)
                    have HLN : Hid ((img).length + (C).flatten.length ≤ 1000000000 ∧ (C).length ≤ 1000000000 ∧ ∀ x ∈ wholeL (img) (C), x < 256) := Lib.hid ⟨by have := HM.out; omega, hlC, wholeL_small hsm3.1 hsm3.2⟩
                    clear hsm3 hsm4 hlC hlC2 hfl2
                    have HVC : Hid (∀ (w' : World) (v' : Value), Below w6.heap.size w6 w' → Calls Tryd.prog 8 #[.pointer (some ⟨X, 0, none⟩), v'] w' fun e w'' => e = .returned (.int .i64 14) ∧ w'' = w') := Lib.hid (fun w' v' hb => vopened_commit (HX6.out.on hb))
                    have HWH : Hid (∀ (w' : World), Below w6.heap.size w6 w' → Calls Tryd.prog 17 #[.slice au6 n6 cu6, .slice av6 m6 cv6] w' fun e w'' => ∃ v, e = .returned v ∧ LiesFrom w'.heap.size w'' v (wholeL (img) (C)) ∧ Below w'.heap.size w' w'') := Lib.hid (fun w' hb => vwhole_any (lies_on HU6.out hb) (HV6.out.onB hb) HLN.out.1 HLN.out.2.1)
                    have HSE : Hid (∀ (w' : World) (v' : Value) (mm : Nat), Below w6.heap.size w6 w' → w6.heap.size ≤ mm → LiesFrom mm w' v' (wholeL (img) (C)) → Calls Tryd.prog 11 #[.pointer (some ⟨X, 0, none⟩), v'] w' fun e w'' => e = .returned (.int .i64 0) ∧ Below B w1 w'' ∧ ∃ J' d' t', t' ≤ 2 * (i + 1) + 1 ∧ KeptI B P w'' X J' (1 - k) t' v' (wholeL (img) (C)) none 0 [] [] d') := Lib.hid (fun w' v' mm hb hmm hlf => by
                      have hd6 : DevAt w6 B P d4.up := HD5.out.beyond HB6.out
                      have hXlt := HX6.out.lt
                      have hXd : ¬ DBlk w6 P X := fun hh => by have h1 := HD5.out.lt (dblk_on HD5.out HB6.out hh); have := HXB.out; omega
                      have hbw : Below B w1 w' := HB56.out.trans (hb.mono (Nat.le_trans hB5 HB6.out.size))
                      have hDm : ∀ q, DBlk w' P q → q < mm := fun q hq => by have := hd6.lt (dblk_on hd6 hb hq); omega
                      refine (vb_seal (HX6.out.on hb) (hd6.beyond hb) HVB.out (by omega) (Nat.le_trans (Nat.le_trans hB5 HB6.out.size) hb.size) hgB (fun hh => hXd (dblk_on hd6 hb hh)) (Nat.le_trans hB5 HXB.out) (by have := HT4.out; omega) hlf.lies (fun q hq hne hh => by have := (hlf.block hq hne).1; have := hDm q hh; omega) HLN.out.2.2 (HL.out.below (HBw.out w' hbw).1) (by have h9 := wholeL_len (img) (C); unfold pieces; omega)).mono ?_
                      rintro e w'' ⟨rfl, hk, J', d', t', hJ', ht', hvau, _⟩
                      refine ⟨rfl, hbw.trans (hk.only.below (Nat.le_trans (Nat.le_trans hB5 HB6.out.size) hb.size) (fun q hq => hq.elim (fun e => by rw [e]; exact Nat.le_trans hB5 HXB.out) (fun hq => (hd6.beyond hb).low hq))), J', d', t', by have := HT4.out; omega, hvau, img_after hlf hDm (by omega) hk hJ', RowsC.nil _ _, fun _ => rfl⟩)
                    clear hn6 hm6
                    dsimp only
                    repeat (first | (go_at_call 16; with_reducible refine (HSAME1.out).mono ?_; rintro e w7 ⟨rfl, hb7⟩; have qc : (convert 31 31 (.slice (some ⟨w7.heap.size, 0, none⟩) 1 1)).run Tryd.prog (w7.alloc (.cells #[.int .u8 97] 5)) = .ok (.slice (some ⟨w7.heap.size, 0, none⟩) 1 1) (w7.alloc (.cells #[.int .u8 97] 5 (1, 2))) := Lib.run_convert_bytes_const w7 _ _ _ 1 1 Tryd.underlying31 Tryd.underlying5; obtain ⟨qe, qn⟩ := (fresh_nil w7); have HB7 := Lib.hid hb7; have HS2W := Lib.hid (HSAME2.out w7 hb7); have HBC : Hid (Below w6.heap.size w6 (w7.alloc (.cells #[.int .u8 97] 5 (1, 2)))) := Lib.hid (hb7.alloc hb7.size _); have HCM := Lib.hid (HVC.out _ (.slice (some ⟨w7.heap.size, 0, none⟩) 1 1) HBC.out); have HWW := Lib.hid (HWH.out _ HBC.out); clear hb7; dsimp only) | (go_at_call 16; with_reducible refine (HS2W.out).mono ?_; rintro e w8 ⟨rfl, hb8⟩; clear qc; have qc : (convert 31 31 (.slice (some ⟨w8.heap.size, 0, none⟩) 1 1)).run Tryd.prog (w8.alloc (.cells #[.int .u8 97] 5)) = .ok (.slice (some ⟨w8.heap.size, 0, none⟩) 1 1) (w8.alloc (.cells #[.int .u8 97] 5 (1, 2))) := Lib.run_convert_bytes_const w8 _ _ _ 1 1 Tryd.underlying31 Tryd.underlying5; obtain ⟨qe2, qn2⟩ := (fresh_nil w8); have HBC : Hid (Below w6.heap.size w6 (w8.alloc (.cells #[.int .u8 97] 5 (1, 2)))) := Lib.hid ((HB7.out.trans (hb8.mono HB7.out.size)).alloc (by have h1 := HB7.out.size; have h2 := hb8.size; omega) _); have HCM := Lib.hid (HVC.out _ (.slice (some ⟨w8.heap.size, 0, none⟩) 1 1) HBC.out); have HWW := Lib.hid (HWH.out _ HBC.out); clear hb8; dsimp only) | (go_at_call 8; refine (HCM.out).mono ?_; rintro e w' ⟨rfl, hw⟩; replace hw := hw.symm; subst hw; dsimp only) | (go_at_call 17; refine (HWW.out).mono ?_; rintro e w9 ⟨v9, rfl, hl9, hb9⟩; have HSS := Lib.hid (HSE.out w9 v9 _ (HBC.out.trans (hb9.mono HBC.out.size)) HBC.out.size hl9); clear hl9 hb9; dsimp only) | (go_at_call 11; refine (HSS.out).mono ?_; rintro e w10 ⟨rfl, hb10, J10, d10, t10, ht10, hk10⟩; have HF := Lib.hid (And.intro hb10 (And.intro ht10 hk10)); clear hb10 ht10 hk10; dsimp only) | go_values | go_skip | go_guarded | go_step)
                    go_roundw
                    case rel => exact ⟨i + 1, X, J10, 1 - k, t10, wholeL (img) (C), none, 0, [], [], d10, by omega, by simp, rfl, rfl, HF.out.2.1, by simp, wholeL_len _ _, HF.out.2.2, by simp, HF.out.1⟩
                    case measure => simp [intOf]; omega
                  · have HVB : Hid (VBroken 50 k t t (img :: (C ++ [bs])) d4.up) := Lib.hid hvb
                    have HT4 : Hid (t ≤ 2 * i + 2) := Lib.hid (by omega)
                    clear hvb hk4 hd4 hB4'
                    dsimp only
                    have HUP := Lib.hid (up_any HD4.out)
                    go_wp2_with (go_at_call 14; refine (HUP.out).mono ?_; rintro e w5 ⟨rfl, hd5, hk5⟩; have HD5 := Lib.hid hd5; have HK5 := Lib.hid hk5; clear hd5 hk5; dsimp only)
                    have hB5 : B ≤ w5.heap.size := Nat.le_trans hB4 HK5.out.only.size
                    have HB5 : Hid (Below B w1 w5) := Lib.hid (HB4.out.trans (HD4.out.below hB4 HK5.out))
                    refine (vb_open HD5.out HVB.out (by omega)).mono ?_
                    rintro e w6 ⟨X, u, v, rfl, hx6, hu6, hv6, hX6, hb6⟩
                    have HX6 := Lib.hid hx6
                    have HU6 := Lib.hid hu6
                    have HV6 := Lib.hid hv6
                    have HXB := Lib.hid hX6
                    have HB6 := Lib.hid hb6
                    have HB56 : Hid (Below B w1 w6) := Lib.hid (HB5.out.trans (hb6.mono hB5))
                    have HIM6 : Hid (Lies w6 u7 img) := Lib.hid (lies_on (HIM4.out.lies.only2 HK5.out.only (fun q hq hne => (HIM4.out.far q hq hne).1)) hb6)
                    have HRW6 : Hid (RowsAt w6 (.slice ad m cd) C) := Lib.hid ((HRW4.out.kept HD4.out HK5.out).on hb6).rows.at
                    have HRN6 : Hid (RowsAt w6 (.slice (some ⟨g3, 0, none⟩) (m + 1) c3) (C ++ [bs])) := Lib.hid ((HRN4.out.kept HD4.out HK5.out).on hb6).rows.at
                    clear hx6 hu6 hv6 hX6 hb6 HUP
                    obtain ⟨au6, cu6, rfl⟩ := lies_len HU6.out
                    obtain ⟨av6, cv6, hv6, -⟩ := HV6.out
                    subst hv6
                    obtain ⟨n6, hn6⟩ : ∃ n, n = (img).length := ⟨_, rfl⟩
                    obtain ⟨m6, hm6⟩ : ∃ n, n = ((C ++ [bs])).length := ⟨_, rfl⟩
                    rw [← hn6, ← hm6]
                    rw [← hn6] at HU6
                    rw [← hm6] at HV6
                    have HNM := Lib.hid (And.intro hn6 hm6)
                    have hsm3 := HK3.out.small
                    have hsm4 : SmallL (C ++ [bs]) := fun r hr => by
                      rcases List.mem_append.1 hr with h | h
                      · exact hsm3.2 r h
                      · rw [List.mem_singleton.1 h]; exact HSM.out
                    have hlC : C.length ≤ 1000000000 := by have := HM.out; omega
                    have hlC2 : (C ++ [bs]).length ≤ 1000000000 := by rw [List.length_append, List.length_singleton]; have := HM.out; omega
                    have hfl2 : (C ++ [bs]).flatten.length ≤ 150 * i + 150 := by rw [List.flatten_append, List.length_append, show ([bs] : List (List Nat)).flatten = bs by simp]; have h1 := HM.out.2.2.1; have h2 := HLL.out; omega
                    have HSAME1 : Hid (Calls Tryd.prog 16 #[.slice au6 n6 cu6, .slice av6 m6 cv6, u7, .slice ad m cd] w6 fun e w' => e = .returned (.bool false) ∧ Below w6.heap.size w6 w') := Lib.hid (by
                      have h := vsame_any HU6.out HV6.out HIM6.out HRW6.out hsm3.1 hsm3.1 hsm4 hsm3.2 hlC2
                      rwa [show sameL (img) ((C ++ [bs])) img C = false by unfold sameL; simp] at h)
                    have HSAME2 : Hid (∀ w7, Below w6.heap.size w6 w7 → Calls Tryd.prog 16 #[.slice au6 n6 cu6, .slice av6 m6 cv6, u7, (.slice (some ⟨g3, 0, none⟩) (m + 1) c3)] w7 fun e w' => e = .returned (.bool true) ∧ Below w7.heap.size w7 w') := Lib.hid (fun w7 hb => by
                      have h := vsame_any (lies_on HU6.out hb) (HV6.out.onB hb) (lies_on HIM6.out hb) (HRN6.out.onB hb) hsm3.1 hsm3.1 hsm4 hsm4 hlC2
                      rwa [show sameL (img) ((C ++ [bs])) img (C ++ [bs]) = true by unfold sameL; simp] at h)
                    have HLN : Hid ((img).length + ((C ++ [bs])).flatten.length ≤ 1000000000 ∧ ((C ++ [bs])).length ≤ 1000000000 ∧ ∀ x ∈ wholeL (img) ((C ++ [bs])), x < 256) := Lib.hid ⟨by have := HM.out; omega, hlC2, wholeL_small hsm3.1 hsm4⟩
                    clear hsm3 hsm4 hlC hlC2 hfl2
                    have HVC : Hid (∀ (w' : World) (v' : Value), Below w6.heap.size w6 w' → Calls Tryd.prog 8 #[.pointer (some ⟨X, 0, none⟩), v'] w' fun e w'' => e = .returned (.int .i64 14) ∧ w'' = w') := Lib.hid (fun w' v' hb => vopened_commit (HX6.out.on hb))
                    have HWH : Hid (∀ (w' : World), Below w6.heap.size w6 w' → Calls Tryd.prog 17 #[.slice au6 n6 cu6, .slice av6 m6 cv6] w' fun e w'' => ∃ v, e = .returned v ∧ LiesFrom w'.heap.size w'' v (wholeL (img) ((C ++ [bs]))) ∧ Below w'.heap.size w' w'') := Lib.hid (fun w' hb => vwhole_any (lies_on HU6.out hb) (HV6.out.onB hb) HLN.out.1 HLN.out.2.1)
                    have HSE : Hid (∀ (w' : World) (v' : Value) (mm : Nat), Below w6.heap.size w6 w' → w6.heap.size ≤ mm → LiesFrom mm w' v' (wholeL (img) ((C ++ [bs]))) → Calls Tryd.prog 11 #[.pointer (some ⟨X, 0, none⟩), v'] w' fun e w'' => e = .returned (.int .i64 0) ∧ Below B w1 w'' ∧ ∃ J' d' t', t' ≤ 2 * (i + 1) + 1 ∧ KeptI B P w'' X J' (1 - k) t' v' (wholeL (img) ((C ++ [bs]))) none 0 [] [] d') := Lib.hid (fun w' v' mm hb hmm hlf => by
                      have hd6 : DevAt w6 B P d4.up := HD5.out.beyond HB6.out
                      have hXlt := HX6.out.lt
                      have hXd : ¬ DBlk w6 P X := fun hh => by have h1 := HD5.out.lt (dblk_on HD5.out HB6.out hh); have := HXB.out; omega
                      have hbw : Below B w1 w' := HB56.out.trans (hb.mono (Nat.le_trans hB5 HB6.out.size))
                      have hDm : ∀ q, DBlk w' P q → q < mm := fun q hq => by have := hd6.lt (dblk_on hd6 hb hq); omega
                      refine (vb_seal (HX6.out.on hb) (hd6.beyond hb) HVB.out (by omega) (Nat.le_trans (Nat.le_trans hB5 HB6.out.size) hb.size) hgB (fun hh => hXd (dblk_on hd6 hb hh)) (Nat.le_trans hB5 HXB.out) (by have := HT4.out; omega) hlf.lies (fun q hq hne hh => by have := (hlf.block hq hne).1; have := hDm q hh; omega) HLN.out.2.2 (HL.out.below (HBw.out w' hbw).1) (by have h9 := wholeL_len (img) ((C ++ [bs])); unfold pieces; omega)).mono ?_
                      rintro e w'' ⟨rfl, hk, J', d', t', hJ', ht', hvau, _⟩
                      refine ⟨rfl, hbw.trans (hk.only.below (Nat.le_trans (Nat.le_trans hB5 HB6.out.size) hb.size) (fun q hq => hq.elim (fun e => by rw [e]; exact Nat.le_trans hB5 HXB.out) (fun hq => (hd6.beyond hb).low hq))), J', d', t', by have := HT4.out; omega, hvau, img_after hlf hDm (by omega) hk hJ', RowsC.nil _ _, fun _ => rfl⟩)
                    clear hn6 hm6
                    dsimp only
                    repeat (first | (go_at_call 16; with_reducible refine (HSAME1.out).mono ?_; rintro e w7 ⟨rfl, hb7⟩; have qc : (convert 31 31 (.slice (some ⟨w7.heap.size, 0, none⟩) 1 1)).run Tryd.prog (w7.alloc (.cells #[.int .u8 97] 5)) = .ok (.slice (some ⟨w7.heap.size, 0, none⟩) 1 1) (w7.alloc (.cells #[.int .u8 97] 5 (1, 2))) := Lib.run_convert_bytes_const w7 _ _ _ 1 1 Tryd.underlying31 Tryd.underlying5; obtain ⟨qe, qn⟩ := (fresh_nil w7); have HB7 := Lib.hid hb7; have HS2W := Lib.hid (HSAME2.out w7 hb7); have HBC : Hid (Below w6.heap.size w6 (w7.alloc (.cells #[.int .u8 97] 5 (1, 2)))) := Lib.hid (hb7.alloc hb7.size _); have HCM := Lib.hid (HVC.out _ (.slice (some ⟨w7.heap.size, 0, none⟩) 1 1) HBC.out); have HWW := Lib.hid (HWH.out _ HBC.out); clear hb7; dsimp only) | (go_at_call 16; with_reducible refine (HS2W.out).mono ?_; rintro e w8 ⟨rfl, hb8⟩; clear qc; have qc : (convert 31 31 (.slice (some ⟨w8.heap.size, 0, none⟩) 1 1)).run Tryd.prog (w8.alloc (.cells #[.int .u8 97] 5)) = .ok (.slice (some ⟨w8.heap.size, 0, none⟩) 1 1) (w8.alloc (.cells #[.int .u8 97] 5 (1, 2))) := Lib.run_convert_bytes_const w8 _ _ _ 1 1 Tryd.underlying31 Tryd.underlying5; obtain ⟨qe2, qn2⟩ := (fresh_nil w8); have HBC : Hid (Below w6.heap.size w6 (w8.alloc (.cells #[.int .u8 97] 5 (1, 2)))) := Lib.hid ((HB7.out.trans (hb8.mono HB7.out.size)).alloc (by have h1 := HB7.out.size; have h2 := hb8.size; omega) _); have HCM := Lib.hid (HVC.out _ (.slice (some ⟨w8.heap.size, 0, none⟩) 1 1) HBC.out); have HWW := Lib.hid (HWH.out _ HBC.out); clear hb8; dsimp only) | (go_at_call 8; refine (HCM.out).mono ?_; rintro e w' ⟨rfl, hw⟩; replace hw := hw.symm; subst hw; dsimp only) | (go_at_call 17; refine (HWW.out).mono ?_; rintro e w9 ⟨v9, rfl, hl9, hb9⟩; have HSS := Lib.hid (HSE.out w9 v9 _ (HBC.out.trans (hb9.mono HBC.out.size)) HBC.out.size hl9); clear hl9 hb9; dsimp only) | (go_at_call 11; refine (HSS.out).mono ?_; rintro e w10 ⟨rfl, hb10, J10, d10, t10, ht10, hk10⟩; have HF := Lib.hid (And.intro hb10 (And.intro ht10 hk10)); clear hb10 ht10 hk10; dsimp only) | go_values | go_skip | go_guarded | go_step)
                    go_roundw
                    case rel => exact ⟨i + 1, X, J10, 1 - k, t10, wholeL (img) ((C ++ [bs])), none, 0, [], [], d10, by omega, by simp, rfl, rfl, HF.out.2.1, by simp, wholeL_len _ _, HF.out.2.2, by simp, HF.out.1⟩
                    case measure => simp [intOf]; omega
          · by_cases h3 : kind = 3
            · subst h3
              clear hkc
              have e1 : IntKind.u8.wrap (i : Int) = (i : Int) := by rw [IntKind.wrap_u8]; omega
              obtain ⟨iU, hiU, hzU, hsU, hbU⟩ := info_u8
              have HOE : Hid ((W3.alloc (.cells #[.int .u8 (i : Int)] 5)).ownsRow W3.heap.size 5 1 (.slice (some ⟨W3.heap.size, 0, none⟩) 1 1) 1 (u8s [i])) := Lib.hid (own_one W3 i)
              have HBE : Hid (Below W3.heap.size W3 (W3.alloc (.cells #[.int .u8 (i : Int)] 5))) := Lib.hid ((Below.refl _ _).alloc (Nat.le_refl _) _)
              have HLX : Hid (Lies (W3.alloc (.cells #[.int .u8 (i : Int)] 5)) (.slice au l cu) bs) := Lib.hid (lies_on HL3.out HBE.out)
              have zA : (W3.alloc (.cells #[.int .u8 (i : Int)] 5)).cell? ⟨Q, 2, none⟩ = some (.slice au l cu) := (HBE.out.cell (cell_lt z2)).trans z2
              obtain ⟨nf, hnf⟩ : ∃ n, n = 1 + bs.length := ⟨_, rfl⟩
              have HNF : Hid (nf = 1 + bs.length ∧ nf ≤ 151) := Lib.hid ⟨hnf, by have := HLL.out; omega⟩
              go_wp2_with (first | (at_builtin; refine wpList_append_bytes (W3.alloc (.cells #[.int .u8 (i : Int)] 5)) rfl (.tmp 112) (.tmp 114) 31 rfl W3.heap.size 5 iU Tryd.underlying31 hiU hzU hsU hbU (.slice (some ⟨W3.heap.size, 0, none⟩) 1 1) 1 (u8s [i]) rfl HOE.out (.slice au l cu) bs rfl HLX.out (by have := HNF.out; omega) HBE.out.size ?_; intro vf wf hownf hgf _; rw [← hnf] at hownf; obtain ⟨gf, cf, rfl⟩ := own_some hownf (by have := HNF.out; omega); have HOF := Lib.hid hownf; have HBF : Hid (Below W3.heap.size W3 wf) := Lib.hid (HBE.out.grown hgf HBE.out.size (fun q hq => (HOE.out.lt q hq).1)); have HKF := Lib.hid (HK3.out.on HBF.out); have HTU := Lib.hid (vaturn_any HKF.out.vau.sit.va); clear hownf hgf hnf) | (go_at_call 10; refine (HTU.out).mono ?_; rintro e w' ⟨rfl, hw⟩; replace hw := hw.symm; subst hw; dsimp only))
              have HBf : Hid (Below B w1 wf) := Lib.hid (HB3.out.trans (HBF.out.mono hB3))
              have hBf := (HBw.out wf HBf.out).2
              obtain ⟨FR, hFR⟩ : ∃ F, F = i :: bs := ⟨_, rfl⟩
              have HFL : Hid (FR.length = nf ∧ nf ≤ 151 ∧ FR ≠ []) := Lib.hid ⟨by rw [hFR, List.length_cons]; have := HNF.out; omega, HNF.out.2, by rw [hFR]; simp⟩
              have HFS : Hid (∀ x ∈ FR, x < 256) := Lib.hid (fun x hx => by
                rw [hFR] at hx
                rcases List.mem_cons.1 hx with h | h
                · omega
                · exact HSM.out x h)
              have HLF : Hid (LiesFrom W3.heap.size wf (.slice (some ⟨gf, 0, none⟩) nf cf) FR) := Lib.hid (LiesFrom.of_row (by
                have h := HOF.out
                rw [← u8s_append] at h
                rw [HFL.out.1, hFR]
                exact h))
              have hD3 : ∀ q, DBlk wf P q → q < W3.heap.size := fun q hq => HK3.out.vau.sit.dev.lt (dblk_on HK3.out.vau.sit.dev HBF.out hq)
              have hVJ3 : V < W3.heap.size ∧ J < W3.heap.size := ⟨HK3.out.vau.sit.va.lt, Arr.lt HK3.out.vau.sit.jo⟩
              have HDV := Lib.hid (And.intro hD3 hVJ3)
              have HFI : Hid (ImgAt wf V J P (.slice (some ⟨gf, 0, none⟩) nf cf) FR) := Lib.hid (ImgAt.fresh HLF.out hD3 hVJ3.1 hVJ3.2)
              have HC := vau_seal HKF.out.vau hBf hgB HLF.out.lies (fun q hq hne => (HFI.out.far q hq hne).1) HFS.out (HL.out.below (HBw.out wf HBf.out).1) (by rw [HFL.out.1]; have := HFL.out; unfold pieces; omega) (by omega)
              clear hFR hD3 hVJ3 z0 z1 z2 z3 z4 z5 zA HOE HBE HLX HTU e1
              obtain ⟨t5, ht5⟩ : ∃ z, z = t + 1 := ⟨_, rfl⟩
              have e2 : IntKind.u32.wrap ((t : Int) + 1) = (t5 : Int) := by rw [IntKind.wrap_u32]; omega
              rw [← ht5] at HC
              have HT5 := Lib.hid ht5
              go_wp2_with fail
              refine HC.mono ?_
              clear HC
              rintro e w4 ⟨hk4, ⟨rfl, J5, d5, hJ5, hs5, _⟩ | ⟨rfl, _, d4, hd4, hvb⟩⟩
              · have HF4 : Hid (KeptI B P w4 V J5 (1 - k) t5 (.slice (some ⟨gf, 0, none⟩) nf cf) FR none 0 [] [] d5) := Lib.hid ⟨hs5, img_after HLF.out HDV.out.1 HDV.out.2.1 hk4 hJ5, RowsC.nil _ _, fun _ => rfl⟩
                have HB4 : Hid (Below B w1 w4) := Lib.hid (HBf.out.trans (HKF.out.vau.sit.below hBf hk4.vault))
                have HTU5 := Lib.hid (vaturn_any hs5.sit.va)
                clear hk4 hs5 hJ5 ht5
                dsimp only
                go_wp2_with (go_at_call 10; refine (HTU5.out).mono ?_; rintro e w' ⟨rfl, hw⟩; replace hw := hw.symm; subst hw; dsimp only)
                go_roundw
                case rel => exact ⟨i + 1, V, J5, 1 - k, t5, FR, none, 0, [], [], d5, by omega, by simp, rfl, rfl, by have := HT5.out; omega, by simp, by have := HFL.out; omega, HF4.out, by simp, HB4.out⟩
                case measure => simp [intOf]; omega
              · as_aux_lemma =>
                  have hB4' := HKF.out.vau.sit.below hBf hk4.vault
                  have HB4 : Hid (Below B w1 w4) := Lib.hid (HBf.out.trans hB4')
                  have hB4 := (HBw.out w4 HB4.out).2
                  have HD4 := Lib.hid hd4
                  have HIM4 := Lib.hid (HKF.out.im.kept hk4.vault)
                  have HRW4 : Hid (RowsC B w4 (.slice ad m cd) us C) := Lib.hid (by have h := HKF.out.rows.vk HKF.out.vau.sit hk4.vault; rwa [← HM.out.1] at h)
                  have HFI4 := Lib.hid (HFI.out.kept hk4.vault)
                  have HFR4 := Lib.hid HFI4.out.lies
                  have HFF4 : Hid (∀ q, (Value.slice (some ⟨gf, 0, none⟩) nf cf).ownBlock = some q → FR ≠ [] → ¬ DBlk w4 P q) := Lib.hid (fun q hq hne => (HFI4.out.far q hq hne).1)
                  have HT4 : Hid (t5 ≤ 2 * i + 2) := Lib.hid (by omega)
                  clear ht5
                  rcases hvb with hvb | hvb
                  · have HVB : Hid (VBroken 50 k t t5 (img :: C) d4.up) := Lib.hid hvb
                    clear hvb hk4 hd4 hB4'
                    dsimp only
                    have HUP := Lib.hid (up_any HD4.out)
                    go_wp2_with (go_at_call 14; refine (HUP.out).mono ?_; rintro e w5 ⟨rfl, hd5, hk5⟩; have HD5 := Lib.hid hd5; have HK5 := Lib.hid hk5; clear hd5 hk5; dsimp only)
                    have hB5 : B ≤ w5.heap.size := Nat.le_trans hB4 HK5.out.only.size
                    have HB5 : Hid (Below B w1 w5) := Lib.hid (HB4.out.trans (HD4.out.below hB4 HK5.out))
                    refine (vb_open HD5.out HVB.out (by omega)).mono ?_
                    rintro e w6 ⟨X, u, v, rfl, hx6, hu6, hv6, hX6, hb6⟩
                    have HX6 := Lib.hid hx6
                    have HU6 := Lib.hid hu6
                    have HV6 := Lib.hid hv6
                    have HXB := Lib.hid hX6
                    have HB6 := Lib.hid hb6
                    have HB56 : Hid (Below B w1 w6) := Lib.hid (HB5.out.trans (hb6.mono hB5))
                    have HIM6 : Hid (Lies w6 u7 img) := Lib.hid (lies_on (HIM4.out.lies.only2 HK5.out.only (fun q hq hne => (HIM4.out.far q hq hne).1)) hb6)
                    have HRW6 : Hid (RowsAt w6 (.slice ad m cd) C) := Lib.hid ((HRW4.out.kept HD4.out HK5.out).on hb6).rows.at
                    have HFR6 : Hid (Lies w6 (.slice (some ⟨gf, 0, none⟩) nf cf) FR) := Lib.hid (lies_on (HFR4.out.only2 HK5.out.only (fun q hq hne => HFF4.out q hq hne)) hb6)
                    clear hx6 hu6 hv6 hX6 hb6 HUP
                    obtain ⟨au6, cu6, rfl⟩ := lies_len HU6.out
                    obtain ⟨av6, cv6, hv6, -⟩ := HV6.out
                    subst hv6
                    obtain ⟨n6, hn6⟩ : ∃ n, n = (img).length := ⟨_, rfl⟩
                    obtain ⟨m6, hm6⟩ : ∃ n, n = (C).length := ⟨_, rfl⟩
                    rw [← hn6, ← hm6]
                    rw [← hn6] at HU6
                    rw [← hm6] at HV6
                    have HNM := Lib.hid (And.intro hn6 hm6)
                    have hsm3 := HK3.out.small
                    have hlC : C.length ≤ 1000000000 := by have := HM.out; omega
                    have hnil : SmallL ([] : List (List Nat)) := fun s h => by simp at h
                    have hnl : ([] : List (List Nat)).length ≤ 1000000000 := by simp
                    have HSAME1 : Hid (Calls Tryd.prog 16 #[.slice au6 n6 cu6, .slice av6 m6 cv6, u7, .slice ad m cd] w6 fun e w' => e = .returned (.bool true) ∧ Below w6.heap.size w6 w') := Lib.hid (by
                      have h := vsame_any HU6.out HV6.out HIM6.out HRW6.out hsm3.1 hsm3.1 hsm3.2 hsm3.2 hlC
                      rwa [show sameL img C img C = true by unfold sameL; simp] at h)
                    obtain ⟨q2, hq2⟩ : ∃ q, q = sameL img C FR [] := ⟨_, rfl⟩
                    have HSAME2 : Hid (∀ w7, Below w6.heap.size w6 w7 → Calls Tryd.prog 16 #[.slice au6 n6 cu6, .slice av6 m6 cv6, (.slice (some ⟨gf, 0, none⟩) nf cf), .slice none 0 0] w7 fun e w' => e = .returned (.bool q2) ∧ Below w7.heap.size w7 w') := Lib.hid (fun w7 hb => by
                      have h := vsame_any (lies_on HU6.out hb) (HV6.out.onB hb) (lies_on HFR6.out hb) (rowsAt_nil w7) hsm3.1 HFS.out hsm3.2 hnil hlC
                      rwa [← hq2] at h)
                    clear hq2
                    have HLN : Hid ((img).length + (C).flatten.length ≤ 1000000000 ∧ (C).length ≤ 1000000000 ∧ ∀ x ∈ wholeL (img) (C), x < 256) := Lib.hid ⟨by have := HM.out; have := HFL.out; omega, hlC, wholeL_small hsm3.1 hsm3.2⟩
                    clear hsm3 hlC hnil hnl
                    have HVC : Hid (∀ (w' : World) (v' : Value), Below w6.heap.size w6 w' → Calls Tryd.prog 8 #[.pointer (some ⟨X, 0, none⟩), v'] w' fun e w'' => e = .returned (.int .i64 14) ∧ w'' = w') := Lib.hid (fun w' v' hb => vopened_commit (HX6.out.on hb))
                    have HWH : Hid (∀ (w' : World), Below w6.heap.size w6 w' → Calls Tryd.prog 17 #[.slice au6 n6 cu6, .slice av6 m6 cv6] w' fun e w'' => ∃ v, e = .returned v ∧ LiesFrom w'.heap.size w'' v (wholeL (img) (C)) ∧ Below w'.heap.size w' w'') := Lib.hid (fun w' hb => vwhole_any (lies_on HU6.out hb) (HV6.out.onB hb) HLN.out.1 HLN.out.2.1)
                    have HSE : Hid (∀ (w' : World) (v' : Value) (mm : Nat), Below w6.heap.size w6 w' → w6.heap.size ≤ mm → LiesFrom mm w' v' (wholeL (img) (C)) → Calls Tryd.prog 11 #[.pointer (some ⟨X, 0, none⟩), v'] w' fun e w'' => e = .returned (.int .i64 0) ∧ Below B w1 w'' ∧ ∃ J' d' t', t' ≤ 2 * (i + 1) + 1 ∧ KeptI B P w'' X J' (1 - k) t' v' (wholeL (img) (C)) none 0 [] [] d') := Lib.hid (fun w' v' mm hb hmm hlf => by
                      have hd6 : DevAt w6 B P d4.up := HD5.out.beyond HB6.out
                      have hXlt := HX6.out.lt
                      have hXd : ¬ DBlk w6 P X := fun hh => by have h1 := HD5.out.lt (dblk_on HD5.out HB6.out hh); have := HXB.out; omega
                      have hbw : Below B w1 w' := HB56.out.trans (hb.mono (Nat.le_trans hB5 HB6.out.size))
                      have hDm : ∀ q, DBlk w' P q → q < mm := fun q hq => by have := hd6.lt (dblk_on hd6 hb hq); omega
                      refine (vb_seal (HX6.out.on hb) (hd6.beyond hb) HVB.out (by omega) (Nat.le_trans (Nat.le_trans hB5 HB6.out.size) hb.size) hgB (fun hh => hXd (dblk_on hd6 hb hh)) (Nat.le_trans hB5 HXB.out) (by have := HT4.out; omega) hlf.lies (fun q hq hne hh => by have := (hlf.block hq hne).1; have := hDm q hh; omega) HLN.out.2.2 (HL.out.below (HBw.out w' hbw).1) (by have h9 := wholeL_len (img) (C); unfold pieces; omega)).mono ?_
                      rintro e w'' ⟨rfl, hk, J', d', t', hJ', ht', hvau, _⟩
                      refine ⟨rfl, hbw.trans (hk.only.below (Nat.le_trans (Nat.le_trans hB5 HB6.out.size) hb.size) (fun q hq => hq.elim (fun e => by rw [e]; exact Nat.le_trans hB5 HXB.out) (fun hq => (hd6.beyond hb).low hq))), J', d', t', by have := HT4.out; omega, hvau, img_after hlf hDm (by omega) hk hJ', RowsC.nil _ _, fun _ => rfl⟩)
                    clear hn6 hm6
                    dsimp only
                    repeat (first | (go_at_call 16; with_reducible refine (HSAME1.out).mono ?_; rintro e w7 ⟨rfl, hb7⟩; have qc : (convert 31 31 (.slice (some ⟨w7.heap.size, 0, none⟩) 1 1)).run Tryd.prog (w7.alloc (.cells #[.int .u8 97] 5)) = .ok (.slice (some ⟨w7.heap.size, 0, none⟩) 1 1) (w7.alloc (.cells #[.int .u8 97] 5 (1, 2))) := Lib.run_convert_bytes_const w7 _ _ _ 1 1 Tryd.underlying31 Tryd.underlying5; obtain ⟨qe, qn⟩ := (fresh_some w7 ⟨gf, 0, none⟩ nf cf); have HB7 := Lib.hid hb7; have HS2W := Lib.hid (HSAME2.out w7 hb7); have HBC : Hid (Below w6.heap.size w6 (w7.alloc (.cells #[.int .u8 97] 5 (1, 2)))) := Lib.hid (hb7.alloc hb7.size _); have HCM := Lib.hid (HVC.out _ (.slice (some ⟨w7.heap.size, 0, none⟩) 1 1) HBC.out); have HWW := Lib.hid (HWH.out _ HBC.out); clear hb7; dsimp only) | (go_at_call 16; with_reducible refine (HS2W.out).mono ?_; rintro e w8 ⟨rfl, hb8⟩; clear qc; have qc : (convert 31 31 (.slice (some ⟨w8.heap.size, 0, none⟩) 1 1)).run Tryd.prog (w8.alloc (.cells #[.int .u8 97] 5)) = .ok (.slice (some ⟨w8.heap.size, 0, none⟩) 1 1) (w8.alloc (.cells #[.int .u8 97] 5 (1, 2))) := Lib.run_convert_bytes_const w8 _ _ _ 1 1 Tryd.underlying31 Tryd.underlying5; obtain ⟨qe2, qn2⟩ := (fresh_some w8 ⟨gf, 0, none⟩ nf cf); have HBC : Hid (Below w6.heap.size w6 (w8.alloc (.cells #[.int .u8 97] 5 (1, 2)))) := Lib.hid ((HB7.out.trans (hb8.mono HB7.out.size)).alloc (by have h1 := HB7.out.size; have h2 := hb8.size; omega) _); have HCM := Lib.hid (HVC.out _ (.slice (some ⟨w8.heap.size, 0, none⟩) 1 1) HBC.out); have HWW := Lib.hid (HWH.out _ HBC.out); clear hb8; dsimp only) | (go_at_call 8; refine (HCM.out).mono ?_; rintro e w' ⟨rfl, hw⟩; replace hw := hw.symm; subst hw; dsimp only) | (go_at_call 17; refine (HWW.out).mono ?_; rintro e w9 ⟨v9, rfl, hl9, hb9⟩; have HSS := Lib.hid (HSE.out w9 v9 _ (HBC.out.trans (hb9.mono HBC.out.size)) HBC.out.size hl9); clear hl9 hb9; dsimp only) | (go_at_call 11; refine (HSS.out).mono ?_; rintro e w10 ⟨rfl, hb10, J10, d10, t10, ht10, hk10⟩; have HF := Lib.hid (And.intro hb10 (And.intro ht10 hk10)); clear hb10 ht10 hk10; dsimp only) | go_values | go_skip | go_guarded | go_step)
                    go_roundw
                    case rel => exact ⟨i + 1, X, J10, 1 - k, t10, wholeL (img) (C), none, 0, [], [], d10, by omega, by simp, rfl, rfl, HF.out.2.1, by simp, wholeL_len _ _, HF.out.2.2, by simp, HF.out.1⟩
                    case measure => simp [intOf]; omega
                  · have HVB : Hid (VBroken 50 (1 - k) t5 t5 (FR :: ([] : List (List Nat))) d4.up) := Lib.hid hvb
                    clear hvb hk4 hd4 hB4'
                    dsimp only
                    have HUP := Lib.hid (up_any HD4.out)
                    go_wp2_with (go_at_call 14; refine (HUP.out).mono ?_; rintro e w5 ⟨rfl, hd5, hk5⟩; have HD5 := Lib.hid hd5; have HK5 := Lib.hid hk5; clear hd5 hk5; dsimp only)
                    have hB5 : B ≤ w5.heap.size := Nat.le_trans hB4 HK5.out.only.size
                    have HB5 : Hid (Below B w1 w5) := Lib.hid (HB4.out.trans (HD4.out.below hB4 HK5.out))
                    refine (vb_open HD5.out HVB.out (by omega)).mono ?_
                    rintro e w6 ⟨X, u, v, rfl, hx6, hu6, hv6, hX6, hb6⟩
                    have HX6 := Lib.hid hx6
                    have HU6 := Lib.hid hu6
                    have HV6 := Lib.hid hv6
                    have HXB := Lib.hid hX6
                    have HB6 := Lib.hid hb6
                    have HB56 : Hid (Below B w1 w6) := Lib.hid (HB5.out.trans (hb6.mono hB5))
                    have HIM6 : Hid (Lies w6 u7 img) := Lib.hid (lies_on (HIM4.out.lies.only2 HK5.out.only (fun q hq hne => (HIM4.out.far q hq hne).1)) hb6)
                    have HRW6 : Hid (RowsAt w6 (.slice ad m cd) C) := Lib.hid ((HRW4.out.kept HD4.out HK5.out).on hb6).rows.at
                    have HFR6 : Hid (Lies w6 (.slice (some ⟨gf, 0, none⟩) nf cf) FR) := Lib.hid (lies_on (HFR4.out.only2 HK5.out.only (fun q hq hne => HFF4.out q hq hne)) hb6)
                    clear hx6 hu6 hv6 hX6 hb6 HUP
                    obtain ⟨au6, cu6, rfl⟩ := lies_len HU6.out
                    obtain ⟨av6, cv6, hv6, -⟩ := HV6.out
                    subst hv6
                    obtain ⟨n6, hn6⟩ : ∃ n, n = (FR).length := ⟨_, rfl⟩
                    obtain ⟨m6, hm6⟩ : ∃ n, n = (([] : List (List Nat))).length := ⟨_, rfl⟩
                    rw [← hn6, ← hm6]
                    rw [← hn6] at HU6
                    rw [← hm6] at HV6
                    have HNM := Lib.hid (And.intro hn6 hm6)
                    have hsm3 := HK3.out.small
                    have hlC : C.length ≤ 1000000000 := by have := HM.out; omega
                    have hnil : SmallL ([] : List (List Nat)) := fun s h => by simp at h
                    have hnl : ([] : List (List Nat)).length ≤ 1000000000 := by simp
                    obtain ⟨q1, hq1⟩ : ∃ q, q = sameL FR [] img C := ⟨_, rfl⟩
                    have HSAME1 : Hid (Calls Tryd.prog 16 #[.slice au6 n6 cu6, .slice av6 m6 cv6, u7, .slice ad m cd] w6 fun e w' => e = .returned (.bool q1) ∧ Below w6.heap.size w6 w') := Lib.hid (by
                      have h := vsame_any HU6.out HV6.out HIM6.out HRW6.out HFS.out hsm3.1 hnil hsm3.2 hnl
                      rwa [← hq1] at h)
                    clear hq1
                    have HSAME2 : Hid (∀ w7, Below w6.heap.size w6 w7 → Calls Tryd.prog 16 #[.slice au6 n6 cu6, .slice av6 m6 cv6, (.slice (some ⟨gf, 0, none⟩) nf cf), .slice none 0 0] w7 fun e w' => e = .returned (.bool true) ∧ Below w7.heap.size w7 w') := Lib.hid (fun w7 hb => by
                      have h := vsame_any (lies_on HU6.out hb) (HV6.out.onB hb) (lies_on HFR6.out hb) (rowsAt_nil w7) HFS.out HFS.out hnil hnil hnl
                      rwa [show sameL FR [] FR [] = true by unfold sameL; simp] at h)
                    have HLN : Hid ((FR).length + (([] : List (List Nat))).flatten.length ≤ 1000000000 ∧ (([] : List (List Nat))).length ≤ 1000000000 ∧ ∀ x ∈ wholeL (FR) (([] : List (List Nat))), x < 256) := Lib.hid ⟨by have := HM.out; have := HFL.out; simp; omega, hnl, wholeL_small HFS.out hnil⟩
                    clear hsm3 hlC hnil hnl
                    have HVC : Hid (∀ (w' : World) (v' : Value), Below w6.heap.size w6 w' → Calls Tryd.prog 8 #[.pointer (some ⟨X, 0, none⟩), v'] w' fun e w'' => e = .returned (.int .i64 14) ∧ w'' = w') := Lib.hid (fun w' v' hb => vopened_commit (HX6.out.on hb))
                    have HWH : Hid (∀ (w' : World), Below w6.heap.size w6 w' → Calls Tryd.prog 17 #[.slice au6 n6 cu6, .slice av6 m6 cv6] w' fun e w'' => ∃ v, e = .returned v ∧ LiesFrom w'.heap.size w'' v (wholeL (FR) (([] : List (List Nat)))) ∧ Below w'.heap.size w' w'') := Lib.hid (fun w' hb => vwhole_any (lies_on HU6.out hb) (HV6.out.onB hb) HLN.out.1 HLN.out.2.1)
                    have HSE : Hid (∀ (w' : World) (v' : Value) (mm : Nat), Below w6.heap.size w6 w' → w6.heap.size ≤ mm → LiesFrom mm w' v' (wholeL (FR) (([] : List (List Nat)))) → Calls Tryd.prog 11 #[.pointer (some ⟨X, 0, none⟩), v'] w' fun e w'' => e = .returned (.int .i64 0) ∧ Below B w1 w'' ∧ ∃ J' d' t', t' ≤ 2 * (i + 1) + 1 ∧ KeptI B P w'' X J' (1 - (1 - k)) t' v' (wholeL (FR) (([] : List (List Nat)))) none 0 [] [] d') := Lib.hid (fun w' v' mm hb hmm hlf => by
                      have hd6 : DevAt w6 B P d4.up := HD5.out.beyond HB6.out
                      have hXlt := HX6.out.lt
                      have hXd : ¬ DBlk w6 P X := fun hh => by have h1 := HD5.out.lt (dblk_on HD5.out HB6.out hh); have := HXB.out; omega
                      have hbw : Below B w1 w' := HB56.out.trans (hb.mono (Nat.le_trans hB5 HB6.out.size))
                      have hDm : ∀ q, DBlk w' P q → q < mm := fun q hq => by have := hd6.lt (dblk_on hd6 hb hq); omega
                      refine (vb_seal (HX6.out.on hb) (hd6.beyond hb) HVB.out (by omega) (Nat.le_trans (Nat.le_trans hB5 HB6.out.size) hb.size) hgB (fun hh => hXd (dblk_on hd6 hb hh)) (Nat.le_trans hB5 HXB.out) (by have := HT4.out; omega) hlf.lies (fun q hq hne hh => by have := (hlf.block hq hne).1; have := hDm q hh; omega) HLN.out.2.2 (HL.out.below (HBw.out w' hbw).1) (by have h9 := wholeL_len (FR) (([] : List (List Nat))); unfold pieces; omega)).mono ?_
                      rintro e w'' ⟨rfl, hk, J', d', t', hJ', ht', hvau, _⟩
                      refine ⟨rfl, hbw.trans (hk.only.below (Nat.le_trans (Nat.le_trans hB5 HB6.out.size) hb.size) (fun q hq => hq.elim (fun e => by rw [e]; exact Nat.le_trans hB5 HXB.out) (fun hq => (hd6.beyond hb).low hq))), J', d', t', by have := HT4.out; omega, hvau, img_after hlf hDm (by omega) hk hJ', RowsC.nil _ _, fun _ => rfl⟩)
                    cases q1 with
                    | false =>
                      clear hn6 hm6
                      dsimp only
                      repeat (first | (go_at_call 16; with_reducible refine (HSAME1.out).mono ?_; rintro e w7 ⟨rfl, hb7⟩; have qc : (convert 31 31 (.slice (some ⟨w7.heap.size, 0, none⟩) 1 1)).run Tryd.prog (w7.alloc (.cells #[.int .u8 97] 5)) = .ok (.slice (some ⟨w7.heap.size, 0, none⟩) 1 1) (w7.alloc (.cells #[.int .u8 97] 5 (1, 2))) := Lib.run_convert_bytes_const w7 _ _ _ 1 1 Tryd.underlying31 Tryd.underlying5; obtain ⟨qe, qn⟩ := (fresh_some w7 ⟨gf, 0, none⟩ nf cf); have HB7 := Lib.hid hb7; have HS2W := Lib.hid (HSAME2.out w7 hb7); have HBC : Hid (Below w6.heap.size w6 (w7.alloc (.cells #[.int .u8 97] 5 (1, 2)))) := Lib.hid (hb7.alloc hb7.size _); have HCM := Lib.hid (HVC.out _ (.slice (some ⟨w7.heap.size, 0, none⟩) 1 1) HBC.out); have HWW := Lib.hid (HWH.out _ HBC.out); clear hb7; dsimp only) | (go_at_call 16; with_reducible refine (HS2W.out).mono ?_; rintro e w8 ⟨rfl, hb8⟩; clear qc; have qc : (convert 31 31 (.slice (some ⟨w8.heap.size, 0, none⟩) 1 1)).run Tryd.prog (w8.alloc (.cells #[.int .u8 97] 5)) = .ok (.slice (some ⟨w8.heap.size, 0, none⟩) 1 1) (w8.alloc (.cells #[.int .u8 97] 5 (1, 2))) := Lib.run_convert_bytes_const w8 _ _ _ 1 1 Tryd.underlying31 Tryd.underlying5; obtain ⟨qe2, qn2⟩ := (fresh_some w8 ⟨gf, 0, none⟩ nf cf); have HBC : Hid (Below w6.heap.size w6 (w8.alloc (.cells #[.int .u8 97] 5 (1, 2)))) := Lib.hid ((HB7.out.trans (hb8.mono HB7.out.size)).alloc (by have h1 := HB7.out.size; have h2 := hb8.size; omega) _); have HCM := Lib.hid (HVC.out _ (.slice (some ⟨w8.heap.size, 0, none⟩) 1 1) HBC.out); have HWW := Lib.hid (HWH.out _ HBC.out); clear hb8; dsimp only) | (go_at_call 8; refine (HCM.out).mono ?_; rintro e w' ⟨rfl, hw⟩; replace hw := hw.symm; subst hw; dsimp only) | (go_at_call 17; refine (HWW.out).mono ?_; rintro e w9 ⟨v9, rfl, hl9, hb9⟩; have HSS := Lib.hid (HSE.out w9 v9 _ (HBC.out.trans (hb9.mono HBC.out.size)) HBC.out.size hl9); clear hl9 hb9; dsimp only) | (go_at_call 11; refine (HSS.out).mono ?_; rintro e w10 ⟨rfl, hb10, J10, d10, t10, ht10, hk10⟩; have HF := Lib.hid (And.intro hb10 (And.intro ht10 hk10)); clear hb10 ht10 hk10; dsimp only) | go_values | go_skip | go_guarded | go_step)
                      go_roundw
                      case rel => exact ⟨i + 1, X, J10, 1 - (1 - k), t10, wholeL (FR) (([] : List (List Nat))), none, 0, [], [], d10, by omega, by simp, rfl, rfl, HF.out.2.1, by simp, wholeL_len _ _, HF.out.2.2, by simp, HF.out.1⟩
                      case measure => simp [intOf]; omega
                    | true =>
                      clear hn6 hm6
                      dsimp only
                      repeat (first | (go_at_call 16; with_reducible refine (HSAME1.out).mono ?_; rintro e w7 ⟨rfl, hb7⟩; have qc : (convert 31 31 (.slice (some ⟨w7.heap.size, 0, none⟩) 1 1)).run Tryd.prog (w7.alloc (.cells #[.int .u8 97] 5)) = .ok (.slice (some ⟨w7.heap.size, 0, none⟩) 1 1) (w7.alloc (.cells #[.int .u8 97] 5 (1, 2))) := Lib.run_convert_bytes_const w7 _ _ _ 1 1 Tryd.underlying31 Tryd.underlying5; obtain ⟨qe, qn⟩ := (fresh_some w7 ⟨gf, 0, none⟩ nf cf); have HB7 := Lib.hid hb7; have HS2W := Lib.hid (HSAME2.out w7 hb7); have HBC : Hid (Below w6.heap.size w6 (w7.alloc (.cells #[.int .u8 97] 5 (1, 2)))) := Lib.hid (hb7.alloc hb7.size _); have HCM := Lib.hid (HVC.out _ (.slice (some ⟨w7.heap.size, 0, none⟩) 1 1) HBC.out); have HWW := Lib.hid (HWH.out _ HBC.out); clear hb7; dsimp only) | (go_at_call 16; with_reducible refine (HS2W.out).mono ?_; rintro e w8 ⟨rfl, hb8⟩; clear qc; have qc : (convert 31 31 (.slice (some ⟨w8.heap.size, 0, none⟩) 1 1)).run Tryd.prog (w8.alloc (.cells #[.int .u8 97] 5)) = .ok (.slice (some ⟨w8.heap.size, 0, none⟩) 1 1) (w8.alloc (.cells #[.int .u8 97] 5 (1, 2))) := Lib.run_convert_bytes_const w8 _ _ _ 1 1 Tryd.underlying31 Tryd.underlying5; obtain ⟨qe2, qn2⟩ := (fresh_some w8 ⟨gf, 0, none⟩ nf cf); have HBC : Hid (Below w6.heap.size w6 (w8.alloc (.cells #[.int .u8 97] 5 (1, 2)))) := Lib.hid ((HB7.out.trans (hb8.mono HB7.out.size)).alloc (by have h1 := HB7.out.size; have h2 := hb8.size; omega) _); have HCM := Lib.hid (HVC.out _ (.slice (some ⟨w8.heap.size, 0, none⟩) 1 1) HBC.out); have HWW := Lib.hid (HWH.out _ HBC.out); clear hb8; dsimp only) | (go_at_call 8; refine (HCM.out).mono ?_; rintro e w' ⟨rfl, hw⟩; replace hw := hw.symm; subst hw; dsimp only) | (go_at_call 17; refine (HWW.out).mono ?_; rintro e w9 ⟨v9, rfl, hl9, hb9⟩; have HSS := Lib.hid (HSE.out w9 v9 _ (HBC.out.trans (hb9.mono HBC.out.size)) HBC.out.size hl9); clear hl9 hb9; dsimp only) | (go_at_call 11; refine (HSS.out).mono ?_; rintro e w10 ⟨rfl, hb10, J10, d10, t10, ht10, hk10⟩; have HF := Lib.hid (And.intro hb10 (And.intro ht10 hk10)); clear hb10 ht10 hk10; dsimp only) | go_values | go_skip | go_guarded | go_step)
                      go_roundw
                      case rel => exact ⟨i + 1, X, J10, 1 - (1 - k), t10, wholeL (FR) (([] : List (List Nat))), none, 0, [], [], d10, by omega, by simp, rfl, rfl, HF.out.2.1, by simp, wholeL_len _ _, HF.out.2.2, by simp, HF.out.1⟩
                      case measure => simp [intOf]; omega
            · by_cases h4 : kind = 4
              · as_aux_lemma =>
                  subst h4
                  obtain ⟨x, hx⟩ : ∃ x : Nat, (x : Int) = IntKind.u64.wrap nn := ⟨(IntKind.u64.wrap nn).toNat, by rw [IntKind.wrap_u64]; omega⟩
                  obtain ⟨y, hy⟩ : ∃ y, y = x % 60 := ⟨_, rfl⟩
                  have ex : IntKind.u64.wrap nn = (x : Int) := hx.symm
                  have ey : (x : Int) % 60 = (y : Int) := by omega
                  have ez : IntKind.i64.wrap ((1 : Int) + (y : Int)) = ((1 + y : Nat) : Int) := by rw [IntKind.wrap_i64]; omega
                  have HC := vau_arm (z := 1 + y) (keep := keep) (torn := torn) (bytes := bytes) HK3.out.vau (by omega) HKP.out
                  have hy60 : y < 60 := by omega
                  clear hx hy hkc h3
                  go_wp2_with fail
                  refine HC.mono ?_
                  clear HC
                  rintro e w4 ⟨rfl, hk4, d4, hs4⟩
                  have HF4 : Hid (KeptI B P w4 V J k t u7 img ad cd us C d4) := Lib.hid ⟨hs4, HK3.out.im.kept hk4.jo.vault, HK3.out.rows.vk HK3.out.vau.sit hk4.jo.vault, HK3.out.nd⟩
                  have HB4 : Hid (Below B w1 w4) := Lib.hid (HB3.out.trans (HK3.out.vau.sit.below hB3 hk4.jo.vault))
                  clear hk4 hs4
                  dsimp only
                  go_wp2
                  go_roundw
                  case rel => exact ⟨i + 1, V, J, k, t, img, ad, cd, us, C, d4, by omega, by simp, rfl, by rw [← HM.out.1], by omega, by have := HM.out; omega, HM.out.2.2.2, HF4.out, by have := HM.out; omega, HB4.out⟩
                  case measure => simp [intOf]; omega
              · have t3 : (kind == 3) = false := by simpa using h3
                have t4 : (kind == 4) = false := by simpa using h4
                by_cases hneg : kind < 0
                · have tk1 : decide (0 ≤ kind) = false := by simp; omega
                  clear hkc h3 h4 hneg
                  as_aux_lemma =>
                    have HC := vau_crash (keep := keep) (torn := torn) (bytes := bytes) HK3.out.vau HKP.out
                    go_wp2_with fail
                    refine HC.mono ?_
                    clear HC
                    rintro e w4 ⟨rfl, hk4, d4, hd4, hvb⟩
                    have hB4' := HK3.out.vau.sit.below hB3 hk4.jo.vault
                    have HB4 : Hid (Below B w1 w4) := Lib.hid (HB3.out.trans hB4')
                    have hB4 := (HBw.out w4 HB4.out).2
                    have HD4 := Lib.hid hd4
                    have HIM4 := Lib.hid (HK3.out.im.kept hk4.jo.vault)
                    have HRW4 : Hid (RowsC B w4 (.slice ad m cd) us C) := Lib.hid (by have h := HK3.out.rows.vk HK3.out.vau.sit hk4.jo.vault; rwa [← HM.out.1] at h)
                    have HRN4 := Lib.hid HRW4.out
                    have HVB : Hid (VBroken 50 k t t (img :: C) d4.up) := Lib.hid hvb
                    have HT4 : Hid (t ≤ 2 * i + 2) := Lib.hid (by omega)
                    clear hvb hk4 hd4 hB4'
                    dsimp only
                    have HUP := Lib.hid (up_any HD4.out)
                    go_wp2_with (go_at_call 14; refine (HUP.out).mono ?_; rintro e w5 ⟨rfl, hd5, hk5⟩; have HD5 := Lib.hid hd5; have HK5 := Lib.hid hk5; clear hd5 hk5; dsimp only)
                    have hB5 : B ≤ w5.heap.size := Nat.le_trans hB4 HK5.out.only.size
                    have HB5 : Hid (Below B w1 w5) := Lib.hid (HB4.out.trans (HD4.out.below hB4 HK5.out))
                    refine (vb_open HD5.out HVB.out (by omega)).mono ?_
                    rintro e w6 ⟨X, u, v, rfl, hx6, hu6, hv6, hX6, hb6⟩
                    have HX6 := Lib.hid hx6
                    have HU6 := Lib.hid hu6
                    have HV6 := Lib.hid hv6
                    have HXB := Lib.hid hX6
                    have HB6 := Lib.hid hb6
                    have HB56 : Hid (Below B w1 w6) := Lib.hid (HB5.out.trans (hb6.mono hB5))
                    have HIM6 : Hid (Lies w6 u7 img) := Lib.hid (lies_on (HIM4.out.lies.only2 HK5.out.only (fun q hq hne => (HIM4.out.far q hq hne).1)) hb6)
                    have HRW6 : Hid (RowsAt w6 (.slice ad m cd) C) := Lib.hid ((HRW4.out.kept HD4.out HK5.out).on hb6).rows.at
                    have HRN6 : Hid (RowsAt w6 (.slice ad m cd) C) := Lib.hid ((HRN4.out.kept HD4.out HK5.out).on hb6).rows.at
                    clear hx6 hu6 hv6 hX6 hb6 HUP
                    obtain ⟨au6, cu6, rfl⟩ := lies_len HU6.out
                    obtain ⟨av6, cv6, hv6, -⟩ := HV6.out
                    subst hv6
                    obtain ⟨n6, hn6⟩ : ∃ n, n = (img).length := ⟨_, rfl⟩
                    obtain ⟨m6, hm6⟩ : ∃ n, n = (C).length := ⟨_, rfl⟩
                    rw [← hn6, ← hm6]
                    rw [← hn6] at HU6
                    rw [← hm6] at HV6
                    have HNM := Lib.hid (And.intro hn6 hm6)
                    have hsm3 := HK3.out.small
                    have hlC : C.length ≤ 1000000000 := by have := HM.out; omega
                    have HSAME1 : Hid (Calls Tryd.prog 16 #[.slice au6 n6 cu6, .slice av6 m6 cv6, u7, .slice ad m cd] w6 fun e w' => e = .returned (.bool true) ∧ Below w6.heap.size w6 w') := Lib.hid (by
                      have h := vsame_any HU6.out HV6.out HIM6.out HRW6.out hsm3.1 hsm3.1 hsm3.2 hsm3.2 hlC
                      rwa [show sameL img C img C = true by unfold sameL; simp] at h)
                    have HSAME2 : Hid (∀ w7, Below w6.heap.size w6 w7 → Calls Tryd.prog 16 #[.slice au6 n6 cu6, .slice av6 m6 cv6, u7, .slice ad m cd] w7 fun e w' => e = .returned (.bool true) ∧ Below w7.heap.size w7 w') := Lib.hid (fun w7 hb => by
                      have h := vsame_any (lies_on HU6.out hb) (HV6.out.onB hb) (lies_on HIM6.out hb) (HRN6.out.onB hb) hsm3.1 hsm3.1 hsm3.2 hsm3.2 hlC
                      rwa [show sameL img C img C = true by unfold sameL; simp] at h)
                    have HLN : Hid ((img).length + (C).flatten.length ≤ 1000000000 ∧ (C).length ≤ 1000000000 ∧ ∀ x ∈ wholeL (img) (C), x < 256) := Lib.hid ⟨by have := HM.out; omega, hlC, wholeL_small hsm3.1 hsm3.2⟩
                    clear hsm3 hlC
                    have HVC : Hid (∀ (w' : World) (v' : Value), Below w6.heap.size w6 w' → Calls Tryd.prog 8 #[.pointer (some ⟨X, 0, none⟩), v'] w' fun e w'' => e = .returned (.int .i64 14) ∧ w'' = w') := Lib.hid (fun w' v' hb => vopened_commit (HX6.out.on hb))
                    have HWH : Hid (∀ (w' : World), Below w6.heap.size w6 w' → Calls Tryd.prog 17 #[.slice au6 n6 cu6, .slice av6 m6 cv6] w' fun e w'' => ∃ v, e = .returned v ∧ LiesFrom w'.heap.size w'' v (wholeL (img) (C)) ∧ Below w'.heap.size w' w'') := Lib.hid (fun w' hb => vwhole_any (lies_on HU6.out hb) (HV6.out.onB hb) HLN.out.1 HLN.out.2.1)
                    have HSE : Hid (∀ (w' : World) (v' : Value) (mm : Nat), Below w6.heap.size w6 w' → w6.heap.size ≤ mm → LiesFrom mm w' v' (wholeL (img) (C)) → Calls Tryd.prog 11 #[.pointer (some ⟨X, 0, none⟩), v'] w' fun e w'' => e = .returned (.int .i64 0) ∧ Below B w1 w'' ∧ ∃ J' d' t', t' ≤ 2 * (i + 1) + 1 ∧ KeptI B P w'' X J' (1 - k) t' v' (wholeL (img) (C)) none 0 [] [] d') := Lib.hid (fun w' v' mm hb hmm hlf => by
                      have hd6 : DevAt w6 B P d4.up := HD5.out.beyond HB6.out
                      have hXlt := HX6.out.lt
                      have hXd : ¬ DBlk w6 P X := fun hh => by have h1 := HD5.out.lt (dblk_on HD5.out HB6.out hh); have := HXB.out; omega
                      have hbw : Below B w1 w' := HB56.out.trans (hb.mono (Nat.le_trans hB5 HB6.out.size))
                      have hDm : ∀ q, DBlk w' P q → q < mm := fun q hq => by have := hd6.lt (dblk_on hd6 hb hq); omega
                      refine (vb_seal (HX6.out.on hb) (hd6.beyond hb) HVB.out (by omega) (Nat.le_trans (Nat.le_trans hB5 HB6.out.size) hb.size) hgB (fun hh => hXd (dblk_on hd6 hb hh)) (Nat.le_trans hB5 HXB.out) (by have := HT4.out; omega) hlf.lies (fun q hq hne hh => by have := (hlf.block hq hne).1; have := hDm q hh; omega) HLN.out.2.2 (HL.out.below (HBw.out w' hbw).1) (by have h9 := wholeL_len (img) (C); unfold pieces; omega)).mono ?_
                      rintro e w'' ⟨rfl, hk, J', d', t', hJ', ht', hvau, _⟩
                      refine ⟨rfl, hbw.trans (hk.only.below (Nat.le_trans (Nat.le_trans hB5 HB6.out.size) hb.size) (fun q hq => hq.elim (fun e => by rw [e]; exact Nat.le_trans hB5 HXB.out) (fun hq => (hd6.beyond hb).low hq))), J', d', t', by have := HT4.out; omega, hvau, img_after hlf hDm (by omega) hk hJ', RowsC.nil _ _, fun _ => rfl⟩)
                    clear hn6 hm6
                    dsimp only
                    repeat (first | (go_at_call 16; with_reducible refine (HSAME1.out).mono ?_; rintro e w7 ⟨rfl, hb7⟩; have qc : (convert 31 31 (.slice (some ⟨w7.heap.size, 0, none⟩) 1 1)).run Tryd.prog (w7.alloc (.cells #[.int .u8 97] 5)) = .ok (.slice (some ⟨w7.heap.size, 0, none⟩) 1 1) (w7.alloc (.cells #[.int .u8 97] 5 (1, 2))) := Lib.run_convert_bytes_const w7 _ _ _ 1 1 Tryd.underlying31 Tryd.underlying5; obtain ⟨qe, qn⟩ := (fresh_nil w7); have HB7 := Lib.hid hb7; have HS2W := Lib.hid (HSAME2.out w7 hb7); have HBC : Hid (Below w6.heap.size w6 (w7.alloc (.cells #[.int .u8 97] 5 (1, 2)))) := Lib.hid (hb7.alloc hb7.size _); have HCM := Lib.hid (HVC.out _ (.slice (some ⟨w7.heap.size, 0, none⟩) 1 1) HBC.out); have HWW := Lib.hid (HWH.out _ HBC.out); clear hb7; dsimp only) | (go_at_call 16; with_reducible refine (HS2W.out).mono ?_; rintro e w8 ⟨rfl, hb8⟩; clear qc; have qc : (convert 31 31 (.slice (some ⟨w8.heap.size, 0, none⟩) 1 1)).run Tryd.prog (w8.alloc (.cells #[.int .u8 97] 5)) = .ok (.slice (some ⟨w8.heap.size, 0, none⟩) 1 1) (w8.alloc (.cells #[.int .u8 97] 5 (1, 2))) := Lib.run_convert_bytes_const w8 _ _ _ 1 1 Tryd.underlying31 Tryd.underlying5; obtain ⟨qe2, qn2⟩ := (fresh_nil w8); have HBC : Hid (Below w6.heap.size w6 (w8.alloc (.cells #[.int .u8 97] 5 (1, 2)))) := Lib.hid ((HB7.out.trans (hb8.mono HB7.out.size)).alloc (by have h1 := HB7.out.size; have h2 := hb8.size; omega) _); have HCM := Lib.hid (HVC.out _ (.slice (some ⟨w8.heap.size, 0, none⟩) 1 1) HBC.out); have HWW := Lib.hid (HWH.out _ HBC.out); clear hb8; dsimp only) | (go_at_call 8; refine (HCM.out).mono ?_; rintro e w' ⟨rfl, hw⟩; replace hw := hw.symm; subst hw; dsimp only) | (go_at_call 17; refine (HWW.out).mono ?_; rintro e w9 ⟨v9, rfl, hl9, hb9⟩; have HSS := Lib.hid (HSE.out w9 v9 _ (HBC.out.trans (hb9.mono HBC.out.size)) HBC.out.size hl9); clear hl9 hb9; dsimp only) | (go_at_call 11; refine (HSS.out).mono ?_; rintro e w10 ⟨rfl, hb10, J10, d10, t10, ht10, hk10⟩; have HF := Lib.hid (And.intro hb10 (And.intro ht10 hk10)); clear hb10 ht10 hk10; dsimp only) | go_values | go_skip | go_guarded | go_step)
                    go_roundw
                    case rel => exact ⟨i + 1, X, J10, 1 - k, t10, wholeL (img) (C), none, 0, [], [], d10, by omega, by simp, rfl, rfl, HF.out.2.1, by simp, wholeL_len _ _, HF.out.2.2, by simp, HF.out.1⟩
                    case measure => simp [intOf]; omega
                · have tk1 : decide (0 ≤ kind) = true := by simp; omega
                  have tk2 : decide (kind ≤ 2) = false := by simp; omega
                  clear hkc h3 h4 hneg
                  as_aux_lemma =>
                    have HC := vau_crash (keep := keep) (torn := torn) (bytes := bytes) HK3.out.vau HKP.out
                    go_wp2_with fail
                    refine HC.mono ?_
                    clear HC
                    rintro e w4 ⟨rfl, hk4, d4, hd4, hvb⟩
                    have hB4' := HK3.out.vau.sit.below hB3 hk4.jo.vault
                    have HB4 : Hid (Below B w1 w4) := Lib.hid (HB3.out.trans hB4')
                    have hB4 := (HBw.out w4 HB4.out).2
                    have HD4 := Lib.hid hd4
                    have HIM4 := Lib.hid (HK3.out.im.kept hk4.jo.vault)
                    have HRW4 : Hid (RowsC B w4 (.slice ad m cd) us C) := Lib.hid (by have h := HK3.out.rows.vk HK3.out.vau.sit hk4.jo.vault; rwa [← HM.out.1] at h)
                    have HRN4 := Lib.hid HRW4.out
                    have HVB : Hid (VBroken 50 k t t (img :: C) d4.up) := Lib.hid hvb
                    have HT4 : Hid (t ≤ 2 * i + 2) := Lib.hid (by omega)
                    clear hvb hk4 hd4 hB4'
                    dsimp only
                    have HUP := Lib.hid (up_any HD4.out)
                    go_wp2_with (go_at_call 14; refine (HUP.out).mono ?_; rintro e w5 ⟨rfl, hd5, hk5⟩; have HD5 := Lib.hid hd5; have HK5 := Lib.hid hk5; clear hd5 hk5; dsimp only)
                    have hB5 : B ≤ w5.heap.size := Nat.le_trans hB4 HK5.out.only.size
                    have HB5 : Hid (Below B w1 w5) := Lib.hid (HB4.out.trans (HD4.out.below hB4 HK5.out))
                    refine (vb_open HD5.out HVB.out (by omega)).mono ?_
                    rintro e w6 ⟨X, u, v, rfl, hx6, hu6, hv6, hX6, hb6⟩
                    have HX6 := Lib.hid hx6
                    have HU6 := Lib.hid hu6
                    have HV6 := Lib.hid hv6
                    have HXB := Lib.hid hX6
                    have HB6 := Lib.hid hb6
                    have HB56 : Hid (Below B w1 w6) := Lib.hid (HB5.out.trans (hb6.mono hB5))
                    have HIM6 : Hid (Lies w6 u7 img) := Lib.hid (lies_on (HIM4.out.lies.only2 HK5.out.only (fun q hq hne => (HIM4.out.far q hq hne).1)) hb6)
                    have HRW6 : Hid (RowsAt w6 (.slice ad m cd) C) := Lib.hid ((HRW4.out.kept HD4.out HK5.out).on hb6).rows.at
                    have HRN6 : Hid (RowsAt w6 (.slice ad m cd) C) := Lib.hid ((HRN4.out.kept HD4.out HK5.out).on hb6).rows.at
                    clear hx6 hu6 hv6 hX6 hb6 HUP
                    obtain ⟨au6, cu6, rfl⟩ := lies_len HU6.out
                    obtain ⟨av6, cv6, hv6, -⟩ := HV6.out
                    subst hv6
                    obtain ⟨n6, hn6⟩ : ∃ n, n = (img).length := ⟨_, rfl⟩
                    obtain ⟨m6, hm6⟩ : ∃ n, n = (C).length := ⟨_, rfl⟩
                    rw [← hn6, ← hm6]
                    rw [← hn6] at HU6
                    rw [← hm6] at HV6
                    have HNM := Lib.hid (And.intro hn6 hm6)
                    have hsm3 := HK3.out.small
                    have hlC : C.length ≤ 1000000000 := by have := HM.out; omega
                    have HSAME1 : Hid (Calls Tryd.prog 16 #[.slice au6 n6 cu6, .slice av6 m6 cv6, u7, .slice ad m cd] w6 fun e w' => e = .returned (.bool true) ∧ Below w6.heap.size w6 w') := Lib.hid (by
                      have h := vsame_any HU6.out HV6.out HIM6.out HRW6.out hsm3.1 hsm3.1 hsm3.2 hsm3.2 hlC
                      rwa [show sameL img C img C = true by unfold sameL; simp] at h)
                    have HSAME2 : Hid (∀ w7, Below w6.heap.size w6 w7 → Calls Tryd.prog 16 #[.slice au6 n6 cu6, .slice av6 m6 cv6, u7, .slice ad m cd] w7 fun e w' => e = .returned (.bool true) ∧ Below w7.heap.size w7 w') := Lib.hid (fun w7 hb => by
                      have h := vsame_any (lies_on HU6.out hb) (HV6.out.onB hb) (lies_on HIM6.out hb) (HRN6.out.onB hb) hsm3.1 hsm3.1 hsm3.2 hsm3.2 hlC
                      rwa [show sameL img C img C = true by unfold sameL; simp] at h)
                    have HLN : Hid ((img).length + (C).flatten.length ≤ 1000000000 ∧ (C).length ≤ 1000000000 ∧ ∀ x ∈ wholeL (img) (C), x < 256) := Lib.hid ⟨by have := HM.out; omega, hlC, wholeL_small hsm3.1 hsm3.2⟩
                    clear hsm3 hlC
                    have HVC : Hid (∀ (w' : World) (v' : Value), Below w6.heap.size w6 w' → Calls Tryd.prog 8 #[.pointer (some ⟨X, 0, none⟩), v'] w' fun e w'' => e = .returned (.int .i64 14) ∧ w'' = w') := Lib.hid (fun w' v' hb => vopened_commit (HX6.out.on hb))
                    have HWH : Hid (∀ (w' : World), Below w6.heap.size w6 w' → Calls Tryd.prog 17 #[.slice au6 n6 cu6, .slice av6 m6 cv6] w' fun e w'' => ∃ v, e = .returned v ∧ LiesFrom w'.heap.size w'' v (wholeL (img) (C)) ∧ Below w'.heap.size w' w'') := Lib.hid (fun w' hb => vwhole_any (lies_on HU6.out hb) (HV6.out.onB hb) HLN.out.1 HLN.out.2.1)
                    have HSE : Hid (∀ (w' : World) (v' : Value) (mm : Nat), Below w6.heap.size w6 w' → w6.heap.size ≤ mm → LiesFrom mm w' v' (wholeL (img) (C)) → Calls Tryd.prog 11 #[.pointer (some ⟨X, 0, none⟩), v'] w' fun e w'' => e = .returned (.int .i64 0) ∧ Below B w1 w'' ∧ ∃ J' d' t', t' ≤ 2 * (i + 1) + 1 ∧ KeptI B P w'' X J' (1 - k) t' v' (wholeL (img) (C)) none 0 [] [] d') := Lib.hid (fun w' v' mm hb hmm hlf => by
                      have hd6 : DevAt w6 B P d4.up := HD5.out.beyond HB6.out
                      have hXlt := HX6.out.lt
                      have hXd : ¬ DBlk w6 P X := fun hh => by have h1 := HD5.out.lt (dblk_on HD5.out HB6.out hh); have := HXB.out; omega
                      have hbw : Below B w1 w' := HB56.out.trans (hb.mono (Nat.le_trans hB5 HB6.out.size))
                      have hDm : ∀ q, DBlk w' P q → q < mm := fun q hq => by have := hd6.lt (dblk_on hd6 hb hq); omega
                      refine (vb_seal (HX6.out.on hb) (hd6.beyond hb) HVB.out (by omega) (Nat.le_trans (Nat.le_trans hB5 HB6.out.size) hb.size) hgB (fun hh => hXd (dblk_on hd6 hb hh)) (Nat.le_trans hB5 HXB.out) (by have := HT4.out; omega) hlf.lies (fun q hq hne hh => by have := (hlf.block hq hne).1; have := hDm q hh; omega) HLN.out.2.2 (HL.out.below (HBw.out w' hbw).1) (by have h9 := wholeL_len (img) (C); unfold pieces; omega)).mono ?_
                      rintro e w'' ⟨rfl, hk, J', d', t', hJ', ht', hvau, _⟩
                      refine ⟨rfl, hbw.trans (hk.only.below (Nat.le_trans (Nat.le_trans hB5 HB6.out.size) hb.size) (fun q hq => hq.elim (fun e => by rw [e]; exact Nat.le_trans hB5 HXB.out) (fun hq => (hd6.beyond hb).low hq))), J', d', t', by have := HT4.out; omega, hvau, img_after hlf hDm (by omega) hk hJ', RowsC.nil _ _, fun _ => rfl⟩)
                    clear hn6 hm6
                    dsimp only
                    repeat (first | (go_at_call 16; with_reducible refine (HSAME1.out).mono ?_; rintro e w7 ⟨rfl, hb7⟩; have qc : (convert 31 31 (.slice (some ⟨w7.heap.size, 0, none⟩) 1 1)).run Tryd.prog (w7.alloc (.cells #[.int .u8 97] 5)) = .ok (.slice (some ⟨w7.heap.size, 0, none⟩) 1 1) (w7.alloc (.cells #[.int .u8 97] 5 (1, 2))) := Lib.run_convert_bytes_const w7 _ _ _ 1 1 Tryd.underlying31 Tryd.underlying5; obtain ⟨qe, qn⟩ := (fresh_nil w7); have HB7 := Lib.hid hb7; have HS2W := Lib.hid (HSAME2.out w7 hb7); have HBC : Hid (Below w6.heap.size w6 (w7.alloc (.cells #[.int .u8 97] 5 (1, 2)))) := Lib.hid (hb7.alloc hb7.size _); have HCM := Lib.hid (HVC.out _ (.slice (some ⟨w7.heap.size, 0, none⟩) 1 1) HBC.out); have HWW := Lib.hid (HWH.out _ HBC.out); clear hb7; dsimp only) | (go_at_call 16; with_reducible refine (HS2W.out).mono ?_; rintro e w8 ⟨rfl, hb8⟩; clear qc; have qc : (convert 31 31 (.slice (some ⟨w8.heap.size, 0, none⟩) 1 1)).run Tryd.prog (w8.alloc (.cells #[.int .u8 97] 5)) = .ok (.slice (some ⟨w8.heap.size, 0, none⟩) 1 1) (w8.alloc (.cells #[.int .u8 97] 5 (1, 2))) := Lib.run_convert_bytes_const w8 _ _ _ 1 1 Tryd.underlying31 Tryd.underlying5; obtain ⟨qe2, qn2⟩ := (fresh_nil w8); have HBC : Hid (Below w6.heap.size w6 (w8.alloc (.cells #[.int .u8 97] 5 (1, 2)))) := Lib.hid ((HB7.out.trans (hb8.mono HB7.out.size)).alloc (by have h1 := HB7.out.size; have h2 := hb8.size; omega) _); have HCM := Lib.hid (HVC.out _ (.slice (some ⟨w8.heap.size, 0, none⟩) 1 1) HBC.out); have HWW := Lib.hid (HWH.out _ HBC.out); clear hb8; dsimp only) | (go_at_call 8; refine (HCM.out).mono ?_; rintro e w' ⟨rfl, hw⟩; replace hw := hw.symm; subst hw; dsimp only) | (go_at_call 17; refine (HWW.out).mono ?_; rintro e w9 ⟨v9, rfl, hl9, hb9⟩; have HSS := Lib.hid (HSE.out w9 v9 _ (HBC.out.trans (hb9.mono HBC.out.size)) HBC.out.size hl9); clear hl9 hb9; dsimp only) | (go_at_call 11; refine (HSS.out).mono ?_; rintro e w10 ⟨rfl, hb10, J10, d10, t10, ht10, hk10⟩; have HF := Lib.hid (And.intro hb10 (And.intro ht10 hk10)); clear hb10 ht10 hk10; dsimp only) | go_values | go_skip | go_guarded | go_step)
                    go_roundw
                    case rel => exact ⟨i + 1, X, J10, 1 - k, t10, wholeL (img) (C), none, 0, [], [], d10, by omega, by simp, rfl, rfl, HF.out.2.1, by simp, wholeL_len _ _, HF.out.2.2, by simp, HF.out.1⟩
                    case measure => simp [intOf]; omega
        · have t2 : decide ((150 : Int) < (l : Int)) = true := by simp; omega
          have t2' : (150 : Int) < (l : Int) := by omega
          have HFB : Hid (∀ o, Below w.heap.size w (wr.alloc o)) := Lib.hid (fun o => (HBw.out _ (HB.out.alloc hBr o)).1)
          go_wp2
          go_ret
          exact ⟨rfl, HFB.out _⟩
      · obtain rfl : i = la := by omega
        have HDW := Lib.hid (down_any HK.out.vau.sit.dev)
        rw [HK.out.vau.st.fit.up] at HDW
        have hsm3 := HK.out.small
        go_wp2_with (go_at_call 18; refine (HDW.out).mono ?_; rintro e w' ⟨rfl, hw⟩; replace hw := hw.symm; subst hw; dsimp only)
        refine (vau_open HK.out.vau).mono ?_
        rintro e w5 ⟨X, u, v, rfl, _, hu5, hv5, _, hb5⟩
        have HSA := vsame_any hu5 hv5 (lies_on HK.out.im.lies hb5) (HK.out.rows.on hb5).rows.at hsm3.1 hsm3.1 hsm3.2 hsm3.2 (by have := HM.out; omega)
        obtain ⟨au5, cu5, rfl⟩ := lies_len hu5
        obtain ⟨av5, cv5, rfl, -⟩ := hv5
        rw [show sameL img C img C = true by unfold sameL; simp, ← HM.out.1] at HSA
        obtain ⟨n5, hn5⟩ : ∃ n, n = img.length := ⟨_, rfl⟩
        rw [← hn5] at HSA
        rw [← hn5, ← HM.out.1]
        replace HSA := Lib.hid HSA
        have HB5 : Hid (Below w.heap.size w w5) := Lib.hid ((HBw.out wr HB.out).1.trans (hb5.mono (HBw.out wr HB.out).1.size))
        clear hu5 hb5 hsm3 hn5
        dsimp only
        go_wp2_with (go_at_call 16; refine (HSA.out).mono ?_; rintro e w6 ⟨rfl, hb6⟩; have HB6 : Hid (Below w.heap.size w w6) := Lib.hid (HB5.out.trans (hb6.mono HB5.out.size)); clear hb6; dsimp only)
        go_ret
        exact ⟨rfl, HB6.out⟩
  · have t1 : decide ((25 : Int) < (la : Int)) = true := by simp; omega
    have HL1 := HLV.out w HBw0.out
    have HFIN : Hid (∀ (w4 : World), Below w.heap.size w w4 → Calls Tryd.prog 5 #[] w4 fun e w' => e = .returned (.bool true) ∧ Below w.heap.size w w') := Lib.hid (fun w4 h => (HLV.out w4 h).mono (by rintro e w' ⟨h1, h2⟩; exact ⟨h1, h.trans (h2.mono h.size)⟩))
    replace HL1 := Lib.hid HL1
    go_wp2_with fail
    refine (HL1.out).mono ?_
    rintro e w4 ⟨rfl, hb4⟩
    have HL4 := Lib.hid (HFIN.out w4 hb4)
    clear hb4
    dsimp only
    go_wp2_with fail
    refine (HL4.out).mono ?_
    rintro e w5 ⟨rfl, hb5⟩
    have HB5 := Lib.hid hb5
    clear hb5
    dsimp only
    go_wp2
    go_ret
    exact ⟨rfl, HB5.out⟩
end Go.Proofs.YtcdgbmeechnpiaaDoor
