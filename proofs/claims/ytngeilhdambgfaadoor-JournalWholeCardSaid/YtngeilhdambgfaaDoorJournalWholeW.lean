/- JournalWhole, walked. -/
import Derived.Test.YtngeilhdambgfaaDoorJoKept
namespace Go.Proofs.YtngeilhdambgfaaDoor
open Go.RowKit

set_option maxRecDepth 1000000 in
set_option maxHeartbeats 16000000 in
theorem journalWhole_walk {w : World} {s : Int} {v1 : Value} {A : List (List Nat)} (hs1 : 0 ≤ s) (hs2 : s ≤ 255) (hv1 : RowsAt w v1 A) (hb1 : ∀ bs ∈ A, ∀ x ∈ bs, x < 256) (_hm1 : A.length ≤ maxLen) (hl : StepsLaid w) :
    Calls Tryd.prog 6 #[.int .u8 s, v1] w fun e w' => e = .returned (.bool true) ∧ Below w.heap.size w w' := by
  obtain ⟨a1, c1, rfl, hr1⟩ := hv1
  obtain ⟨q, rfl⟩ : ∃ q : Nat, s = q := ⟨s.toNat, by omega⟩
  obtain ⟨la, hla⟩ : ∃ n, n = A.length := ⟨_, rfl⟩
  obtain ⟨n, hn⟩ : ∃ n, n = q % 60 + 1 := ⟨_, rfl⟩
  have hn60 : 1 ≤ n ∧ n ≤ 60 := by omega
  have HLV := Lib.hid (lives10_any w hl)
  have HL := Lib.hid hl
  have HR := Lib.hid hr1
  have HLA := Lib.hid hla
  have HBS := Lib.hid hb1
  rw [← hla]
  have e1 : IntKind.i64.wrap (((q % 60 : Nat) : Int)) = ((q % 60 : Nat) : Int) := by rw [IntKind.wrap_i64]; omega
  have e2 : IntKind.i64.wrap (1 + ((q % 60 : Nat) : Int)) = (n : Int) := by rw [IntKind.wrap_i64]; omega
  clear hl hr1 hla hb1
  go_enter Tryd.func6, Tryd.ntmps6
  by_cases h30 : la ≤ 30
  · have t1 : decide ((30 : Int) < (la : Int)) = false := by simp; omega
    go_wp2_with (first | (go_at_call 7; refine (HLV.out).mono ?_; rintro e w1 ⟨rfl, hb1⟩; have HB1 := Lib.hid hb1; clear hb1; dsimp only))
    rw [show (1 : Int) + (q : Int) % 60 = (n : Int) by omega]
    clear e1 e2 hn hs1 hs2
    have hw1 := HB1.out.size
    have hgB : 0 < w1.heap.size := Nat.lt_of_lt_of_le HL.out.lt hw1
    go_wp2_with (go_at_call 8; refine (new_ok (n := 70) (by omega) (by omega) w1).mono ?_; rintro e w2 ⟨P, rfl, hd2, hb2⟩; have HD2 := Lib.hid hd2; have HB2 := Lib.hid hb2; clear hd2 hb2; dsimp only)
    go_wp2_with (go_at_call 9; refine (jonew_ok (frm := 3) (n := n) (t := 9) HD2.out hn60.1 (by simp [Dev.fresh]; omega) (by omega)).mono ?_; rintro e w3 ⟨J, rfl, hj3, hJ, hb3⟩; have HS3 := Lib.hid (sess_start HD2.out HB2.out.size hj3 hJ hb3 (by omega) (by omega)); have HB3 : Hid (Below w1.heap.size w1 w3) := Lib.hid (HB2.out.trans (hb3.mono HB2.out.size)); clear hj3 hJ hb3; dsimp only)
    obtain ⟨B, hB⟩ : ∃ B, B = w1.heap.size := ⟨_, rfl⟩
    rw [← hB] at HS3 HB3 hgB
    have HBB := Lib.hid hB
    have hwB : w.heap.size ≤ B := by rw [hB]; exact hw1
    have HBw : Hid (∀ w', Below B w1 w' → Below w.heap.size w w' ∧ B ≤ w'.heap.size) := Lib.hid (fun w' h => ⟨HB1.out.trans (h.mono hwB), by rw [hB]; exact h.size⟩)
    obtain ⟨i0, hi1, hi2, hi3, hi4⟩ := info_parts infoR
    have HIN := Lib.hid (And.intro hi1 (And.intro hi2 (And.intro hi3 hi4)))
    clear hB hi1 hi2 hi3 hi4 hw1 HB2
    go_loopw [10, 11, 44] (fun va u x wr => ∃ (i : Nat) (us : List Value) (R : List (List Nat)) (d : Dev), i ≤ la ∧ x = .int .i64 (i : Int) ∧ u = .int .i64 (usedJ R : Int) ∧ R.length ≤ i ∧ RowsC B wr va us R ∧ Sess B wr J P true 9 3 n R R.length d ∧ Below B w1 wr) (fun _ _ x _ => la - (intOf x).toNat)
    case atStart => exact ⟨0, [], [], Dev.fresh 70, Nat.zero_le _, rfl, rfl, Nat.le_refl _, RowsC.nil B w3, HS3.out, HB3.out⟩
    case round =>
      obtain ⟨i, us, R, d, hi, rfl, rfl, hRl, hro, hs, hb⟩ := hrel
      have HRO := Lib.hid hro
      have HS := Lib.hid hs
      have HB := Lib.hid hb
      obtain ⟨ma, ca, rfl⟩ := hro.rows.slice
      obtain ⟨m, hm⟩ : ∃ m, m = R.length := ⟨_, rfl⟩
      obtain ⟨ud, hud⟩ : ∃ u, u = usedJ R := ⟨_, rfl⟩
      have hun : ud ≤ n := by rw [hud]; exact hs.jk.fit
      rw [← hm] at hRl HRO ⊢
      rw [← hud]
      have HM := Lib.hid hm
      have HU := Lib.hid hud
      clear hro hs hb hm hud
      by_cases hlt : i < la
      · obtain ⟨bs, hbs⟩ : ∃ bs, A[i]? = some bs := ⟨_, List.getElem?_eq_getElem (by rw [← HLA.out]; exact hlt)⟩
        obtain ⟨b, off, ar, cr, rfl, cc, hli⟩ := rows_get HR.out hbs
        have hsm := HBS.out bs (List.mem_of_getElem? hbs)
        have hfar := lies_far hli hwB
        have d1 : wr.cell? ⟨b, off + i, none⟩ = some (.slice ar bs.length cr) := ((HBw.out wr HB.out).1.cell (p := ⟨b, off + i, none⟩) (cell_lt cc)).trans cc
        have hlr := lies_keep hli (HBw.out wr HB.out).1
        obtain ⟨l, hl⟩ : ∃ l, l = bs.length := ⟨_, rfl⟩
        rw [← hl] at d1
        have HLR : Hid (Lies wr (.slice ar l cr) bs) := Lib.hid (by rw [hl]; exact hlr)
        have HFAR : Hid (∀ k, (Value.slice ar l cr).ownBlock = some k → bs ≠ [] → k < B) := Lib.hid (by rw [hl]; exact hfar)
        have HSM := Lib.hid hsm
        have HLL := Lib.hid hl
        clear hbs cc hli hsm hfar hlr hl
        by_cases h200 : l ≤ 200
        · have t2 : decide ((200 : Int) < (l : Int)) = false := by simp; omega
          obtain ⟨pc, hpc⟩ : ∃ p, p = pieces l := ⟨_, rfl⟩
          have hp5 : pc ≤ 5 := by rw [hpc]; exact pieces_small h200
          have HPC := Lib.hid hpc
          have hl9 : l ≤ 1000000000 := by omega
          have e3 : IntKind.i64.wrap ((ud : Int) + (pc : Int)) = ((ud + pc : Nat) : Int) := by rw [IntKind.wrap_i64]; omega
          clear hpc
          by_cases hfit : ud + pc ≤ n
          · have t3 : decide ((n : Int) < ((ud + pc : Nat) : Int)) = false := by simp; omega
            have t3n : decide ((n : Int) < (ud : Int) + (pc : Int)) = false := by simp; omega
            have hBr := (HBw.out wr HB.out).2
            have HC := Lib.hid (sess_commit HS.out hBr hgB (HL.out.below (HBw.out wr HB.out).1) HLR.out HSM.out (by rw [← HU.out, ← HLL.out, ← HPC.out]; exact hfit))
            go_wp2_with (first | (go_at_call 11; refine (HC.out).mono ?_; rintro e w4 ⟨rfl, ⟨d4, hs4⟩, hk4⟩; have HS4 := Lib.hid hs4; have HB4 : Hid (Below B w1 w4) := Lib.hid (HB.out.trans (HS.out.below hBr hk4)); have hro4 := HRO.out.sess HS.out hk4; have HRO4 := Lib.hid hro4; have HROW4 : Hid (w4.ownsRow B 33 1 (.slice ma m ca) m us) := Lib.hid (by have h := hro4.rows.row; rwa [hro4.rows.len, ← HM.out] at h); have HZ4 : Hid (B ≤ w4.heap.size) := Lib.hid (HBw.out w4 HB4.out).2; have HL4 : Hid (Lies w4 (.slice ar l cr) bs) := Lib.hid (HLR.out.only2 (hk4.only) (fun k hk hne hh => by have h1 := HFAR.out k hk hne; rcases hh with e | hh; have := HS.out.jb; omega; have := HS.out.dev.low hh; omega)); clear hs4 hk4 hro4; dsimp only) | (go_at_call 10; with_reducible refine (lcost10_any _ (m := l) hl9).mono ?_; rw [← HPC.out]; rintro e w8 ⟨rfl, rfl⟩; dsimp only) | (at_builtin; refine wpList_append_own_at _ rfl (.tmp 68) (.tmp 70) 32 rfl B 33 i0 _ 1 24 Tryd.underlying32 HIN.out.1 HIN.out.2.1 HIN.out.2.2.1 HIN.out.2.2.2 rfl (by omega) _ m us rfl (row_only HROW4.out (Only.alloc (fun _ => False) _ _) (fun _ _ e => e)) ⟨w8.heap.size, 0, none⟩ 1 1 [.slice ar l cr] rfl rfl (cell_one_new _ _ _) (by simp [Value.oneCell']) (by unfold maxLen; omega) (by omega) (by rw [World.size_alloc]; exact Nat.le_succ_of_le HZ4.out) ?_; intro v' w7 hown' hgrow _ hat; have HOWN := Lib.hid hown'; have HGR := Lib.hid hgrow; have HATT := Lib.hid hat; obtain ⟨g', cap', rfl⟩ := ownsRow_succ hown'; clear hown' hgrow hat))
            have ha := (Below.refl w8.heap.size w8).alloc (Nat.le_refl _) (.cells #[.slice ar l cr] 33)
            have hmu : m = us.length := by rw [HRO.out.rows.len, ← HM.out]
            have hap := HRO4.out.append hmu ha (lies_keep HL4.out ha) HFAR.out HGR.out HOWN.out HATT.out
            have hsg := HS4.out.grown HRO4.out ha HGR.out
            have hbg := (HB4.out.alloc HZ4.out (.cells #[.slice ar l cr] 33)).grown HGR.out (by rw [World.size_alloc]; exact Nat.le_succ_of_le HZ4.out) (fun k hk => (HRO4.out.rows.lt hk).1)
            have HAP := Lib.hid hap
            have HSG := Lib.hid hsg
            have HBG := Lib.hid hbg
            clear ha hmu hap hsg hbg
            go_roundw
            case rel => exact ⟨i + 1, us ++ [.slice ar l cr], R ++ [bs], d4, by omega, by simp, by rw [usedJ_append, usedJ_one, ← HU.out, ← HLL.out, ← HPC.out]; simp, by rw [List.length_append, List.length_singleton, ← HM.out]; omega, HAP.out, by rw [List.length_append, List.length_singleton]; exact HSG.out, HBG.out⟩
            case measure => simp [intOf]; omega
          · have t3 : decide ((n : Int) < ((ud + pc : Nat) : Int)) = true := by simp; omega
            have t3n : decide ((n : Int) < (ud : Int) + (pc : Int)) = true := by simp; omega
            have HC := Lib.hid (jocommit_full HS.out.jo HLR.out (by rw [← HU.out]; exact hun) (by omega) (by rw [← HLL.out]; exact hl9) (by rw [← HU.out, ← HLL.out, ← HPC.out]; omega))
            go_wp2_with (first | (go_at_call 11; refine (HC.out).mono ?_; rintro e w4 ⟨rfl, hb4⟩; have HB4 := Lib.hid hb4; clear hb4; dsimp only) | (go_at_call 10; with_reducible refine (lcost10_any _ (m := l) hl9).mono ?_; rw [← HPC.out]; rintro e w8 ⟨rfl, rfl⟩; dsimp only))
            go_roundw
            case rel => exact ⟨i + 1, us, R, d, by omega, by simp, by rw [← HU.out], by rw [← HM.out]; omega, HRO.out.on HB4.out, HS.out.on HB4.out, HB.out.trans (HB4.out.mono (HBw.out wr HB.out).2)⟩
            case measure => simp [intOf]; omega
        · have t2 : decide ((200 : Int) < (l : Int)) = true := by simp; omega
          go_wp2
          go_ret
          exact ⟨rfl, (HBw.out wr HB.out).1⟩
      · obtain rfl : i = la := by omega
        have hok := HS.out.dev.ok
        have HRD := Lib.hid (joread_ok (frm := 3) (n := n) HS.out.dev hn60.1 HS.out.jk.range HS.out.jk.up HS.out.sm)
        rw [HS.out.jk.reads hok rfl hn60.1, HS.out.jk.first hok rfl hn60.1] at HRD
        have HSR : Hid (∀ b ∈ R, ∀ x ∈ b, x < 256) := Lib.hid HS.out.jk.small
        have hBr := (HBw.out wr HB.out).2
        have HNX : Hid (∀ w', Below wr.heap.size wr w' → Calls Tryd.prog 14 #[.pointer (some ⟨J, 0, none⟩)] w' fun e w'' => e = .returned (.int .i64 (ud : Int)) ∧ w'' = w') := Lib.hid (fun w' h => by rw [HU.out]; exact jonext_any (HS.out.jo.on h))
        have HBG : Hid (∀ w' v us', RowsO wr.heap.size w' v us' R → Below wr.heap.size wr w' → Calls Tryd.prog 19 #[v, .slice ma m ca, .slice none 0 0] w' fun e w'' => e = .returned (.bool true) ∧ w'' = w') := Lib.hid (fun w' v us' hr hb => by
          have h := begins_any hr.at (HRO.out.on hb).rows.at (rowsAt_nil w') HSR.out HSR.out (fun b h => by simp at h) (by rw [← HM.out]; omega) (by rw [← HM.out]; omega) (by simp)
          rwa [begins_self] at h)
        clear hok
        by_cases hR : R = []
        · rw [if_pos hR] at HRD
          have hm0 : m = 0 := by rw [HM.out, hR]; rfl
          subst hm0
          clear hR
          go_wp2_with (first | (go_at_call 18; refine (HRD.out).mono ?_; rintro e w4 ⟨v, us', rfl, hro4, hb4⟩; have HRO4 := Lib.hid hro4; have HB4 := Lib.hid hb4; clear hro4 hb4; dsimp only) | (go_at_call 19; refine (HBG.out _ _ _ HRO4.out HB4.out).mono ?_; rintro e w8 ⟨rfl, rfl⟩; dsimp only) | (go_at_call 14; refine (HNX.out _ HB4.out).mono ?_; rintro e w8 ⟨rfl, rfl⟩; dsimp only))
          go_ret
          exact ⟨rfl, (HBw.out _ (HB.out.trans (HB4.out.mono hBr))).1⟩
        · rw [if_neg hR] at HRD
          have hm0 : ((m : Int) == 0) = false := by
            have : m ≠ 0 := fun e => hR (List.length_eq_zero_iff.1 (by rw [← HM.out]; exact e))
            simp; exact this
          clear hR
          go_wp2_with (first | (go_at_call 18; refine (HRD.out).mono ?_; rintro e w4 ⟨v, us', rfl, hro4, hb4⟩; have HRO4 := Lib.hid hro4; have HB4 := Lib.hid hb4; clear hro4 hb4; dsimp only) | (go_at_call 19; refine (HBG.out _ _ _ HRO4.out HB4.out).mono ?_; rintro e w8 ⟨rfl, rfl⟩; dsimp only) | (go_at_call 14; refine (HNX.out _ HB4.out).mono ?_; rintro e w8 ⟨rfl, rfl⟩; dsimp only))
          go_ret
          exact ⟨rfl, (HBw.out _ (HB.out.trans (HB4.out.mono hBr))).1⟩
  · have t1 : decide ((30 : Int) < (la : Int)) = true := by simp; omega
    have HLV2 : Hid (∀ w1, Below w.heap.size w w1 → Calls Tryd.prog 7 #[] w1 fun e w' => e = .returned (.bool true) ∧ Below w1.heap.size w1 w') := Lib.hid (fun w1 h => lives10_any w1 (HL.out.below h))
    go_wp2_with (go_at_call 7; first | (with_reducible refine (HLV.out).mono ?_; rintro e w1 ⟨rfl, hb1⟩; have HB1 := Lib.hid hb1; clear hb1; dsimp only) | (with_reducible refine (HLV2.out _ HB1.out).mono ?_; rintro e w2 ⟨rfl, hb2⟩; have HB2 := Lib.hid hb2; clear hb2; dsimp only))
    go_ret
    exact ⟨rfl, HB1.out.trans (HB2.out.mono HB1.out.size)⟩
end Go.Proofs.YtngeilhdambgfaaDoor
