/- Package tier: rightAggs. Written by py/ti-right.py. -/
import Derived.Test.YtmpphidiofhnlaaZTiAggs
import Derived.Test.YtmpphidiofhnlaaZTiRest
import Derived.Test.YtmpphidiofhnlaaMR
import Derived.Deep.DeepCutAuto
namespace Go.Proofs.Ytmpphidiofhnlaa
open Go.RowKit

/-- aggregates that may be a tier's, one behind the other -/
def chkA (t mk la : Int) : List Ag → Bool
  | [] => true
  | x :: r => rightA x && decide (startW t x.at_ = x.at_) && decide (la < x.at_) && decide (x.at_ < mk) && chkA t mk x.at_ r
theorem chk_cons (t mk la : Int) (x : Ag) (r : List Ag) : chkA t mk la (x :: r) = (rightA x && decide (startW t x.at_ = x.at_) && decide (la < x.at_) && decide (x.at_ < mk) && chkA t mk x.at_ r) := rfl
theorem start_own {t W : Int} (ht : t = 1 ∧ W = 300 ∨ t = 2 ∧ W = 3600) (x : Int) : decide (startW t x = x) = (decide (0 ≤ x) && decide (x % W = 0)) := by
  rw [Bool.eq_iff_iff]
  simp only [decide_eq_true_eq, Bool.and_eq_true]
  rcases ht with ⟨rfl, rfl⟩ | ⟨rfl, rfl⟩
  · rw [start_mid]; split <;> omega
  · rw [start_long]; split <;> omega
theorem chk_good {t W mk : Int} (ht : t = 1 ∧ W = 300 ∨ t = 2 ∧ W = 3600) (la : Int) (l : List Ag) : chkA t mk la l = (l.all (fun t => rightA t && decide (0 ≤ t.at_) && decide (t.at_ % W = 0) && decide (t.at_ < mk)) && upFrom la (l.map Ag.at_)) := by
  induction l generalizing la with
  | nil => rfl
  | cons x r ih =>
    rw [chk_cons, ih, start_own ht, List.all_cons, List.map_cons, up_cons]
    generalize (r.all fun t => rightA t && decide (0 ≤ t.at_) && decide (t.at_ % W = 0) && decide (t.at_ < mk)) = A
    generalize upFrom x.at_ (r.map Ag.at_) = B
    generalize rightA x = a
    generalize decide (0 ≤ x.at_) = b
    generalize decide (x.at_ % W = 0) = c
    generalize decide (la < x.at_) = d
    generalize decide (x.at_ < mk) = e
    cases A <;> cases B <;> cases a <;> cases b <;> cases c <;> cases d <;> cases e <;> rfl
set_option maxHeartbeats 16000000 in
set_option maxRecDepth 1000000 in
theorem tirightA_any {w : World} {t mk : Int} (ht : t = 1 ∨ t = 2) {v : Value} {L : List Ag} (hv : ALies w v L) (hf : ∀ x ∈ L, x.fits) (hL : L.length ≤ 1000000) :
    Calls Try.prog 48 #[.int .i64 t, v, .int .i64 mk] w fun e w' => e = .returned (.bool (chkA t mk (-1) L && decide (L.length ≤ 256))) ∧ Below w.heap.size w w' := by
  have HRX : Hid (∀ W (x : Ag), Calls Try.prog 74 #[.agg #[.int .i64 x.at_, .int .i64 x.n, .int .i64 x.s, .int .i64 x.lo, .int .i64 x.hi]] W fun e w' => e = .returned (.bool (rightA x)) ∧ Below W.heap.size W w') := Lib.hid fun W x => roright_any W x
  have HSX : Hid (∀ W x, x ∈ L → Calls Try.prog 66 #[.int .i64 t, .int .i64 x.at_] W fun e w' => e = .returned (.int .i64 (startW t x.at_)) ∧ w' = W) := Lib.hid fun W x hx => wistart_any W t x.at_ (by omega) (by omega) (hf x hx).a0 (hf x hx).a1
  obtain ⟨ad, b, off, cap, rfl, hadr, hpts⟩ := hv
  have HADR := Lib.hid hadr
  have HP := Lib.hid hpts
  obtain ⟨Z, hZ⟩ : ∃ Z, Z = chkA t mk (-1) L := ⟨_, rfl⟩
  rw [← hZ]
  have HZ0 := Lib.hid hZ
  obtain ⟨q, hq⟩ : ∃ q, q = decide (L.length ≤ 256) := ⟨_, rfl⟩
  have hq1 : decide ((L.length : Int) ≤ 256) = q := by rw [hq, decide_eq_decide]; omega
  rw [← hq]
  have HQ1 := Lib.hid hq1
  clear hq hq1
  clear hadr hpts hf ht hZ
  go_enter Try.func48, Try.ntmps48
  go_wp2_with fail
  go_loopw [7, 12] (fun lv c wr => ∃ (k : Nat) (la : Int), k ≤ L.length ∧ c = .int .i64 k ∧ lv = .int .i64 la ∧ Z = chkA t mk la (L.drop k) ∧ Below w.heap.size w wr) (fun _ c _ => L.length - (intOf c).toNat)
  case atStart => exact ⟨0, -1, Nat.zero_le _, rfl, rfl, HZ0.out, Below.refl _ _⟩
  case round =>
    obtain ⟨k, la, hk, rfl, rfl, hz, hb⟩ := hrel
    obtain ⟨W2, hW2⟩ : ∃ W2, W2 = wr := ⟨_, rfl⟩
    subst hW2
    have HZ := Lib.hid hz
    have HB2 := Lib.hid hb
    have HP2 := Lib.hid (HP.out.beyond hb)
    clear hz hb
    by_cases hlt : k < L.length
    · have ea := HADR.out (by intro h; simp [h] at hlt)
      subst ea
      obtain ⟨x, hx⟩ : ∃ x, L[k]? = some x := ⟨L[k], List.getElem?_eq_getElem hlt⟩
      obtain ⟨c0, c1, c2, c3, c4⟩ := HP2.out k x hx
      have HDR : Hid (L.drop k = x :: L.drop (k + 1)) := Lib.hid (by rw [List.drop_eq_getElem_cons hlt]; rw [List.getElem?_eq_getElem hlt] at hx; rw [Option.some.inj hx])
      have HST := Lib.hid fun W => HSX.out W x (List.mem_of_getElem? hx)
      have HRI := Lib.hid fun W => HRX.out W x
      have hmax : k < 9223372036854775807 := by omega
      clear hx
      go_upto_region 5 with fail
      refine wp_name fun W3 hW3 => ?_
      obtain ⟨M, hM⟩ : ∃ M, M = W2.heap.size := ⟨_, rfl⟩
      have hb3 : Below W2.heap.size W2 W3 := by rw [hW3.out]; exact (Below.refl _ _).alloc (Nat.le_refl _) _
      have HA3 : Hid (AgAt W3 M x) := Lib.hid (by rw [hW3.out, hM]; exact AgAt.new W2 x)
      have HB3 := Lib.hid (HB2.out.trans (hb3.mono HB2.out.size))
      rw [← hM]
      clear hb3 hW3 hM HB2 HP2 c0 c1 c2 c3 c4 HRX HSX
      cases hri : rightA x with
      | false =>
        have HNO : Hid (Z = false) := Lib.hid (by rw [HZ.out, HDR.out, chk_cons, hri]; rfl)
        rw [hri] at HRI
        clear hri
        refine wp_region_held_drew (S := fun W => AgAt W M x) (by kernel_rfl) HA3.out.drew (fun _ => ?_)
        refine anyH_take (i := 0) (some 16) (v := _) rfl rfl (by kernel_rfl) (by kernel_rfl) (by kernel_rfl) (fun _ _ _ h => h) (by rfl) (HA3.out.drew) (by intro w hSw; obtain ⟨q0, q1, q2, q3, q4, -, -, -, -, -⟩ := hSw.cells; go_simp; try with_reducible rfl) ?_
        (try simp only [Act.put, List.setIfInBounds_toArray, List.set_cons_zero, List.set_cons_succ])
        refine wpAnyH_ready (rs := [1]) (by kernel_rfl) (by simp) (AllReadyH.cons rfl (fun K hK => ?_) AllReadyH.nil)
        go_simp
        refine (HRI.out W3.drew).mono ?_
        rintro e W4 ⟨rfl, hb⟩
        replace hb := below_undrew hb
        have HA4 := Lib.hid (HA3.out.keep hb)
        have HB4 := Lib.hid (HB3.out.trans (hb.mono HB3.out.size))
        clear hb
        go_wp2_with fail
        refine hK.out _ _ (HA4.out) (fun _ => ?_)
        clear hK K
        (try simp only [Act.put, List.setIfInBounds_toArray, List.set_cons_zero, List.set_cons_succ])
        refine anyH_take (i := 2) (some 18) (v := _) rfl rfl (by kernel_rfl) (by kernel_rfl) (by kernel_rfl) (fun _ _ _ h => h) (by rfl) (HA4.out) (by intro w hSw; obtain ⟨q0, q1, q2, q3, q4, -, -, -, -, -⟩ := hSw.cells; go_simp; try with_reducible rfl) ?_
        (try simp only [Act.put, List.setIfInBounds_toArray, List.set_cons_zero, List.set_cons_succ])
        refine anyH_take (i := 3) (some 19) (v := _) rfl rfl (by kernel_rfl) (by kernel_rfl) (by kernel_rfl) (fun _ _ _ h => h) (by rfl) (HA4.out) (by intro w hSw; obtain ⟨q0, q1, q2, q3, q4, -, -, -, -, -⟩ := hSw.cells; go_simp; try with_reducible rfl) ?_
        (try simp only [Act.put, List.setIfInBounds_toArray, List.set_cons_zero, List.set_cons_succ])
        refine anyH_skip (i := 4) (some 20) rfl rfl (by kernel_rfl) (by kernel_rfl) (by kernel_rfl) (fun _ _ _ h => h) (by rfl) (HA4.out) ?_
        (try simp only [Act.put, List.setIfInBounds_toArray, List.set_cons_zero, List.set_cons_succ])
        refine anyH_skip (i := 5) (some 21) rfl rfl (by kernel_rfl) (by kernel_rfl) (by kernel_rfl) (fun _ _ _ h => h) (by rfl) (HA4.out) ?_
        (try simp only [Act.put, List.setIfInBounds_toArray, List.set_cons_zero, List.set_cons_succ])
        refine anyH_skip (i := 6) (some 22) rfl rfl (by kernel_rfl) (by kernel_rfl) (by kernel_rfl) (fun _ _ _ h => h) (by rfl) (HA4.out) ?_
        (try simp only [Act.put, List.setIfInBounds_toArray, List.set_cons_zero, List.set_cons_succ])
        refine anyH_skip (i := 7) (some 23) rfl rfl (by kernel_rfl) (by kernel_rfl) (by kernel_rfl) (fun _ _ _ h => h) (by rfl) (HA4.out) ?_
        (try simp only [Act.put, List.setIfInBounds_toArray, List.set_cons_zero, List.set_cons_succ])
        refine anyH_skip (i := 8) (some 24) rfl rfl (by kernel_rfl) (by kernel_rfl) (by kernel_rfl) (fun _ _ _ h => h) (by rfl) (HA4.out) ?_
        (try simp only [Act.put, List.setIfInBounds_toArray, List.set_cons_zero, List.set_cons_succ])
        refine anyH_skip (i := 9) (some 25) rfl rfl (by kernel_rfl) (by kernel_rfl) (by kernel_rfl) (fun _ _ _ h => h) (by rfl) (HA4.out) ?_
        (try simp only [Act.put, List.setIfInBounds_toArray, List.set_cons_zero, List.set_cons_succ])
        refine anyH_skip (i := 10) (some 26) rfl rfl (by kernel_rfl) (by kernel_rfl) (by kernel_rfl) (fun _ _ _ h => h) (by rfl) (HA4.out) ?_
        (try simp only [Act.put, List.setIfInBounds_toArray, List.set_cons_zero, List.set_cons_succ])
        refine anyH_take (i := 11) (some 27) (v := _) rfl rfl (by kernel_rfl) (by kernel_rfl) (by kernel_rfl) (fun _ _ _ h => h) (by rfl) (HA4.out) (by intro w hSw; obtain ⟨q0, q1, q2, q3, q4, -, -, -, -, -⟩ := hSw.cells; go_simp; try with_reducible rfl) ?_
        (try simp only [Act.put, List.setIfInBounds_toArray, List.set_cons_zero, List.set_cons_succ])
        refine anyH_take (i := 12) (some 28) (v := _) rfl rfl (by kernel_rfl) (by kernel_rfl) (by kernel_rfl) (fun _ _ _ h => h) (by rfl) (HA4.out) (by intro w hSw; obtain ⟨q0, q1, q2, q3, q4, -, -, -, -, -⟩ := hSw.cells; go_simp; try with_reducible rfl) ?_
        (try simp only [Act.put, List.setIfInBounds_toArray, List.set_cons_zero, List.set_cons_succ])
        refine anyH_skip (i := 13) (some 29) rfl rfl (by kernel_rfl) (by kernel_rfl) (by kernel_rfl) (fun _ _ _ h => h) (by rfl) (HA4.out) ?_
        (try simp only [Act.put, List.setIfInBounds_toArray, List.set_cons_zero, List.set_cons_succ])
        refine anyH_skip (i := 14) (some 30) rfl rfl (by kernel_rfl) (by kernel_rfl) (by kernel_rfl) (fun _ _ _ h => h) (by rfl) (HA4.out) ?_
        (try simp only [Act.put, List.setIfInBounds_toArray, List.set_cons_zero, List.set_cons_succ])
        refine anyH_skip (i := 15) (some 31) rfl rfl (by kernel_rfl) (by kernel_rfl) (by kernel_rfl) (fun _ _ _ h => h) (by rfl) (HA4.out) ?_
        (try simp only [Act.put, List.setIfInBounds_toArray, List.set_cons_zero, List.set_cons_succ])
        refine anyH_skip (i := 16) (some 32) rfl rfl (by kernel_rfl) (by kernel_rfl) (by kernel_rfl) (fun _ _ _ h => h) (by rfl) (HA4.out) ?_
        (try simp only [Act.put, List.setIfInBounds_toArray, List.set_cons_zero, List.set_cons_succ])
        refine anyH_take (i := 17) (some 33) (v := _) rfl rfl (by kernel_rfl) (by kernel_rfl) (by kernel_rfl) (fun _ _ _ h => h) (by rfl) (HA4.out) (by intro w hSw; obtain ⟨q0, q1, q2, q3, q4, -, -, -, -, -⟩ := hSw.cells; go_simp; try with_reducible rfl) ?_
        (try simp only [Act.put, List.setIfInBounds_toArray, List.set_cons_zero, List.set_cons_succ])
        refine anyH_take (i := 18) (some 34) (v := _) rfl rfl (by kernel_rfl) (by kernel_rfl) (by kernel_rfl) (fun _ _ _ h => h) (by rfl) (HA4.out) (by intro w hSw; obtain ⟨q0, q1, q2, q3, q4, -, -, -, -, -⟩ := hSw.cells; go_simp; try with_reducible rfl) ?_
        (try simp only [Act.put, List.setIfInBounds_toArray, List.set_cons_zero, List.set_cons_succ])
        refine anyH_skip (i := 19) (some 35) rfl rfl (by kernel_rfl) (by kernel_rfl) (by kernel_rfl) (fun _ _ _ h => h) (by rfl) (HA4.out) ?_
        (try simp only [Act.put, List.setIfInBounds_toArray, List.set_cons_zero, List.set_cons_succ])
        refine anyH_skip (i := 20) (some 36) rfl rfl (by kernel_rfl) (by kernel_rfl) (by kernel_rfl) (fun _ _ _ h => h) (by rfl) (HA4.out) ?_
        (try simp only [Act.put, List.setIfInBounds_toArray, List.set_cons_zero, List.set_cons_succ])
        refine anyH_skip (i := 21) (some 37) rfl rfl (by kernel_rfl) (by kernel_rfl) (by kernel_rfl) (fun _ _ _ h => h) (by rfl) (HA4.out) ?_
        (try simp only [Act.put, List.setIfInBounds_toArray, List.set_cons_zero, List.set_cons_succ])
        refine anyH_skip (i := 22) (some 38) rfl rfl (by kernel_rfl) (by kernel_rfl) (by kernel_rfl) (fun _ _ _ h => h) (by rfl) (HA4.out) ?_
        (try simp only [Act.put, List.setIfInBounds_toArray, List.set_cons_zero, List.set_cons_succ])
        refine anyH_take (i := 23) (some 39) (v := _) rfl rfl (by kernel_rfl) (by kernel_rfl) (by kernel_rfl) (fun _ _ _ h => h) (by rfl) (HA4.out) (by intro w hSw; obtain ⟨q0, q1, q2, q3, q4, -, -, -, -, -⟩ := hSw.cells; go_simp; try with_reducible rfl) ?_
        (try simp only [Act.put, List.setIfInBounds_toArray, List.set_cons_zero, List.set_cons_succ])
        refine wpAnyH_done (by kernel_rfl) ?_ _
        go_wp2_with fail
        go_ret
        exact ⟨by rw [HNO.out]; rfl, HB4.out⟩
      | true =>
        rw [hri] at HRI
        by_cases hst : startW t x.at_ = x.at_
        · rw [hst] at HST
          by_cases hla : x.at_ ≤ la
          · have HNO : Hid (Z = false) := Lib.hid (by rw [HZ.out, HDR.out, chk_cons, hri, decide_eq_true hst, decide_eq_false (show ¬ la < x.at_ by omega)]; rfl)
            have s2 : decide (x.at_ ≤ la) = true := decide_eq_true hla
            clear hri hst hla
            refine wp_region_held_drew (S := fun W => AgAt W M x) (by kernel_rfl) HA3.out.drew (fun _ => ?_)
            refine anyH_take (i := 0) (some 16) (v := _) rfl rfl (by kernel_rfl) (by kernel_rfl) (by kernel_rfl) (fun _ _ _ h => h) (by rfl) (HA3.out.drew) (by intro w hSw; obtain ⟨q0, q1, q2, q3, q4, -, -, -, -, -⟩ := hSw.cells; go_simp; try with_reducible rfl) ?_
            (try simp only [Act.put, List.setIfInBounds_toArray, List.set_cons_zero, List.set_cons_succ])
            refine wpAnyH_ready (rs := [1]) (by kernel_rfl) (by simp) (AllReadyH.cons rfl (fun K hK => ?_) AllReadyH.nil)
            go_simp
            refine (HRI.out W3.drew).mono ?_
            rintro e W4 ⟨rfl, hb⟩
            replace hb := below_undrew hb
            have HA4 := Lib.hid (HA3.out.keep hb)
            have HB4 := Lib.hid (HB3.out.trans (hb.mono HB3.out.size))
            clear hb
            go_wp2_with fail
            refine hK.out _ _ (HA4.out) (fun _ => ?_)
            clear hK K
            (try simp only [Act.put, List.setIfInBounds_toArray, List.set_cons_zero, List.set_cons_succ])
            refine anyH_take (i := 2) (some 18) (v := _) rfl rfl (by kernel_rfl) (by kernel_rfl) (by kernel_rfl) (fun _ _ _ h => h) (by rfl) (HA4.out) (by intro w hSw; obtain ⟨q0, q1, q2, q3, q4, -, -, -, -, -⟩ := hSw.cells; go_simp; try with_reducible rfl) ?_
            (try simp only [Act.put, List.setIfInBounds_toArray, List.set_cons_zero, List.set_cons_succ])
            refine anyH_take (i := 3) (some 19) (v := _) rfl rfl (by kernel_rfl) (by kernel_rfl) (by kernel_rfl) (fun _ _ _ h => h) (by rfl) (HA4.out) (by intro w hSw; obtain ⟨q0, q1, q2, q3, q4, -, -, -, -, -⟩ := hSw.cells; go_simp; try with_reducible rfl) ?_
            (try simp only [Act.put, List.setIfInBounds_toArray, List.set_cons_zero, List.set_cons_succ])
            refine anyH_take (i := 4) (some 20) (v := _) rfl rfl (by kernel_rfl) (by kernel_rfl) (by kernel_rfl) (fun _ _ _ h => h) (by rfl) (HA4.out) (by intro w hSw; obtain ⟨q0, q1, q2, q3, q4, -, -, -, -, -⟩ := hSw.cells; go_simp; try with_reducible rfl) ?_
            (try simp only [Act.put, List.setIfInBounds_toArray, List.set_cons_zero, List.set_cons_succ])
            refine anyH_take (i := 5) (some 21) (v := _) rfl rfl (by kernel_rfl) (by kernel_rfl) (by kernel_rfl) (fun _ _ _ h => h) (by rfl) (HA4.out) (by intro w hSw; obtain ⟨q0, q1, q2, q3, q4, -, -, -, -, -⟩ := hSw.cells; go_simp; try with_reducible rfl) ?_
            (try simp only [Act.put, List.setIfInBounds_toArray, List.set_cons_zero, List.set_cons_succ])
            refine anyH_take (i := 6) (some 22) (v := _) rfl rfl (by kernel_rfl) (by kernel_rfl) (by kernel_rfl) (fun _ _ _ h => h) (by rfl) (HA4.out) (by intro w hSw; obtain ⟨q0, q1, q2, q3, q4, -, -, -, -, -⟩ := hSw.cells; go_simp; try with_reducible rfl) ?_
            (try simp only [Act.put, List.setIfInBounds_toArray, List.set_cons_zero, List.set_cons_succ])
            refine anyH_take (i := 8) (some 24) (v := _) rfl rfl (by kernel_rfl) (by kernel_rfl) (by kernel_rfl) (fun _ _ _ h => h) (by rfl) (HA4.out) (by intro w hSw; obtain ⟨q0, q1, q2, q3, q4, -, -, -, -, -⟩ := hSw.cells; go_simp; try with_reducible rfl) ?_
            (try simp only [Act.put, List.setIfInBounds_toArray, List.set_cons_zero, List.set_cons_succ])
            refine anyH_take (i := 9) (some 25) (v := _) rfl rfl (by kernel_rfl) (by kernel_rfl) (by kernel_rfl) (fun _ _ _ h => h) (by rfl) (HA4.out) (by intro w hSw; obtain ⟨q0, q1, q2, q3, q4, -, -, -, -, -⟩ := hSw.cells; go_simp; try with_reducible rfl) ?_
            (try simp only [Act.put, List.setIfInBounds_toArray, List.set_cons_zero, List.set_cons_succ])
            refine wpAnyH_ready (rs := [7]) (by kernel_rfl) (by simp) (AllReadyH.cons rfl (fun K hK => ?_) AllReadyH.nil)
            go_simp
            refine (HST.out W4).mono ?_
            rintro e Wx ⟨rfl, hw⟩; replace hw := hw.symm; subst hw
            go_wp2_with fail
            refine hK.out _ _ (HA4.out) (fun _ => ?_)
            clear hK K
            (try simp only [Act.put, List.setIfInBounds_toArray, List.set_cons_zero, List.set_cons_succ])
            refine anyH_take (i := 10) (some 26) (v := _) rfl rfl (by kernel_rfl) (by kernel_rfl) (by kernel_rfl) (fun _ _ _ h => h) (by rfl) (HA4.out) (by intro w hSw; obtain ⟨q0, q1, q2, q3, q4, -, -, -, -, -⟩ := hSw.cells; go_simp; try with_reducible rfl) ?_
            (try simp only [Act.put, List.setIfInBounds_toArray, List.set_cons_zero, List.set_cons_succ])
            refine anyH_take (i := 11) (some 27) (v := _) rfl rfl (by kernel_rfl) (by kernel_rfl) (by kernel_rfl) (fun _ _ _ h => h) (by rfl) (HA4.out) (by intro w hSw; obtain ⟨q0, q1, q2, q3, q4, -, -, -, -, -⟩ := hSw.cells; go_simp; try with_reducible rfl) ?_
            (try simp only [Act.put, List.setIfInBounds_toArray, List.set_cons_zero, List.set_cons_succ])
            refine anyH_take (i := 12) (some 28) (v := _) rfl rfl (by kernel_rfl) (by kernel_rfl) (by kernel_rfl) (fun _ _ _ h => h) (by rfl) (HA4.out) (by intro w hSw; obtain ⟨q0, q1, q2, q3, q4, -, -, -, -, -⟩ := hSw.cells; go_simp; try with_reducible rfl) ?_
            (try simp only [Act.put, List.setIfInBounds_toArray, List.set_cons_zero, List.set_cons_succ])
            refine anyH_take (i := 13) (some 29) (v := _) rfl rfl (by kernel_rfl) (by kernel_rfl) (by kernel_rfl) (fun _ _ _ h => h) (by rfl) (HA4.out) (by intro w hSw; obtain ⟨q0, q1, q2, q3, q4, -, -, -, -, -⟩ := hSw.cells; go_simp; try with_reducible rfl) ?_
            (try simp only [Act.put, List.setIfInBounds_toArray, List.set_cons_zero, List.set_cons_succ])
            refine anyH_take (i := 14) (some 30) (v := _) rfl rfl (by kernel_rfl) (by kernel_rfl) (by kernel_rfl) (fun _ _ _ h => h) (by rfl) (HA4.out) (by intro w hSw; obtain ⟨q0, q1, q2, q3, q4, -, -, -, -, -⟩ := hSw.cells; go_simp; try with_reducible rfl) ?_
            (try simp only [Act.put, List.setIfInBounds_toArray, List.set_cons_zero, List.set_cons_succ])
            refine anyH_take (i := 15) (some 31) (v := _) rfl rfl (by kernel_rfl) (by kernel_rfl) (by kernel_rfl) (fun _ _ _ h => h) (by rfl) (HA4.out) (by intro w hSw; obtain ⟨q0, q1, q2, q3, q4, -, -, -, -, -⟩ := hSw.cells; go_simp; try with_reducible rfl) ?_
            (try simp only [Act.put, List.setIfInBounds_toArray, List.set_cons_zero, List.set_cons_succ])
            refine anyH_take (i := 16) (some 32) (v := _) rfl rfl (by kernel_rfl) (by kernel_rfl) (by kernel_rfl) (fun _ _ _ h => h) (by rfl) (HA4.out) (by intro w hSw; obtain ⟨q0, q1, q2, q3, q4, -, -, -, -, -⟩ := hSw.cells; go_simp; try with_reducible rfl) ?_
            (try simp only [Act.put, List.setIfInBounds_toArray, List.set_cons_zero, List.set_cons_succ])
            refine anyH_take (i := 17) (some 33) (v := _) rfl rfl (by kernel_rfl) (by kernel_rfl) (by kernel_rfl) (fun _ _ _ h => h) (by rfl) (HA4.out) (by intro w hSw; obtain ⟨q0, q1, q2, q3, q4, -, -, -, -, -⟩ := hSw.cells; go_simp; try with_reducible rfl) ?_
            (try simp only [Act.put, List.setIfInBounds_toArray, List.set_cons_zero, List.set_cons_succ])
            refine anyH_take (i := 18) (some 34) (v := _) rfl rfl (by kernel_rfl) (by kernel_rfl) (by kernel_rfl) (fun _ _ _ h => h) (by rfl) (HA4.out) (by intro w hSw; obtain ⟨q0, q1, q2, q3, q4, -, -, -, -, -⟩ := hSw.cells; go_simp; try with_reducible rfl) ?_
            (try simp only [Act.put, List.setIfInBounds_toArray, List.set_cons_zero, List.set_cons_succ])
            refine anyH_skip (i := 19) (some 35) rfl rfl (by kernel_rfl) (by kernel_rfl) (by kernel_rfl) (fun _ _ _ h => h) (by rfl) (HA4.out) ?_
            (try simp only [Act.put, List.setIfInBounds_toArray, List.set_cons_zero, List.set_cons_succ])
            refine anyH_skip (i := 20) (some 36) rfl rfl (by kernel_rfl) (by kernel_rfl) (by kernel_rfl) (fun _ _ _ h => h) (by rfl) (HA4.out) ?_
            (try simp only [Act.put, List.setIfInBounds_toArray, List.set_cons_zero, List.set_cons_succ])
            refine anyH_skip (i := 21) (some 37) rfl rfl (by kernel_rfl) (by kernel_rfl) (by kernel_rfl) (fun _ _ _ h => h) (by rfl) (HA4.out) ?_
            (try simp only [Act.put, List.setIfInBounds_toArray, List.set_cons_zero, List.set_cons_succ])
            refine anyH_skip (i := 22) (some 38) rfl rfl (by kernel_rfl) (by kernel_rfl) (by kernel_rfl) (fun _ _ _ h => h) (by rfl) (HA4.out) ?_
            (try simp only [Act.put, List.setIfInBounds_toArray, List.set_cons_zero, List.set_cons_succ])
            refine anyH_take (i := 23) (some 39) (v := _) rfl rfl (by kernel_rfl) (by kernel_rfl) (by kernel_rfl) (fun _ _ _ h => h) (by rfl) (HA4.out) (by intro w hSw; obtain ⟨q0, q1, q2, q3, q4, -, -, -, -, -⟩ := hSw.cells; go_simp; try with_reducible rfl) ?_
            (try simp only [Act.put, List.setIfInBounds_toArray, List.set_cons_zero, List.set_cons_succ])
            refine wpAnyH_done (by kernel_rfl) ?_ _
            go_wp2_with fail
            go_ret
            exact ⟨by rw [HNO.out]; rfl, HB4.out⟩
          · have s2 : decide (x.at_ ≤ la) = false := decide_eq_false hla
            by_cases hmk : mk ≤ x.at_
            · have HNO : Hid (Z = false) := Lib.hid (by rw [HZ.out, HDR.out, chk_cons, hri, decide_eq_true hst, decide_eq_true (show la < x.at_ by omega), decide_eq_false (show ¬ x.at_ < mk by omega)]; rfl)
              have s3 : decide (mk ≤ x.at_) = true := decide_eq_true hmk
              clear hri hst hla hmk
              refine wp_region_held_drew (S := fun W => AgAt W M x) (by kernel_rfl) HA3.out.drew (fun _ => ?_)
              refine anyH_take (i := 0) (some 16) (v := _) rfl rfl (by kernel_rfl) (by kernel_rfl) (by kernel_rfl) (fun _ _ _ h => h) (by rfl) (HA3.out.drew) (by intro w hSw; obtain ⟨q0, q1, q2, q3, q4, -, -, -, -, -⟩ := hSw.cells; go_simp; try with_reducible rfl) ?_
              (try simp only [Act.put, List.setIfInBounds_toArray, List.set_cons_zero, List.set_cons_succ])
              refine wpAnyH_ready (rs := [1]) (by kernel_rfl) (by simp) (AllReadyH.cons rfl (fun K hK => ?_) AllReadyH.nil)
              go_simp
              refine (HRI.out W3.drew).mono ?_
              rintro e W4 ⟨rfl, hb⟩
              replace hb := below_undrew hb
              have HA4 := Lib.hid (HA3.out.keep hb)
              have HB4 := Lib.hid (HB3.out.trans (hb.mono HB3.out.size))
              clear hb
              go_wp2_with fail
              refine hK.out _ _ (HA4.out) (fun _ => ?_)
              clear hK K
              (try simp only [Act.put, List.setIfInBounds_toArray, List.set_cons_zero, List.set_cons_succ])
              refine anyH_take (i := 2) (some 18) (v := _) rfl rfl (by kernel_rfl) (by kernel_rfl) (by kernel_rfl) (fun _ _ _ h => h) (by rfl) (HA4.out) (by intro w hSw; obtain ⟨q0, q1, q2, q3, q4, -, -, -, -, -⟩ := hSw.cells; go_simp; try with_reducible rfl) ?_
              (try simp only [Act.put, List.setIfInBounds_toArray, List.set_cons_zero, List.set_cons_succ])
              refine anyH_take (i := 3) (some 19) (v := _) rfl rfl (by kernel_rfl) (by kernel_rfl) (by kernel_rfl) (fun _ _ _ h => h) (by rfl) (HA4.out) (by intro w hSw; obtain ⟨q0, q1, q2, q3, q4, -, -, -, -, -⟩ := hSw.cells; go_simp; try with_reducible rfl) ?_
              (try simp only [Act.put, List.setIfInBounds_toArray, List.set_cons_zero, List.set_cons_succ])
              refine anyH_take (i := 4) (some 20) (v := _) rfl rfl (by kernel_rfl) (by kernel_rfl) (by kernel_rfl) (fun _ _ _ h => h) (by rfl) (HA4.out) (by intro w hSw; obtain ⟨q0, q1, q2, q3, q4, -, -, -, -, -⟩ := hSw.cells; go_simp; try with_reducible rfl) ?_
              (try simp only [Act.put, List.setIfInBounds_toArray, List.set_cons_zero, List.set_cons_succ])
              refine anyH_take (i := 5) (some 21) (v := _) rfl rfl (by kernel_rfl) (by kernel_rfl) (by kernel_rfl) (fun _ _ _ h => h) (by rfl) (HA4.out) (by intro w hSw; obtain ⟨q0, q1, q2, q3, q4, -, -, -, -, -⟩ := hSw.cells; go_simp; try with_reducible rfl) ?_
              (try simp only [Act.put, List.setIfInBounds_toArray, List.set_cons_zero, List.set_cons_succ])
              refine anyH_take (i := 6) (some 22) (v := _) rfl rfl (by kernel_rfl) (by kernel_rfl) (by kernel_rfl) (fun _ _ _ h => h) (by rfl) (HA4.out) (by intro w hSw; obtain ⟨q0, q1, q2, q3, q4, -, -, -, -, -⟩ := hSw.cells; go_simp; try with_reducible rfl) ?_
              (try simp only [Act.put, List.setIfInBounds_toArray, List.set_cons_zero, List.set_cons_succ])
              refine anyH_take (i := 8) (some 24) (v := _) rfl rfl (by kernel_rfl) (by kernel_rfl) (by kernel_rfl) (fun _ _ _ h => h) (by rfl) (HA4.out) (by intro w hSw; obtain ⟨q0, q1, q2, q3, q4, -, -, -, -, -⟩ := hSw.cells; go_simp; try with_reducible rfl) ?_
              (try simp only [Act.put, List.setIfInBounds_toArray, List.set_cons_zero, List.set_cons_succ])
              refine anyH_take (i := 9) (some 25) (v := _) rfl rfl (by kernel_rfl) (by kernel_rfl) (by kernel_rfl) (fun _ _ _ h => h) (by rfl) (HA4.out) (by intro w hSw; obtain ⟨q0, q1, q2, q3, q4, -, -, -, -, -⟩ := hSw.cells; go_simp; try with_reducible rfl) ?_
              (try simp only [Act.put, List.setIfInBounds_toArray, List.set_cons_zero, List.set_cons_succ])
              refine wpAnyH_ready (rs := [7]) (by kernel_rfl) (by simp) (AllReadyH.cons rfl (fun K hK => ?_) AllReadyH.nil)
              go_simp
              refine (HST.out W4).mono ?_
              rintro e Wx ⟨rfl, hw⟩; replace hw := hw.symm; subst hw
              go_wp2_with fail
              refine hK.out _ _ (HA4.out) (fun _ => ?_)
              clear hK K
              (try simp only [Act.put, List.setIfInBounds_toArray, List.set_cons_zero, List.set_cons_succ])
              refine anyH_take (i := 10) (some 26) (v := _) rfl rfl (by kernel_rfl) (by kernel_rfl) (by kernel_rfl) (fun _ _ _ h => h) (by rfl) (HA4.out) (by intro w hSw; obtain ⟨q0, q1, q2, q3, q4, -, -, -, -, -⟩ := hSw.cells; go_simp; try with_reducible rfl) ?_
              (try simp only [Act.put, List.setIfInBounds_toArray, List.set_cons_zero, List.set_cons_succ])
              refine anyH_take (i := 11) (some 27) (v := _) rfl rfl (by kernel_rfl) (by kernel_rfl) (by kernel_rfl) (fun _ _ _ h => h) (by rfl) (HA4.out) (by intro w hSw; obtain ⟨q0, q1, q2, q3, q4, -, -, -, -, -⟩ := hSw.cells; go_simp; try with_reducible rfl) ?_
              (try simp only [Act.put, List.setIfInBounds_toArray, List.set_cons_zero, List.set_cons_succ])
              refine anyH_take (i := 12) (some 28) (v := _) rfl rfl (by kernel_rfl) (by kernel_rfl) (by kernel_rfl) (fun _ _ _ h => h) (by rfl) (HA4.out) (by intro w hSw; obtain ⟨q0, q1, q2, q3, q4, -, -, -, -, -⟩ := hSw.cells; go_simp; try with_reducible rfl) ?_
              (try simp only [Act.put, List.setIfInBounds_toArray, List.set_cons_zero, List.set_cons_succ])
              refine anyH_take (i := 13) (some 29) (v := _) rfl rfl (by kernel_rfl) (by kernel_rfl) (by kernel_rfl) (fun _ _ _ h => h) (by rfl) (HA4.out) (by intro w hSw; obtain ⟨q0, q1, q2, q3, q4, -, -, -, -, -⟩ := hSw.cells; go_simp; try with_reducible rfl) ?_
              (try simp only [Act.put, List.setIfInBounds_toArray, List.set_cons_zero, List.set_cons_succ])
              refine anyH_take (i := 14) (some 30) (v := _) rfl rfl (by kernel_rfl) (by kernel_rfl) (by kernel_rfl) (fun _ _ _ h => h) (by rfl) (HA4.out) (by intro w hSw; obtain ⟨q0, q1, q2, q3, q4, -, -, -, -, -⟩ := hSw.cells; go_simp; try with_reducible rfl) ?_
              (try simp only [Act.put, List.setIfInBounds_toArray, List.set_cons_zero, List.set_cons_succ])
              refine anyH_take (i := 15) (some 31) (v := _) rfl rfl (by kernel_rfl) (by kernel_rfl) (by kernel_rfl) (fun _ _ _ h => h) (by rfl) (HA4.out) (by intro w hSw; obtain ⟨q0, q1, q2, q3, q4, -, -, -, -, -⟩ := hSw.cells; go_simp; try with_reducible rfl) ?_
              (try simp only [Act.put, List.setIfInBounds_toArray, List.set_cons_zero, List.set_cons_succ])
              refine anyH_take (i := 16) (some 32) (v := _) rfl rfl (by kernel_rfl) (by kernel_rfl) (by kernel_rfl) (fun _ _ _ h => h) (by rfl) (HA4.out) (by intro w hSw; obtain ⟨q0, q1, q2, q3, q4, -, -, -, -, -⟩ := hSw.cells; go_simp; try with_reducible rfl) ?_
              (try simp only [Act.put, List.setIfInBounds_toArray, List.set_cons_zero, List.set_cons_succ])
              refine anyH_take (i := 17) (some 33) (v := _) rfl rfl (by kernel_rfl) (by kernel_rfl) (by kernel_rfl) (fun _ _ _ h => h) (by rfl) (HA4.out) (by intro w hSw; obtain ⟨q0, q1, q2, q3, q4, -, -, -, -, -⟩ := hSw.cells; go_simp; try with_reducible rfl) ?_
              (try simp only [Act.put, List.setIfInBounds_toArray, List.set_cons_zero, List.set_cons_succ])
              refine anyH_take (i := 18) (some 34) (v := _) rfl rfl (by kernel_rfl) (by kernel_rfl) (by kernel_rfl) (fun _ _ _ h => h) (by rfl) (HA4.out) (by intro w hSw; obtain ⟨q0, q1, q2, q3, q4, -, -, -, -, -⟩ := hSw.cells; go_simp; try with_reducible rfl) ?_
              (try simp only [Act.put, List.setIfInBounds_toArray, List.set_cons_zero, List.set_cons_succ])
              refine anyH_take (i := 19) (some 35) (v := _) rfl rfl (by kernel_rfl) (by kernel_rfl) (by kernel_rfl) (fun _ _ _ h => h) (by rfl) (HA4.out) (by intro w hSw; obtain ⟨q0, q1, q2, q3, q4, -, -, -, -, -⟩ := hSw.cells; go_simp; try with_reducible rfl) ?_
              (try simp only [Act.put, List.setIfInBounds_toArray, List.set_cons_zero, List.set_cons_succ])
              refine anyH_take (i := 20) (some 36) (v := _) rfl rfl (by kernel_rfl) (by kernel_rfl) (by kernel_rfl) (fun _ _ _ h => h) (by rfl) (HA4.out) (by intro w hSw; obtain ⟨q0, q1, q2, q3, q4, -, -, -, -, -⟩ := hSw.cells; go_simp; try with_reducible rfl) ?_
              (try simp only [Act.put, List.setIfInBounds_toArray, List.set_cons_zero, List.set_cons_succ])
              refine anyH_take (i := 21) (some 37) (v := _) rfl rfl (by kernel_rfl) (by kernel_rfl) (by kernel_rfl) (fun _ _ _ h => h) (by rfl) (HA4.out) (by intro w hSw; obtain ⟨q0, q1, q2, q3, q4, -, -, -, -, -⟩ := hSw.cells; go_simp; try with_reducible rfl) ?_
              (try simp only [Act.put, List.setIfInBounds_toArray, List.set_cons_zero, List.set_cons_succ])
              refine anyH_take (i := 22) (some 38) (v := _) rfl rfl (by kernel_rfl) (by kernel_rfl) (by kernel_rfl) (fun _ _ _ h => h) (by rfl) (HA4.out) (by intro w hSw; obtain ⟨q0, q1, q2, q3, q4, -, -, -, -, -⟩ := hSw.cells; go_simp; try with_reducible rfl) ?_
              (try simp only [Act.put, List.setIfInBounds_toArray, List.set_cons_zero, List.set_cons_succ])
              refine anyH_take (i := 23) (some 39) (v := _) rfl rfl (by kernel_rfl) (by kernel_rfl) (by kernel_rfl) (fun _ _ _ h => h) (by rfl) (HA4.out) (by intro w hSw; obtain ⟨q0, q1, q2, q3, q4, -, -, -, -, -⟩ := hSw.cells; go_simp; try with_reducible rfl) ?_
              (try simp only [Act.put, List.setIfInBounds_toArray, List.set_cons_zero, List.set_cons_succ])
              refine wpAnyH_done (by kernel_rfl) ?_ _
              go_wp2_with fail
              go_ret
              exact ⟨by rw [HNO.out]; rfl, HB4.out⟩
            · have HNX : Hid (Z = chkA t mk x.at_ (L.drop (k + 1))) := Lib.hid (by rw [HZ.out, HDR.out, chk_cons, hri, decide_eq_true hst, decide_eq_true (show la < x.at_ by omega), decide_eq_true (show x.at_ < mk by omega)]; rfl)
              have s3 : decide (mk ≤ x.at_) = false := decide_eq_false hmk
              clear hri hst hla hmk
              refine wp_region_held_drew (S := fun W => AgAt W M x) (by kernel_rfl) HA3.out.drew (fun _ => ?_)
              refine anyH_take (i := 0) (some 16) (v := _) rfl rfl (by kernel_rfl) (by kernel_rfl) (by kernel_rfl) (fun _ _ _ h => h) (by rfl) (HA3.out.drew) (by intro w hSw; obtain ⟨q0, q1, q2, q3, q4, -, -, -, -, -⟩ := hSw.cells; go_simp; try with_reducible rfl) ?_
              (try simp only [Act.put, List.setIfInBounds_toArray, List.set_cons_zero, List.set_cons_succ])
              refine wpAnyH_ready (rs := [1]) (by kernel_rfl) (by simp) (AllReadyH.cons rfl (fun K hK => ?_) AllReadyH.nil)
              go_simp
              refine (HRI.out W3.drew).mono ?_
              rintro e W4 ⟨rfl, hb⟩
              replace hb := below_undrew hb
              have HA4 := Lib.hid (HA3.out.keep hb)
              have HB4 := Lib.hid (HB3.out.trans (hb.mono HB3.out.size))
              clear hb
              go_wp2_with fail
              refine hK.out _ _ (HA4.out) (fun _ => ?_)
              clear hK K
              (try simp only [Act.put, List.setIfInBounds_toArray, List.set_cons_zero, List.set_cons_succ])
              refine anyH_take (i := 2) (some 18) (v := _) rfl rfl (by kernel_rfl) (by kernel_rfl) (by kernel_rfl) (fun _ _ _ h => h) (by rfl) (HA4.out) (by intro w hSw; obtain ⟨q0, q1, q2, q3, q4, -, -, -, -, -⟩ := hSw.cells; go_simp; try with_reducible rfl) ?_
              (try simp only [Act.put, List.setIfInBounds_toArray, List.set_cons_zero, List.set_cons_succ])
              refine anyH_take (i := 3) (some 19) (v := _) rfl rfl (by kernel_rfl) (by kernel_rfl) (by kernel_rfl) (fun _ _ _ h => h) (by rfl) (HA4.out) (by intro w hSw; obtain ⟨q0, q1, q2, q3, q4, -, -, -, -, -⟩ := hSw.cells; go_simp; try with_reducible rfl) ?_
              (try simp only [Act.put, List.setIfInBounds_toArray, List.set_cons_zero, List.set_cons_succ])
              refine anyH_take (i := 4) (some 20) (v := _) rfl rfl (by kernel_rfl) (by kernel_rfl) (by kernel_rfl) (fun _ _ _ h => h) (by rfl) (HA4.out) (by intro w hSw; obtain ⟨q0, q1, q2, q3, q4, -, -, -, -, -⟩ := hSw.cells; go_simp; try with_reducible rfl) ?_
              (try simp only [Act.put, List.setIfInBounds_toArray, List.set_cons_zero, List.set_cons_succ])
              refine anyH_take (i := 5) (some 21) (v := _) rfl rfl (by kernel_rfl) (by kernel_rfl) (by kernel_rfl) (fun _ _ _ h => h) (by rfl) (HA4.out) (by intro w hSw; obtain ⟨q0, q1, q2, q3, q4, -, -, -, -, -⟩ := hSw.cells; go_simp; try with_reducible rfl) ?_
              (try simp only [Act.put, List.setIfInBounds_toArray, List.set_cons_zero, List.set_cons_succ])
              refine anyH_take (i := 6) (some 22) (v := _) rfl rfl (by kernel_rfl) (by kernel_rfl) (by kernel_rfl) (fun _ _ _ h => h) (by rfl) (HA4.out) (by intro w hSw; obtain ⟨q0, q1, q2, q3, q4, -, -, -, -, -⟩ := hSw.cells; go_simp; try with_reducible rfl) ?_
              (try simp only [Act.put, List.setIfInBounds_toArray, List.set_cons_zero, List.set_cons_succ])
              refine anyH_take (i := 8) (some 24) (v := _) rfl rfl (by kernel_rfl) (by kernel_rfl) (by kernel_rfl) (fun _ _ _ h => h) (by rfl) (HA4.out) (by intro w hSw; obtain ⟨q0, q1, q2, q3, q4, -, -, -, -, -⟩ := hSw.cells; go_simp; try with_reducible rfl) ?_
              (try simp only [Act.put, List.setIfInBounds_toArray, List.set_cons_zero, List.set_cons_succ])
              refine anyH_take (i := 9) (some 25) (v := _) rfl rfl (by kernel_rfl) (by kernel_rfl) (by kernel_rfl) (fun _ _ _ h => h) (by rfl) (HA4.out) (by intro w hSw; obtain ⟨q0, q1, q2, q3, q4, -, -, -, -, -⟩ := hSw.cells; go_simp; try with_reducible rfl) ?_
              (try simp only [Act.put, List.setIfInBounds_toArray, List.set_cons_zero, List.set_cons_succ])
              refine wpAnyH_ready (rs := [7]) (by kernel_rfl) (by simp) (AllReadyH.cons rfl (fun K hK => ?_) AllReadyH.nil)
              go_simp
              refine (HST.out W4).mono ?_
              rintro e Wx ⟨rfl, hw⟩; replace hw := hw.symm; subst hw
              go_wp2_with fail
              refine hK.out _ _ (HA4.out) (fun _ => ?_)
              clear hK K
              (try simp only [Act.put, List.setIfInBounds_toArray, List.set_cons_zero, List.set_cons_succ])
              refine anyH_take (i := 10) (some 26) (v := _) rfl rfl (by kernel_rfl) (by kernel_rfl) (by kernel_rfl) (fun _ _ _ h => h) (by rfl) (HA4.out) (by intro w hSw; obtain ⟨q0, q1, q2, q3, q4, -, -, -, -, -⟩ := hSw.cells; go_simp; try with_reducible rfl) ?_
              (try simp only [Act.put, List.setIfInBounds_toArray, List.set_cons_zero, List.set_cons_succ])
              refine anyH_take (i := 11) (some 27) (v := _) rfl rfl (by kernel_rfl) (by kernel_rfl) (by kernel_rfl) (fun _ _ _ h => h) (by rfl) (HA4.out) (by intro w hSw; obtain ⟨q0, q1, q2, q3, q4, -, -, -, -, -⟩ := hSw.cells; go_simp; try with_reducible rfl) ?_
              (try simp only [Act.put, List.setIfInBounds_toArray, List.set_cons_zero, List.set_cons_succ])
              refine anyH_take (i := 12) (some 28) (v := _) rfl rfl (by kernel_rfl) (by kernel_rfl) (by kernel_rfl) (fun _ _ _ h => h) (by rfl) (HA4.out) (by intro w hSw; obtain ⟨q0, q1, q2, q3, q4, -, -, -, -, -⟩ := hSw.cells; go_simp; try with_reducible rfl) ?_
              (try simp only [Act.put, List.setIfInBounds_toArray, List.set_cons_zero, List.set_cons_succ])
              refine anyH_take (i := 13) (some 29) (v := _) rfl rfl (by kernel_rfl) (by kernel_rfl) (by kernel_rfl) (fun _ _ _ h => h) (by rfl) (HA4.out) (by intro w hSw; obtain ⟨q0, q1, q2, q3, q4, -, -, -, -, -⟩ := hSw.cells; go_simp; try with_reducible rfl) ?_
              (try simp only [Act.put, List.setIfInBounds_toArray, List.set_cons_zero, List.set_cons_succ])
              refine anyH_take (i := 14) (some 30) (v := _) rfl rfl (by kernel_rfl) (by kernel_rfl) (by kernel_rfl) (fun _ _ _ h => h) (by rfl) (HA4.out) (by intro w hSw; obtain ⟨q0, q1, q2, q3, q4, -, -, -, -, -⟩ := hSw.cells; go_simp; try with_reducible rfl) ?_
              (try simp only [Act.put, List.setIfInBounds_toArray, List.set_cons_zero, List.set_cons_succ])
              refine anyH_take (i := 15) (some 31) (v := _) rfl rfl (by kernel_rfl) (by kernel_rfl) (by kernel_rfl) (fun _ _ _ h => h) (by rfl) (HA4.out) (by intro w hSw; obtain ⟨q0, q1, q2, q3, q4, -, -, -, -, -⟩ := hSw.cells; go_simp; try with_reducible rfl) ?_
              (try simp only [Act.put, List.setIfInBounds_toArray, List.set_cons_zero, List.set_cons_succ])
              refine anyH_take (i := 16) (some 32) (v := _) rfl rfl (by kernel_rfl) (by kernel_rfl) (by kernel_rfl) (fun _ _ _ h => h) (by rfl) (HA4.out) (by intro w hSw; obtain ⟨q0, q1, q2, q3, q4, -, -, -, -, -⟩ := hSw.cells; go_simp; try with_reducible rfl) ?_
              (try simp only [Act.put, List.setIfInBounds_toArray, List.set_cons_zero, List.set_cons_succ])
              refine anyH_take (i := 17) (some 33) (v := _) rfl rfl (by kernel_rfl) (by kernel_rfl) (by kernel_rfl) (fun _ _ _ h => h) (by rfl) (HA4.out) (by intro w hSw; obtain ⟨q0, q1, q2, q3, q4, -, -, -, -, -⟩ := hSw.cells; go_simp; try with_reducible rfl) ?_
              (try simp only [Act.put, List.setIfInBounds_toArray, List.set_cons_zero, List.set_cons_succ])
              refine anyH_take (i := 18) (some 34) (v := _) rfl rfl (by kernel_rfl) (by kernel_rfl) (by kernel_rfl) (fun _ _ _ h => h) (by rfl) (HA4.out) (by intro w hSw; obtain ⟨q0, q1, q2, q3, q4, -, -, -, -, -⟩ := hSw.cells; go_simp; try with_reducible rfl) ?_
              (try simp only [Act.put, List.setIfInBounds_toArray, List.set_cons_zero, List.set_cons_succ])
              refine anyH_take (i := 19) (some 35) (v := _) rfl rfl (by kernel_rfl) (by kernel_rfl) (by kernel_rfl) (fun _ _ _ h => h) (by rfl) (HA4.out) (by intro w hSw; obtain ⟨q0, q1, q2, q3, q4, -, -, -, -, -⟩ := hSw.cells; go_simp; try with_reducible rfl) ?_
              (try simp only [Act.put, List.setIfInBounds_toArray, List.set_cons_zero, List.set_cons_succ])
              refine anyH_take (i := 20) (some 36) (v := _) rfl rfl (by kernel_rfl) (by kernel_rfl) (by kernel_rfl) (fun _ _ _ h => h) (by rfl) (HA4.out) (by intro w hSw; obtain ⟨q0, q1, q2, q3, q4, -, -, -, -, -⟩ := hSw.cells; go_simp; try with_reducible rfl) ?_
              (try simp only [Act.put, List.setIfInBounds_toArray, List.set_cons_zero, List.set_cons_succ])
              refine anyH_take (i := 21) (some 37) (v := _) rfl rfl (by kernel_rfl) (by kernel_rfl) (by kernel_rfl) (fun _ _ _ h => h) (by rfl) (HA4.out) (by intro w hSw; obtain ⟨q0, q1, q2, q3, q4, -, -, -, -, -⟩ := hSw.cells; go_simp; try with_reducible rfl) ?_
              (try simp only [Act.put, List.setIfInBounds_toArray, List.set_cons_zero, List.set_cons_succ])
              refine anyH_take (i := 22) (some 38) (v := _) rfl rfl (by kernel_rfl) (by kernel_rfl) (by kernel_rfl) (fun _ _ _ h => h) (by rfl) (HA4.out) (by intro w hSw; obtain ⟨q0, q1, q2, q3, q4, -, -, -, -, -⟩ := hSw.cells; go_simp; try with_reducible rfl) ?_
              (try simp only [Act.put, List.setIfInBounds_toArray, List.set_cons_zero, List.set_cons_succ])
              refine anyH_take (i := 23) (some 39) (v := _) rfl rfl (by kernel_rfl) (by kernel_rfl) (by kernel_rfl) (fun _ _ _ h => h) (by rfl) (HA4.out) (by intro w hSw; obtain ⟨q0, q1, q2, q3, q4, -, -, -, -, -⟩ := hSw.cells; go_simp; try with_reducible rfl) ?_
              (try simp only [Act.put, List.setIfInBounds_toArray, List.set_cons_zero, List.set_cons_succ])
              refine wpAnyH_done (by kernel_rfl) ?_ _
              obtain ⟨c0, -, -, -, -, -, -, -, -, -⟩ := HA4.out.cells
              go_wp2_with fail
              go_roundw
              case rel => exact ⟨k + 1, x.at_, by omega, by go_num, rfl, HNX.out, HB4.out⟩
              case measure => simp [intOf]; omega
        · have HNO : Hid (Z = false) := Lib.hid (by rw [HZ.out, HDR.out, chk_cons, hri, decide_eq_false hst]; rfl)
          obtain ⟨S, hS⟩ : ∃ S, S = startW t x.at_ := ⟨_, rfl⟩
          rw [← hS] at HST hst
          have s1 : (S != x.at_) = true := by simpa using hst
          clear hri hS hst
          refine wp_region_held_drew (S := fun W => AgAt W M x) (by kernel_rfl) HA3.out.drew (fun _ => ?_)
          refine anyH_take (i := 0) (some 16) (v := _) rfl rfl (by kernel_rfl) (by kernel_rfl) (by kernel_rfl) (fun _ _ _ h => h) (by rfl) (HA3.out.drew) (by intro w hSw; obtain ⟨q0, q1, q2, q3, q4, -, -, -, -, -⟩ := hSw.cells; go_simp; try with_reducible rfl) ?_
          (try simp only [Act.put, List.setIfInBounds_toArray, List.set_cons_zero, List.set_cons_succ])
          refine wpAnyH_ready (rs := [1]) (by kernel_rfl) (by simp) (AllReadyH.cons rfl (fun K hK => ?_) AllReadyH.nil)
          go_simp
          refine (HRI.out W3.drew).mono ?_
          rintro e W4 ⟨rfl, hb⟩
          replace hb := below_undrew hb
          have HA4 := Lib.hid (HA3.out.keep hb)
          have HB4 := Lib.hid (HB3.out.trans (hb.mono HB3.out.size))
          clear hb
          go_wp2_with fail
          refine hK.out _ _ (HA4.out) (fun _ => ?_)
          clear hK K
          (try simp only [Act.put, List.setIfInBounds_toArray, List.set_cons_zero, List.set_cons_succ])
          refine anyH_take (i := 2) (some 18) (v := _) rfl rfl (by kernel_rfl) (by kernel_rfl) (by kernel_rfl) (fun _ _ _ h => h) (by rfl) (HA4.out) (by intro w hSw; obtain ⟨q0, q1, q2, q3, q4, -, -, -, -, -⟩ := hSw.cells; go_simp; try with_reducible rfl) ?_
          (try simp only [Act.put, List.setIfInBounds_toArray, List.set_cons_zero, List.set_cons_succ])
          refine anyH_take (i := 3) (some 19) (v := _) rfl rfl (by kernel_rfl) (by kernel_rfl) (by kernel_rfl) (fun _ _ _ h => h) (by rfl) (HA4.out) (by intro w hSw; obtain ⟨q0, q1, q2, q3, q4, -, -, -, -, -⟩ := hSw.cells; go_simp; try with_reducible rfl) ?_
          (try simp only [Act.put, List.setIfInBounds_toArray, List.set_cons_zero, List.set_cons_succ])
          refine anyH_take (i := 4) (some 20) (v := _) rfl rfl (by kernel_rfl) (by kernel_rfl) (by kernel_rfl) (fun _ _ _ h => h) (by rfl) (HA4.out) (by intro w hSw; obtain ⟨q0, q1, q2, q3, q4, -, -, -, -, -⟩ := hSw.cells; go_simp; try with_reducible rfl) ?_
          (try simp only [Act.put, List.setIfInBounds_toArray, List.set_cons_zero, List.set_cons_succ])
          refine anyH_take (i := 5) (some 21) (v := _) rfl rfl (by kernel_rfl) (by kernel_rfl) (by kernel_rfl) (fun _ _ _ h => h) (by rfl) (HA4.out) (by intro w hSw; obtain ⟨q0, q1, q2, q3, q4, -, -, -, -, -⟩ := hSw.cells; go_simp; try with_reducible rfl) ?_
          (try simp only [Act.put, List.setIfInBounds_toArray, List.set_cons_zero, List.set_cons_succ])
          refine anyH_take (i := 6) (some 22) (v := _) rfl rfl (by kernel_rfl) (by kernel_rfl) (by kernel_rfl) (fun _ _ _ h => h) (by rfl) (HA4.out) (by intro w hSw; obtain ⟨q0, q1, q2, q3, q4, -, -, -, -, -⟩ := hSw.cells; go_simp; try with_reducible rfl) ?_
          (try simp only [Act.put, List.setIfInBounds_toArray, List.set_cons_zero, List.set_cons_succ])
          refine anyH_take (i := 8) (some 24) (v := _) rfl rfl (by kernel_rfl) (by kernel_rfl) (by kernel_rfl) (fun _ _ _ h => h) (by rfl) (HA4.out) (by intro w hSw; obtain ⟨q0, q1, q2, q3, q4, -, -, -, -, -⟩ := hSw.cells; go_simp; try with_reducible rfl) ?_
          (try simp only [Act.put, List.setIfInBounds_toArray, List.set_cons_zero, List.set_cons_succ])
          refine anyH_take (i := 9) (some 25) (v := _) rfl rfl (by kernel_rfl) (by kernel_rfl) (by kernel_rfl) (fun _ _ _ h => h) (by rfl) (HA4.out) (by intro w hSw; obtain ⟨q0, q1, q2, q3, q4, -, -, -, -, -⟩ := hSw.cells; go_simp; try with_reducible rfl) ?_
          (try simp only [Act.put, List.setIfInBounds_toArray, List.set_cons_zero, List.set_cons_succ])
          refine wpAnyH_ready (rs := [7]) (by kernel_rfl) (by simp) (AllReadyH.cons rfl (fun K hK => ?_) AllReadyH.nil)
          go_simp
          refine (HST.out W4).mono ?_
          rintro e Wx ⟨rfl, hw⟩; replace hw := hw.symm; subst hw
          go_wp2_with fail
          refine hK.out _ _ (HA4.out) (fun _ => ?_)
          clear hK K
          (try simp only [Act.put, List.setIfInBounds_toArray, List.set_cons_zero, List.set_cons_succ])
          refine anyH_take (i := 10) (some 26) (v := _) rfl rfl (by kernel_rfl) (by kernel_rfl) (by kernel_rfl) (fun _ _ _ h => h) (by rfl) (HA4.out) (by intro w hSw; obtain ⟨q0, q1, q2, q3, q4, -, -, -, -, -⟩ := hSw.cells; go_simp; try with_reducible rfl) ?_
          (try simp only [Act.put, List.setIfInBounds_toArray, List.set_cons_zero, List.set_cons_succ])
          refine anyH_take (i := 11) (some 27) (v := _) rfl rfl (by kernel_rfl) (by kernel_rfl) (by kernel_rfl) (fun _ _ _ h => h) (by rfl) (HA4.out) (by intro w hSw; obtain ⟨q0, q1, q2, q3, q4, -, -, -, -, -⟩ := hSw.cells; go_simp; try with_reducible rfl) ?_
          (try simp only [Act.put, List.setIfInBounds_toArray, List.set_cons_zero, List.set_cons_succ])
          refine anyH_take (i := 12) (some 28) (v := _) rfl rfl (by kernel_rfl) (by kernel_rfl) (by kernel_rfl) (fun _ _ _ h => h) (by rfl) (HA4.out) (by intro w hSw; obtain ⟨q0, q1, q2, q3, q4, -, -, -, -, -⟩ := hSw.cells; go_simp; try with_reducible rfl) ?_
          (try simp only [Act.put, List.setIfInBounds_toArray, List.set_cons_zero, List.set_cons_succ])
          refine anyH_skip (i := 13) (some 29) rfl rfl (by kernel_rfl) (by kernel_rfl) (by kernel_rfl) (fun _ _ _ h => h) (by rfl) (HA4.out) ?_
          (try simp only [Act.put, List.setIfInBounds_toArray, List.set_cons_zero, List.set_cons_succ])
          refine anyH_skip (i := 14) (some 30) rfl rfl (by kernel_rfl) (by kernel_rfl) (by kernel_rfl) (fun _ _ _ h => h) (by rfl) (HA4.out) ?_
          (try simp only [Act.put, List.setIfInBounds_toArray, List.set_cons_zero, List.set_cons_succ])
          refine anyH_skip (i := 15) (some 31) rfl rfl (by kernel_rfl) (by kernel_rfl) (by kernel_rfl) (fun _ _ _ h => h) (by rfl) (HA4.out) ?_
          (try simp only [Act.put, List.setIfInBounds_toArray, List.set_cons_zero, List.set_cons_succ])
          refine anyH_skip (i := 16) (some 32) rfl rfl (by kernel_rfl) (by kernel_rfl) (by kernel_rfl) (fun _ _ _ h => h) (by rfl) (HA4.out) ?_
          (try simp only [Act.put, List.setIfInBounds_toArray, List.set_cons_zero, List.set_cons_succ])
          refine anyH_take (i := 17) (some 33) (v := _) rfl rfl (by kernel_rfl) (by kernel_rfl) (by kernel_rfl) (fun _ _ _ h => h) (by rfl) (HA4.out) (by intro w hSw; obtain ⟨q0, q1, q2, q3, q4, -, -, -, -, -⟩ := hSw.cells; go_simp; try with_reducible rfl) ?_
          (try simp only [Act.put, List.setIfInBounds_toArray, List.set_cons_zero, List.set_cons_succ])
          refine anyH_take (i := 18) (some 34) (v := _) rfl rfl (by kernel_rfl) (by kernel_rfl) (by kernel_rfl) (fun _ _ _ h => h) (by rfl) (HA4.out) (by intro w hSw; obtain ⟨q0, q1, q2, q3, q4, -, -, -, -, -⟩ := hSw.cells; go_simp; try with_reducible rfl) ?_
          (try simp only [Act.put, List.setIfInBounds_toArray, List.set_cons_zero, List.set_cons_succ])
          refine anyH_skip (i := 19) (some 35) rfl rfl (by kernel_rfl) (by kernel_rfl) (by kernel_rfl) (fun _ _ _ h => h) (by rfl) (HA4.out) ?_
          (try simp only [Act.put, List.setIfInBounds_toArray, List.set_cons_zero, List.set_cons_succ])
          refine anyH_skip (i := 20) (some 36) rfl rfl (by kernel_rfl) (by kernel_rfl) (by kernel_rfl) (fun _ _ _ h => h) (by rfl) (HA4.out) ?_
          (try simp only [Act.put, List.setIfInBounds_toArray, List.set_cons_zero, List.set_cons_succ])
          refine anyH_skip (i := 21) (some 37) rfl rfl (by kernel_rfl) (by kernel_rfl) (by kernel_rfl) (fun _ _ _ h => h) (by rfl) (HA4.out) ?_
          (try simp only [Act.put, List.setIfInBounds_toArray, List.set_cons_zero, List.set_cons_succ])
          refine anyH_skip (i := 22) (some 38) rfl rfl (by kernel_rfl) (by kernel_rfl) (by kernel_rfl) (fun _ _ _ h => h) (by rfl) (HA4.out) ?_
          (try simp only [Act.put, List.setIfInBounds_toArray, List.set_cons_zero, List.set_cons_succ])
          refine anyH_take (i := 23) (some 39) (v := _) rfl rfl (by kernel_rfl) (by kernel_rfl) (by kernel_rfl) (fun _ _ _ h => h) (by rfl) (HA4.out) (by intro w hSw; obtain ⟨q0, q1, q2, q3, q4, -, -, -, -, -⟩ := hSw.cells; go_simp; try with_reducible rfl) ?_
          (try simp only [Act.put, List.setIfInBounds_toArray, List.set_cons_zero, List.set_cons_succ])
          refine wpAnyH_done (by kernel_rfl) ?_ _
          go_wp2_with fail
          go_ret
          exact ⟨by rw [HNO.out]; rfl, HB4.out⟩
    · obtain rfl : k = L.length := by omega
      have HEND : Hid (Z = true) := Lib.hid (by rw [HZ.out, List.drop_of_length_le (Nat.le_refl _)]; rfl)
      have hq1 := HQ1.out
      go_wp2_with fail
      go_ret
      exact ⟨by rw [HEND.out]; rfl, HB2.out⟩
theorem tirightAggs_any {w : World} {t W mk : Int} (ht : t = 1 ∧ W = 300 ∨ t = 2 ∧ W = 3600) {v : Value} {L : List Ag} (hv : ALies w v L) (hf : ∀ x ∈ L, x.fits) (hL : L.length ≤ 1000000) :
    Calls Try.prog 48 #[.int .i64 t, v, .int .i64 mk] w fun e w' => e = .returned (.bool (goodAB W mk L)) ∧ Below w.heap.size w w' := by
  have h := tirightA_any (mk := mk) (ht.imp And.left And.left) hv hf hL
  rwa [chk_good ht] at h
end Go.Proofs.Ytmpphidiofhnlaa
