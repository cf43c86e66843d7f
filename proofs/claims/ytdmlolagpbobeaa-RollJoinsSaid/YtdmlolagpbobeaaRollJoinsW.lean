/- RollJoins, walked. -/
import Derived.Test.YtdmlolagpbobeaaRoLives
import Derived.Test.YtdmlolagpbobeaaRoLaw
import Derived.Test.YtdmlolagpbobeaaRoJoin
namespace Go.Proofs.Ytdmlolagpbobeaa
open Go.RowKit

/-- what Join tells of what was joined -/
def outJ (k : Int) : Option Ag → Ag
  | none => zeroAg
  | some a => { a with at_ := k }
theorem outJ_eq (k : Int) (l : List Ag) : joinR k l = outJ k (joinedA l) ∧ (joinA k l).isSome = (joinedA l).isSome := by
  unfold joinR
  rw [joinA_eq]
  cases joinedA l <;> exact ⟨rfl, rfl⟩
/-- what the law has so far -/
def wantA (o : Option Ag) : Ag := o.getD zeroAg
theorem joined_fits {l : List Ag} (h : ∀ p ∈ l, p.fits) : (wantA (joinedA l)).fits := by
  have key : ∀ g : List Ag, (∀ p ∈ g, p.fits) → ∀ a, joinedA g = some a → a.fits := by
    intro g
    refine rev_ind (P := fun g => (∀ p ∈ g, p.fits) → ∀ a, joinedA g = some a → a.fits) (fun _ a h => by cases h) (fun g x ih hg => ?_) g
    intro a ha
    rw [joinedA_snoc] at ha
    unfold joinStep at ha
    have hi := ih fun p hp => hg p (by simp [hp])
    by_cases hx : x.n < 1
    · rw [if_pos hx] at ha; exact hi a ha
    · rw [if_neg hx] at ha
      cases hj : joinedA g with
      | none => rw [hj] at ha; rw [← Option.some.inj ha]; exact hg x (by simp)
      | some c => rw [hj] at ha; rw [← Option.some.inj ha]; exact join2_fits (hi c hj) (hg x (by simp))
  unfold wantA
  cases hj : joinedA l with
  | none => exact ⟨by decide, by decide, by decide, by decide, by decide, by decide, by decide, by decide, by decide, by decide⟩
  | some a => exact key l h a hj
set_option maxHeartbeats 16000000 in
set_option maxRecDepth 1000000 in
theorem rollJoins_walk {w : World} {k : Int} (hk0 : -9223372036854775808 ≤ k) (hk1 : k ≤ 9223372036854775807) {v : Value} {l : List Ag} (hv : ALies w v l) (_hfi : Fits v) (hf : ∀ p ∈ l, p.fits) (hm : l.length ≤ maxLen) :
    Calls Try.prog 4 #[.int .i64 k, v] w fun e w' => e = .returned (.bool true) ∧ Below w.heap.size w w' := by
  have HV := Lib.hid hv
  have HF := Lib.hid hf
  obtain ⟨a, b, off, cap, rfl, hadr, hpts⟩ := hv
  have HADR := Lib.hid hadr
  have HP := Lib.hid hpts
  have hmx : l.length ≤ 9223372036854775807 := by unfold maxLen at hm; omega
  clear hadr hpts hf hm
  by_cases h60 : 60 < l.length
  · have t60 : decide (60 < (l.length : Int)) = true := decide_eq_true (by omega)
    have t61 : decide (60 < l.length) = true := decide_eq_true h60
    clear h60
    go_enter Try.func4, Try.ntmps4
    go_wp2_with fail
    refine (rolives_any w).mono ?_
    rintro e W1 ⟨rfl, hb⟩
    have HB1 := Lib.hid hb
    clear hb
    dsimp only
    go_wp2_with fail
    refine (rolives_any W1).mono ?_
    rintro e W2 ⟨rfl, hb⟩
    have HB2 := Lib.hid (HB1.out.trans (hb.mono HB1.out.size))
    clear hb
    dsimp only
    go_wp2
    go_ret
    exact ⟨rfl, HB2.out⟩
  have t60 : decide (60 < (l.length : Int)) = false := decide_eq_false (by omega)
  have t61 : decide (60 < l.length) = false := decide_eq_false h60
  have hl60 : l.length ≤ 60 := by omega
  have HJO : Hid (∀ W, Below w.heap.size w W → Calls Try.prog 13 #[.int .i64 k, .slice a l.length cap] W fun e w' => e = .returned (.tuple #[agV (joinR k l), .bool (joinA k l).isSome]) ∧ Below W.heap.size W w') := Lib.hid fun W hb => rojoin_any hk0 hk1 (HV.out.beyond hb) HF.out (by omega)
  have HK := Lib.hid (And.intro hk0 hk1)
  clear hk0 hk1 h60
  obtain ⟨R, hR⟩ : ∃ R, R = joinR k l := ⟨_, rfl⟩
  obtain ⟨S, hS⟩ : ∃ S, S = (joinA k l).isSome := ⟨_, rfl⟩
  rw [← hR, ← hS] at HJO
  have HR := Lib.hid hR
  have HS := Lib.hid hS
  clear hR hS
  go_enter Try.func4, Try.ntmps4
  go_wp2_with fail
  refine (rolives_any w).mono ?_
  rintro e W1 ⟨rfl, hb⟩
  have HB1 := Lib.hid hb
  clear hb
  dsimp only
  go_wp2_with fail
  refine (HJO.out W1 HB1.out).mono ?_
  rintro e W2 ⟨rfl, hb⟩
  have HB2 := Lib.hid (HB1.out.trans (hb.mono HB1.out.size))
  clear hb HJO HB1
  dsimp only
  unfold agV
  go_upto_region 5 with fail
  refine wp_name fun W3 hW3 => ?_
  obtain ⟨N, hN⟩ : ∃ N, N = W2.heap.size := ⟨_, rfl⟩
  obtain ⟨h1, h2, h3⟩ := two_new W2 R zeroAg hW3.out
  have HN : Hid (w.heap.size ≤ N) := Lib.hid (by rw [hN]; exact HB2.out.size)
  have HB3 := Lib.hid (HB2.out.trans (h3.mono HB2.out.size))
  rw [← hN] at h1 h2 ⊢
  have HR3 := Lib.hid h1
  have HZ3 := Lib.hid h2
  clear h1 h2 h3 hW3 hN HB2
  go_wp2_with fail
  go_loopw [8, 28] (fun d c wr => ∃ j : Nat, j ≤ l.length ∧ c = .int .i64 j ∧ d = .bool (joinedA (l.take j)).isSome ∧ AgAt wr N R ∧ AgAt wr (N + 1) (wantA (joinedA (l.take j))) ∧ Below w.heap.size w wr) (fun _ c _ => l.length - (intOf c).toNat)
  case atStart => exact ⟨0, Nat.zero_le _, rfl, rfl, HR3.out, HZ3.out, HB3.out⟩
  case round =>
    obtain ⟨j, hj, rfl, rfl, hz, ho, hb⟩ := hrel
    obtain ⟨W4, hW4⟩ : ∃ W4, W4 = wr := ⟨_, rfl⟩
    subst hW4
    have HR4 := Lib.hid hz
    have HO4 := Lib.hid ho
    have HB4 := Lib.hid hb
    have HP4 := Lib.hid (HP.out.beyond hb)
    clear hz ho hb HR3 HZ3 HB3
    by_cases hlt : j < l.length
    · have ea := HADR.out (by intro h; simp [h] at hlt)
      subst ea
      obtain ⟨p, hp⟩ : ∃ p, l[j]? = some p := ⟨l[j], List.getElem?_eq_getElem hlt⟩
      obtain ⟨c0, c1, c2, c3, c4⟩ := HP4.out j p hp
      have HPK := Lib.hid hp
      clear hp
      go_upto_region 9 with fail
      refine wp_name fun W5 hW5 => ?_
      obtain ⟨M, hM⟩ : ∃ M, M = W4.heap.size := ⟨_, rfl⟩
      have hb5 : Below W4.heap.size W4 W5 := by rw [hW5.out]; exact (Below.refl _ _).alloc (Nat.le_refl _) _
      have HR5 := Lib.hid (HR4.out.keep hb5)
      have HO5 := Lib.hid (HO4.out.keep hb5)
      have HB5 := Lib.hid (HB4.out.trans (hb5.mono HB4.out.size))
      have HM5 : Hid (AgAt W5 M p) := Lib.hid (by rw [hW5.out, hM]; exact AgAt.new W4 p)
      have hMN : ¬ M = N + 1 := by rw [hM]; have := HO4.out.lt; omega
      have hMN2 : ¬ N + 1 = M := fun h => hMN h.symm
      rw [← hM]
      clear hb5 hW5 hM c0 c1 c2 c3 c4 HR4 HO4 HP4 HB4
      obtain ⟨p0, p1, p2, p3, p4, -, -, -, -, -⟩ := HM5.out.cells
      have HPF := Lib.hid (HF.out p (List.mem_of_getElem? HPK.out))
      have HJN : Hid (joinedA (l.take (j + 1)) = joinStep (joinedA (l.take j)) p) := Lib.hid (by rw [take_snoc HPK.out, joinedA_snoc])
      have HWF : Hid (wantA (joinedA (l.take j))).fits := Lib.hid (joined_fits fun q hq => HF.out q (List.mem_of_mem_take hq))
      obtain ⟨J, hJ⟩ : ∃ J, J = joinedA (l.take j) := ⟨_, rfl⟩
      rw [← hJ] at HO5 HJN HWF ⊢
      clear hJ
      by_cases hn : p.n < 1
      · have tn : decide (p.n < 1) = true := decide_eq_true hn
        have HJS : Hid (joinedA (l.take (j + 1)) = J) := Lib.hid (by rw [HJN.out]; unfold joinStep; rw [if_pos hn])
        clear hn
        go_wp2
        go_roundw
        case rel => exact ⟨j + 1, by omega, by go_num, by rw [HJS.out], HR5.out, by rw [HJS.out]; exact HO5.out, HB5.out⟩
        case measure => simp [intOf]; omega
      · have tn : decide (p.n < 1) = false := decide_eq_false hn
        cases J with
        | none =>
          have HJS : Hid (joinedA (l.take (j + 1)) = some p) := Lib.hid (by rw [HJN.out]; unfold joinStep; rw [if_neg hn])
          clear hn
          obtain ⟨z0, z1, z2, z3, z4, g0, g1, g2, g3, g4⟩ := HO5.out.cells
          go_wp2
          have ho := setAg_only W5 (N + 1) p
          have HREL : Hid (AgAt (setAg W5 (N + 1) p) N R ∧ AgAt (setAg W5 (N + 1) p) (N + 1) (wantA (joinedA (l.take (j + 1)))) ∧ Below w.heap.size w (setAg W5 (N + 1) p)) := Lib.hid ⟨HR5.out.only ho (by omega), by rw [HJS.out]; exact setAg_at HO5.out p, HB5.out.trans (ho.below HB5.out.size (fun k hk => by have := HN.out; omega))⟩
          go_roundw
          case rel => exact ⟨j + 1, by omega, by go_num, by rw [HJS.out]; rfl, HREL.out⟩
          case measure => simp [intOf]; omega
        | some A =>
          have HJS : Hid (joinedA (l.take (j + 1)) = some (joinA2 A p)) := Lib.hid (by rw [HJN.out]; unfold joinStep; rw [if_neg hn])
          clear hn
          have HO5' : Hid (AgAt W5 (N + 1) A) := HO5
          have HAF : Hid A.fits := HWF
          clear HO5 HWF
          obtain ⟨z0, z1, z2, z3, z4, g0, g1, g2, g3, g4⟩ := HO5'.out.cells
          have HSN : Hid (∀ W, Calls Try.prog 14 #[.int .i64 A.n, .int .i64 p.n] W fun e w' => e = .returned (.int .i64 (sat (A.n + p.n))) ∧ w' = W) := Lib.hid fun W => (sum01 HAF.out.n0 HAF.out.n1 HPF.out.n0 HPF.out.n1 W).mono fun e w' h => ⟨h.1, h.2.symm⟩
          have HSS : Hid (∀ W, Calls Try.prog 14 #[.int .i64 A.s, .int .i64 p.s] W fun e w' => e = .returned (.int .i64 (sat (A.s + p.s))) ∧ w' = W) := Lib.hid fun W => (sum01 HAF.out.s0 HAF.out.s1 HPF.out.s0 HPF.out.s1 W).mono fun e w' h => ⟨h.1, h.2.symm⟩
          go_upto_region 12 with fail
          go_cut [] (fun W => AgAt W (N + 1) { A with n := sat (A.n + p.n), s := sat (A.s + p.s) } ∧ AgAt W N R ∧ AgAt W M p ∧ Below w.heap.size w W)
          case first =>
            refine wp_region_held_drew (S := fun W => AgAt W M p) (by kernel_rfl) HM5.out.drew (fun _ => ?_)
            refine anyH_name fun W7 hW7 => ?_
            have HMD : Hid (AgAt W7 M p) := Lib.hid (by rw [hW7.out]; exact HM5.out.drew)
            have HOD : Hid (AgAt W7 (N + 1) A) := Lib.hid (by rw [hW7.out]; exact HO5'.out.drew)
            have HRD : Hid (AgAt W7 N R) := Lib.hid (by rw [hW7.out]; exact HR5.out.drew)
            have HBD : Hid (Below w.heap.size w W7) := Lib.hid (by rw [hW7.out]; exact below_drew HB5.out)
            have HMS : Hid (AgAt (W7.setCell ⟨N + 1, 1, none⟩ (.int .i64 (sat (A.n + p.n)))) M p) := Lib.hid (HMD.out.only (Only.setCell (S := fun k => k = N + 1) _ rfl _) hMN)
            have HMT : Hid (AgAt ((W7.setCell ⟨N + 1, 1, none⟩ (.int .i64 (sat (A.n + p.n)))).setCell ⟨N + 1, 2, none⟩ (.int .i64 (sat (A.s + p.s)))) M p) := Lib.hid (HMS.out.only (Only.setCell (S := fun k => k = N + 1) _ rfl _) hMN)
            have hOT : Only (fun k => k = N + 1) W7 ((W7.setCell ⟨N + 1, 1, none⟩ (.int .i64 (sat (A.n + p.n)))).setCell ⟨N + 1, 2, none⟩ (.int .i64 (sat (A.s + p.s)))) := (Only.setCell (S := fun k => k = N + 1) _ rfl _).trans (Only.setCell (S := fun k => k = N + 1) _ rfl _) (fun _ _ h => h)
            have HFIN : Hid (AgAt ((W7.setCell ⟨N + 1, 1, none⟩ (.int .i64 (sat (A.n + p.n)))).setCell ⟨N + 1, 2, none⟩ (.int .i64 (sat (A.s + p.s)))) (N + 1) { A with n := sat (A.n + p.n), s := sat (A.s + p.s) } ∧ AgAt ((W7.setCell ⟨N + 1, 1, none⟩ (.int .i64 (sat (A.n + p.n)))).setCell ⟨N + 1, 2, none⟩ (.int .i64 (sat (A.s + p.s)))) N R ∧ AgAt ((W7.setCell ⟨N + 1, 1, none⟩ (.int .i64 (sat (A.n + p.n)))).setCell ⟨N + 1, 2, none⟩ (.int .i64 (sat (A.s + p.s)))) M p ∧ Below w.heap.size w ((W7.setCell ⟨N + 1, 1, none⟩ (.int .i64 (sat (A.n + p.n)))).setCell ⟨N + 1, 2, none⟩ (.int .i64 (sat (A.s + p.s))))) :=
              Lib.hid ⟨(HOD.out.setN _).setS _, HRD.out.only hOT (by omega), HMT.out, HBD.out.trans (hOT.below HBD.out.size (fun k hk => by have := HN.out; omega))⟩
            clear hOT p0 p1 p2 p3 p4 z0 z1 z2 z3 z4 g0 g1 g2 g3 g4 hW7
            obtain ⟨-, -, e2, -, -, -, -, f2, -, -⟩ := (HOD.out.setN (sat (A.n + p.n))).cells
            obtain ⟨d0, d1, d2, d3, d4, g0, g1, g2, g3, g4⟩ := HOD.out.cells
            dsimp only at e2
            refine anyH_take (i := 0) (some 38) (v := _) rfl rfl (by kernel_rfl) (by kernel_rfl) (by kernel_rfl) (fun _ _ _ h => h) (by rfl) (HMD.out) (by intro w hSw; go_simp; try with_reducible rfl) ?_
            (try simp only [Act.put, List.setIfInBounds_toArray, List.set_cons_zero, List.set_cons_succ])
            refine anyH_take (i := 2) (some 40) (v := _) rfl rfl (by kernel_rfl) (by kernel_rfl) (by kernel_rfl) (fun _ _ _ h => h) (by rfl) (HMD.out) (by intro w hSw; go_simp; try with_reducible rfl) ?_
            (try simp only [Act.put, List.setIfInBounds_toArray, List.set_cons_zero, List.set_cons_succ])
            refine anyH_take (i := 3) (some 41) (v := _) rfl rfl (by kernel_rfl) (by kernel_rfl) (by kernel_rfl) (fun _ _ _ h => h) (by rfl) (HMD.out) (by intro w hSw; obtain ⟨q0, q1, q2, q3, q4, -, -, -, -, -⟩ := AgAt.cells (t := p) hSw; go_simp; try with_reducible rfl) ?_
            (try simp only [Act.put, List.setIfInBounds_toArray, List.set_cons_zero, List.set_cons_succ])
            refine anyH_take (i := 5) (some 43) (v := _) rfl rfl (by kernel_rfl) (by kernel_rfl) (by kernel_rfl) (fun _ _ _ h => h) (by rfl) (HMD.out) (by intro w hSw; go_simp; try with_reducible rfl) ?_
            (try simp only [Act.put, List.setIfInBounds_toArray, List.set_cons_zero, List.set_cons_succ])
            refine anyH_take (i := 7) (some 45) (v := _) rfl rfl (by kernel_rfl) (by kernel_rfl) (by kernel_rfl) (fun _ _ _ h => h) (by rfl) (HMD.out) (by intro w hSw; go_simp; try with_reducible rfl) ?_
            (try simp only [Act.put, List.setIfInBounds_toArray, List.set_cons_zero, List.set_cons_succ])
            refine anyH_take (i := 8) (some 46) (v := _) rfl rfl (by kernel_rfl) (by kernel_rfl) (by kernel_rfl) (fun _ _ _ h => h) (by rfl) (HMD.out) (by intro w hSw; obtain ⟨q0, q1, q2, q3, q4, -, -, -, -, -⟩ := AgAt.cells (t := p) hSw; go_simp; try with_reducible rfl) ?_
            (try simp only [Act.put, List.setIfInBounds_toArray, List.set_cons_zero, List.set_cons_succ])
            refine wpAnyH_ready (rs := [1, 6]) (by kernel_rfl) (by simp) (AllReadyH.cons rfl (fun K hK => ?_) (AllReadyH.cons rfl (fun K hK => ?_) AllReadyH.nil))
            · refine step_runs (some 39) rfl rfl (run_load_one _ 2 (.tmp 38) rfl ⟨N + 1, 1, none⟩ rfl (.int .i64 A.n) _ d1 Try.underlying2 rfl) ?_
              refine hK.out _ _ (HMD.out) (fun _ => ?_)
              clear hK K
              (try simp only [Act.put, List.setIfInBounds_toArray, List.set_cons_zero, List.set_cons_succ])
              refine wpAnyH_ready (rs := [4, 6]) (by kernel_rfl) (by simp) (AllReadyH.cons rfl (fun K hK => ?_) (AllReadyH.cons rfl (fun K hK => ?_) AllReadyH.nil))
              · go_simp
                refine (HSN.out _).mono ?_
                rintro e w' ⟨rfl, hw⟩; replace hw := hw.symm; subst hw
                go_wp2_with fail
                refine hK.out _ _ (HMD.out) (fun _ => ?_)
                clear hK K
                (try simp only [Act.put, List.setIfInBounds_toArray, List.set_cons_zero, List.set_cons_succ])
                refine wpAnyH_ready (rs := [6]) (by kernel_rfl) (by simp) (AllReadyH.cons rfl (fun K hK => ?_) AllReadyH.nil)
                refine step_runs (some 44) rfl rfl (run_load_one _ 2 (.tmp 43) rfl ⟨N + 1, 2, none⟩ rfl (.int .i64 A.s) _ d2 Try.underlying2 rfl) ?_
                refine hK.out _ _ (HMD.out) (fun _ => ?_)
                clear hK K
                (try simp only [Act.put, List.setIfInBounds_toArray, List.set_cons_zero, List.set_cons_succ])
                refine anyH_take (i := 10) (some 48) (v := _) rfl rfl (by kernel_rfl) (by kernel_rfl) (by kernel_rfl) (fun _ _ _ h => h) (by rfl) (HMD.out) (by intro w hSw; go_simp; try with_reducible rfl) ?_
                (try simp only [Act.put, List.setIfInBounds_toArray, List.set_cons_zero, List.set_cons_succ])
                refine wpAnyH_ready (rs := [9]) (by kernel_rfl) (by simp) (AllReadyH.cons rfl (fun K hK => ?_) AllReadyH.nil)
                go_simp
                refine (HSS.out _).mono ?_
                rintro e w' ⟨rfl, hw⟩; replace hw := hw.symm; subst hw
                go_wp2_with fail
                refine hK.out _ _ (HMD.out) (fun _ => ?_)
                clear hK K
                (try simp only [Act.put, List.setIfInBounds_toArray, List.set_cons_zero, List.set_cons_succ])
                refine wpAnyH_ready (rs := [11]) (by kernel_rfl) (by simp) (AllReadyH.cons rfl (fun K hK => ?_) AllReadyH.nil)
                go_simp
                refine hK.out _ _ (HMS.out) (fun _ => ?_)
                clear hK K
                (try simp only [Act.put, List.setIfInBounds_toArray, List.set_cons_zero, List.set_cons_succ])
                refine anyH_take (i := 12) (some 49) (v := _) rfl rfl (by kernel_rfl) (by kernel_rfl) (by kernel_rfl) (fun _ _ _ h => h) (by rfl) (HMS.out) (by intro w hSw; go_simp; try with_reducible rfl) ?_
                (try simp only [Act.put, List.setIfInBounds_toArray, List.set_cons_zero, List.set_cons_succ])
                refine wpAnyH_ready (rs := [13]) (by kernel_rfl) (by simp) (AllReadyH.cons rfl (fun K hK => ?_) AllReadyH.nil)
                go_simp
                refine hK.out _ _ (HMT.out) (fun _ => ?_)
                clear hK K
                (try simp only [Act.put, List.setIfInBounds_toArray, List.set_cons_zero, List.set_cons_succ])
                refine wpAnyH_done (by kernel_rfl) ?_ _
                go_wp2_with fail
                go_meet
                exact HFIN.out
              · refine step_runs (some 44) rfl rfl (run_load_one _ 2 (.tmp 43) rfl ⟨N + 1, 2, none⟩ rfl (.int .i64 A.s) _ d2 Try.underlying2 rfl) ?_
                refine hK.out _ _ (HMD.out) (fun _ => ?_)
                clear hK K
                (try simp only [Act.put, List.setIfInBounds_toArray, List.set_cons_zero, List.set_cons_succ])
                refine wpAnyH_ready (rs := [4]) (by kernel_rfl) (by simp) (AllReadyH.cons rfl (fun K hK => ?_) AllReadyH.nil)
                go_simp
                refine (HSN.out _).mono ?_
                rintro e w' ⟨rfl, hw⟩; replace hw := hw.symm; subst hw
                go_wp2_with fail
                refine hK.out _ _ (HMD.out) (fun _ => ?_)
                clear hK K
                (try simp only [Act.put, List.setIfInBounds_toArray, List.set_cons_zero, List.set_cons_succ])
                refine anyH_take (i := 10) (some 48) (v := _) rfl rfl (by kernel_rfl) (by kernel_rfl) (by kernel_rfl) (fun _ _ _ h => h) (by rfl) (HMD.out) (by intro w hSw; go_simp; try with_reducible rfl) ?_
                (try simp only [Act.put, List.setIfInBounds_toArray, List.set_cons_zero, List.set_cons_succ])
                refine wpAnyH_ready (rs := [9]) (by kernel_rfl) (by simp) (AllReadyH.cons rfl (fun K hK => ?_) AllReadyH.nil)
                go_simp
                refine (HSS.out _).mono ?_
                rintro e w' ⟨rfl, hw⟩; replace hw := hw.symm; subst hw
                go_wp2_with fail
                refine hK.out _ _ (HMD.out) (fun _ => ?_)
                clear hK K
                (try simp only [Act.put, List.setIfInBounds_toArray, List.set_cons_zero, List.set_cons_succ])
                refine wpAnyH_ready (rs := [11]) (by kernel_rfl) (by simp) (AllReadyH.cons rfl (fun K hK => ?_) AllReadyH.nil)
                go_simp
                refine hK.out _ _ (HMS.out) (fun _ => ?_)
                clear hK K
                (try simp only [Act.put, List.setIfInBounds_toArray, List.set_cons_zero, List.set_cons_succ])
                refine anyH_take (i := 12) (some 49) (v := _) rfl rfl (by kernel_rfl) (by kernel_rfl) (by kernel_rfl) (fun _ _ _ h => h) (by rfl) (HMS.out) (by intro w hSw; go_simp; try with_reducible rfl) ?_
                (try simp only [Act.put, List.setIfInBounds_toArray, List.set_cons_zero, List.set_cons_succ])
                refine wpAnyH_ready (rs := [13]) (by kernel_rfl) (by simp) (AllReadyH.cons rfl (fun K hK => ?_) AllReadyH.nil)
                go_simp
                refine hK.out _ _ (HMT.out) (fun _ => ?_)
                clear hK K
                (try simp only [Act.put, List.setIfInBounds_toArray, List.set_cons_zero, List.set_cons_succ])
                refine wpAnyH_done (by kernel_rfl) ?_ _
                go_wp2_with fail
                go_meet
                exact HFIN.out
            · refine step_runs (some 44) rfl rfl (run_load_one _ 2 (.tmp 43) rfl ⟨N + 1, 2, none⟩ rfl (.int .i64 A.s) _ d2 Try.underlying2 rfl) ?_
              refine hK.out _ _ (HMD.out) (fun _ => ?_)
              clear hK K
              (try simp only [Act.put, List.setIfInBounds_toArray, List.set_cons_zero, List.set_cons_succ])
              refine wpAnyH_ready (rs := [1]) (by kernel_rfl) (by simp) (AllReadyH.cons rfl (fun K hK => ?_) AllReadyH.nil)
              refine step_runs (some 39) rfl rfl (run_load_one _ 2 (.tmp 38) rfl ⟨N + 1, 1, none⟩ rfl (.int .i64 A.n) _ d1 Try.underlying2 rfl) ?_
              refine hK.out _ _ (HMD.out) (fun _ => ?_)
              clear hK K
              (try simp only [Act.put, List.setIfInBounds_toArray, List.set_cons_zero, List.set_cons_succ])
              refine wpAnyH_ready (rs := [4]) (by kernel_rfl) (by simp) (AllReadyH.cons rfl (fun K hK => ?_) AllReadyH.nil)
              go_simp
              refine (HSN.out _).mono ?_
              rintro e w' ⟨rfl, hw⟩; replace hw := hw.symm; subst hw
              go_wp2_with fail
              refine hK.out _ _ (HMD.out) (fun _ => ?_)
              clear hK K
              (try simp only [Act.put, List.setIfInBounds_toArray, List.set_cons_zero, List.set_cons_succ])
              refine anyH_take (i := 10) (some 48) (v := _) rfl rfl (by kernel_rfl) (by kernel_rfl) (by kernel_rfl) (fun _ _ _ h => h) (by rfl) (HMD.out) (by intro w hSw; go_simp; try with_reducible rfl) ?_
              (try simp only [Act.put, List.setIfInBounds_toArray, List.set_cons_zero, List.set_cons_succ])
              refine wpAnyH_ready (rs := [9]) (by kernel_rfl) (by simp) (AllReadyH.cons rfl (fun K hK => ?_) AllReadyH.nil)
              go_simp
              refine (HSS.out _).mono ?_
              rintro e w' ⟨rfl, hw⟩; replace hw := hw.symm; subst hw
              go_wp2_with fail
              refine hK.out _ _ (HMD.out) (fun _ => ?_)
              clear hK K
              (try simp only [Act.put, List.setIfInBounds_toArray, List.set_cons_zero, List.set_cons_succ])
              refine wpAnyH_ready (rs := [11]) (by kernel_rfl) (by simp) (AllReadyH.cons rfl (fun K hK => ?_) AllReadyH.nil)
              go_simp
              refine hK.out _ _ (HMS.out) (fun _ => ?_)
              clear hK K
              (try simp only [Act.put, List.setIfInBounds_toArray, List.set_cons_zero, List.set_cons_succ])
              refine anyH_take (i := 12) (some 49) (v := _) rfl rfl (by kernel_rfl) (by kernel_rfl) (by kernel_rfl) (fun _ _ _ h => h) (by rfl) (HMS.out) (by intro w hSw; go_simp; try with_reducible rfl) ?_
              (try simp only [Act.put, List.setIfInBounds_toArray, List.set_cons_zero, List.set_cons_succ])
              refine wpAnyH_ready (rs := [13]) (by kernel_rfl) (by simp) (AllReadyH.cons rfl (fun K hK => ?_) AllReadyH.nil)
              go_simp
              refine hK.out _ _ (HMT.out) (fun _ => ?_)
              clear hK K
              (try simp only [Act.put, List.setIfInBounds_toArray, List.set_cons_zero, List.set_cons_succ])
              refine wpAnyH_done (by kernel_rfl) ?_ _
              go_wp2_with fail
              go_meet
              exact HFIN.out
          case rest =>
            obtain ⟨h1, h2, h3, hb⟩ := hcut
            obtain ⟨W6, hW6⟩ : ∃ W6, W6 = wc := ⟨_, rfl⟩
            subst hW6
            have HR6 := Lib.hid h2
            have HO6 := Lib.hid h1
            have HM6 := Lib.hid h3
            have HB6 := Lib.hid hb
            clear h1 h2 h3 hb z0 z1 z2 z3 z4 g0 g1 g2 g3 g4 p0 p1 p2 p3 p4 HO5' HR5 HM5 HB5
            obtain ⟨p0, p1, p2, p3, p4, -, -, -, -, -⟩ := HM6.out.cells
            obtain ⟨z0, z1, z2, z3, z4, g0, g1, g2, g3, g4⟩ := HO6.out.cells
            dsimp only at z0 z1 z2 z3 z4
            by_cases hlo : p.lo < A.lo
            · have tlo : decide (p.lo < A.lo) = true := decide_eq_true hlo
              by_cases hhi : A.hi < p.hi
              · have thi : decide (A.hi < p.hi) = true := decide_eq_true hhi
                have e1 : Hid (joinA2 A p = ⟨A.at_, sat (A.n + p.n), sat (A.s + p.s), p.lo, p.hi⟩) := Lib.hid (by unfold joinA2; rw [if_pos hlo, if_pos hhi])
                clear hlo hhi
                go_wp2
                have ho : Only (fun k => k = N + 1) W6 ((W6.setCell ⟨N + 1, 3, none⟩ (.int .i64 p.lo)).setCell ⟨N + 1, 4, none⟩ (.int .i64 p.hi)) := (Only.setCell (S := fun k => k = N + 1) _ rfl _).trans (Only.setCell (S := fun k => k = N + 1) _ rfl _) (fun _ _ h => h)
                have ha := (HO6.out.setLo p.lo).setHi p.hi
                have hr := HR6.out.only ho (by omega)
                have hb := HB6.out.trans (ho.below HB6.out.size (fun k hk => by have := HN.out; omega))
                go_roundw
                case rel => exact ⟨j + 1, by omega, by go_num, by rw [HJS.out]; rfl, hr, by rw [HJS.out]; show AgAt _ _ (joinA2 A p); rw [e1.out]; exact ha, hb⟩
                case measure => simp [intOf]; omega
              · have thi : decide (A.hi < p.hi) = false := decide_eq_false hhi
                have e1 : Hid (joinA2 A p = ⟨A.at_, sat (A.n + p.n), sat (A.s + p.s), p.lo, A.hi⟩) := Lib.hid (by unfold joinA2; rw [if_pos hlo, if_neg hhi])
                clear hlo hhi
                go_wp2
                have ho : Only (fun k => k = N + 1) W6 (W6.setCell ⟨N + 1, 3, none⟩ (.int .i64 p.lo)) := Only.setCell (S := fun k => k = N + 1) _ rfl _
                have ha := HO6.out.setLo p.lo
                have hr := HR6.out.only ho (by omega)
                have hb := HB6.out.trans (ho.below HB6.out.size (fun k hk => by have := HN.out; omega))
                go_roundw
                case rel => exact ⟨j + 1, by omega, by go_num, by rw [HJS.out]; rfl, hr, by rw [HJS.out]; show AgAt _ _ (joinA2 A p); rw [e1.out]; exact ha, hb⟩
                case measure => simp [intOf]; omega
            · have tlo : decide (p.lo < A.lo) = false := decide_eq_false hlo
              by_cases hhi : A.hi < p.hi
              · have thi : decide (A.hi < p.hi) = true := decide_eq_true hhi
                have e1 : Hid (joinA2 A p = ⟨A.at_, sat (A.n + p.n), sat (A.s + p.s), A.lo, p.hi⟩) := Lib.hid (by unfold joinA2; rw [if_neg hlo, if_pos hhi])
                clear hlo hhi
                go_wp2
                have ho : Only (fun k => k = N + 1) W6 (W6.setCell ⟨N + 1, 4, none⟩ (.int .i64 p.hi)) := Only.setCell (S := fun k => k = N + 1) _ rfl _
                have ha := HO6.out.setHi p.hi
                have hr := HR6.out.only ho (by omega)
                have hb := HB6.out.trans (ho.below HB6.out.size (fun k hk => by have := HN.out; omega))
                go_roundw
                case rel => exact ⟨j + 1, by omega, by go_num, by rw [HJS.out]; rfl, hr, by rw [HJS.out]; show AgAt _ _ (joinA2 A p); rw [e1.out]; exact ha, hb⟩
                case measure => simp [intOf]; omega
              · have thi : decide (A.hi < p.hi) = false := decide_eq_false hhi
                have e1 : Hid (joinA2 A p = ⟨A.at_, sat (A.n + p.n), sat (A.s + p.s), A.lo, A.hi⟩) := Lib.hid (by unfold joinA2; rw [if_neg hlo, if_neg hhi])
                clear hlo hhi
                go_wp2
                go_roundw
                case rel => exact ⟨j + 1, by omega, by go_num, by rw [HJS.out]; rfl, HR6.out, by rw [HJS.out]; show AgAt _ _ (joinA2 A p); rw [e1.out]; exact HO6.out, HB6.out⟩
                case measure => simp [intOf]; omega
    · obtain rfl : j = l.length := by omega
      have HO6' : Hid (AgAt W4 (N + 1) (wantA (joinedA l))) := Lib.hid (by have h := HO4.out; rwa [List.take_of_length_le (Nat.le_refl _)] at h)
      rw [List.take_of_length_le (Nat.le_refl _)]
      have HRJ' : Hid (R = outJ k (joinedA l)) := Lib.hid (HR.out.trans (outJ_eq k l).1)
      have HSJ' : Hid (S = (joinedA l).isSome) := Lib.hid (HS.out.trans (outJ_eq k l).2)
      obtain ⟨J, HO6, HRJ, HSJ, hJJ⟩ : ∃ J, Hid (AgAt W4 (N + 1) (wantA J)) ∧ Hid (R = outJ k J) ∧ Hid (S = J.isSome) ∧ joinedA l = J := ⟨_, HO6', HRJ', HSJ', rfl⟩
      rw [hJJ]
      clear hJJ HO4 HP4 HO6' HRJ' HSJ'
      obtain ⟨r0, r1, r2, r3, r4, -, -, -, -, -⟩ := HR4.out.cells
      cases J with
      | none =>
        obtain rfl : S = false := HSJ.out
        obtain rfl : R = zeroAg := HRJ.out
        have HO7 : Hid (AgAt W4 (N + 1) zeroAg) := HO6
        obtain ⟨z0, z1, z2, z3, z4, g0, g1, g2, g3, g4⟩ := HO7.out.cells
        go_wp2
        go_ret
        exact ⟨rfl, HB4.out⟩
      | some A =>
        obtain rfl : S = true := HSJ.out
        obtain rfl : R = { A with at_ := k } := HRJ.out
        have HO7 : Hid (AgAt W4 (N + 1) A) := HO6
        dsimp only at r0 r1 r2 r3 r4
        obtain ⟨z0, z1, z2, z3, z4, g0, g1, g2, g3, g4⟩ := HO7.out.cells
        go_wp2
        go_ret
        exact ⟨rfl, HB4.out.trans ((Only.setCell (S := fun k => k = N + 1) _ rfl _).below HB4.out.size (fun k hk => by have := HN.out; omega))⟩
end Go.Proofs.Ytdmlolagpbobeaa
