/- The law's own aggregate of points. Written by py/roll-law.py. -/
import Derived.Test.YtdmlolagpbobeaaRoVal
import Derived.Test.YtdmlolagpbobeaaPtRow
import Derived.Test.YtdmlolagpbobeaaNumSum
namespace Go.Proofs.Ytdmlolagpbobeaa
open Go.RowKit

theorem AgAt.setN {w : World} {P : Nat} {t : Ag} (h : AgAt w P t) (x : Int) : AgAt (w.setCell ⟨P, 1, none⟩ (.int .i64 x)) P { t with n := x } := by
  have h1 := heap_setCell_same w P 1 _ _ (.int .i64 x) h
  unfold AgAt; rw [h1]; simp
theorem AgAt.setS {w : World} {P : Nat} {t : Ag} (h : AgAt w P t) (x : Int) : AgAt (w.setCell ⟨P, 2, none⟩ (.int .i64 x)) P { t with s := x } := by
  have h1 := heap_setCell_same w P 2 _ _ (.int .i64 x) h
  unfold AgAt; rw [h1]; simp
theorem AgAt.setLo {w : World} {P : Nat} {t : Ag} (h : AgAt w P t) (x : Int) : AgAt (w.setCell ⟨P, 3, none⟩ (.int .i64 x)) P { t with lo := x } := by
  have h1 := heap_setCell_same w P 3 _ _ (.int .i64 x) h
  unfold AgAt; rw [h1]; simp
theorem AgAt.setHi {w : World} {P : Nat} {t : Ag} (h : AgAt w P t) (x : Int) : AgAt (w.setCell ⟨P, 4, none⟩ (.int .i64 x)) P { t with hi := x } := by
  have h1 := heap_setCell_same w P 4 _ _ (.int .i64 x) h
  unfold AgAt; rw [h1]; simp
theorem AgAt.setAt {w : World} {P : Nat} {t : Ag} (h : AgAt w P t) (x : Int) : AgAt (w.setCell ⟨P, 0, none⟩ (.int .i64 x)) P { t with at_ := x } := by
  have h1 := heap_setCell_same w P 0 _ _ (.int .i64 x) h
  unfold AgAt; rw [h1]; simp
/-- a step of the law's loop -/
theorem law_first {k v : Int} : stepA (noAg k) v = ⟨k, 1, v, v, v⟩ := by unfold stepA noAg; rw [if_pos rfl]
theorem law_step {a : Ag} {v : Int} (h : 1 ≤ a.n) : stepA a v = ⟨a.at_, a.n + 1, sat (a.s + v), if v < a.lo then v else a.lo, if a.hi < v then v else a.hi⟩ := by unfold stepA; rw [if_neg (by omega)]
set_option maxHeartbeats 16000000 in
set_option maxRecDepth 1000000 in
theorem lpts_any {w : World} {k : Int} (hk0 : -9223372036854775808 ≤ k) (hk1 : k ≤ 9223372036854775807) {v : Value} {l : List Pt} (hv : PLies w v l) (hf : ∀ p ∈ l, p.fits) (hl : l.length ≤ 1000000000) :
    Calls Try.prog 10 #[.int .i64 k, v] w fun e w' => e = .returned (agV (ofA k l)) ∧ Below w.heap.size w w' := by
  obtain ⟨a, b, off, cap, rfl, hadr, hpts⟩ := hv
  have HADR := Lib.hid hadr
  have HP := Lib.hid hpts
  have HF := Lib.hid hf
  have HK := Lib.hid (And.intro hk0 hk1)
  have hlen : l.length ≤ 1000000000 := hl
  have HSU : Hid (∀ (a b : Int), -9223372036854775808 ≤ a → a ≤ 9223372036854775807 → -9223372036854775808 ≤ b → b ≤ 9223372036854775807 → ∀ W, Calls Try.prog 14 #[.int .i64 a, .int .i64 b] W fun e w' => e = .returned (.int .i64 (sat (a + b))) ∧ w' = W) := Lib.hid fun a b h0 h1 h2 h3 W => (sum01 h0 h1 h2 h3 W).mono fun e w' h => ⟨h.1, h.2.symm⟩
  clear hadr hpts hf hl hk0 hk1
  obtain ⟨G, hG⟩ : ∃ G, G = ofA k l := ⟨_, rfl⟩
  rw [← hG]
  have HG := Lib.hid hG
  clear hG
  unfold agV
  go_enter Try.func10, Try.ntmps10
  go_upto_region 2 with fail
  refine wp_name fun W1 hW1 => ?_
  obtain ⟨N, hN⟩ : ∃ N, N = w.heap.size := ⟨_, rfl⟩
  obtain ⟨h1, h2, h3⟩ := two_new w zeroAg (noAg k) hW1.out
  have HN := Lib.hid hN
  rw [← hN] at h1 h2 ⊢
  have H1 := Lib.hid h1
  have H2 := Lib.hid h2
  have H3 := Lib.hid h3
  clear h1 h2 h3 hW1 hN
  go_wp2_with fail
  go_loopw [12] (fun c wr => ∃ j : Nat, j ≤ l.length ∧ c = .int .i64 j ∧ AgAt wr N zeroAg ∧ AgAt wr (N + 1) (ofA k (l.take j)) ∧ Below w.heap.size w wr) (fun c _ => l.length - (intOf c).toNat)
  case atStart => exact ⟨0, Nat.zero_le _, rfl, H1.out, H2.out, H3.out⟩
  case round =>
    obtain ⟨j, hj, rfl, hz, ho, hb⟩ := hrel
    obtain ⟨W3, hW3⟩ : ∃ W3, W3 = wr := ⟨_, rfl⟩
    subst hW3
    have HZ3 := Lib.hid hz
    have HO3 := Lib.hid ho
    have HB3 := Lib.hid hb
    have HP3 := Lib.hid (HP.out.beyond hb)
    clear hz ho hb H1 H2 H3
    by_cases hlt : j < l.length
    · have ea := HADR.out (by intro h; simp [h] at hlt)
      subst ea
      obtain ⟨p, hp⟩ : ∃ p, l[j]? = some p := ⟨l[j], List.getElem?_eq_getElem hlt⟩
      obtain ⟨c0, c1⟩ := HP3.out j p hp
      have HPK := Lib.hid hp
      clear hp
      go_upto_region 5 with fail
      refine wp_name fun W4 hW4 => ?_
      obtain ⟨M, hM⟩ : ∃ M, M = W3.heap.size := ⟨_, rfl⟩
      have hb4 : Below W3.heap.size W3 W4 := by rw [hW4.out]; exact (Below.refl _ _).alloc (Nat.le_refl _) _
      have HZ4 := Lib.hid (HZ3.out.keep hb4)
      have HO4 := Lib.hid (HO3.out.keep hb4)
      have HB4 := Lib.hid (HB3.out.trans (hb4.mono HB3.out.size))
      have p1 : W4.cell? ⟨M, 1, none⟩ = some (.int .i64 p.v) := by rw [hW4.out, hM]; exact (cells2 (heap_alloc_new W3 _)).2.1
      have hMN : M ≠ N + 1 := by rw [hM]; have := HO3.out.lt; omega
      have hMN2 : ¬ N + 1 = M := fun h => hMN h.symm
      rw [← hM]
      clear hb4 hW4 hM c0 c1 HZ3 HO3 HP3
      have HPF := Lib.hid (HF.out p (List.mem_of_getElem? HPK.out))
      obtain ⟨A, hA⟩ : ∃ A, A = ofA k (l.take j) := ⟨_, rfl⟩
      have HAS : Hid (ofA k (l.take (j + 1)) = stepA A p.v) := Lib.hid (by rw [hA, take_snoc HPK.out]; exact ofA_snoc _ _ _)
      have HAN : Hid (A.n = j) := Lib.hid (by rw [hA, ofA_n, List.length_take]; omega)
      have HAF : Hid A.fits := Lib.hid (by rw [hA]; exact ofA_fits HK.out.1 HK.out.2 (fun p hp => HF.out p (List.mem_of_mem_take hp)) (by rw [List.length_take]; omega))
      rw [← hA] at HO4
      have HSC := Lib.hid (HSU.out A.s p.v HAF.out.s0 HAF.out.s1 HPF.out.2.2.1 HPF.out.2.2.2)
      obtain ⟨z0, z1, z2, z3, z4, g0, g1, g2, g3, g4⟩ := HO4.out.cells
      by_cases hj0 : j = 0
      · subst hj0
        obtain rfl : A = noAg k := by rw [hA]; rfl
        have HV : Hid (sat ((noAg k).s + p.v) = p.v) := Lib.hid (by show sat (0 + p.v) = p.v; rw [Int.zero_add]; exact sat_in HPF.out.2.2.1 HPF.out.2.2.2)
        have HV2 : Hid (sat p.v = p.v) := Lib.hid (sat_in HPF.out.2.2.1 HPF.out.2.2.2)
        have HFS : Hid (stepA (noAg k) p.v = ⟨k, 1, p.v, p.v, p.v⟩) := Lib.hid law_first
        clear hA
        unfold noAg at HO4 HSC HAS HFS z0 z1 z2 z3 z4
        dsimp only at HO4 HSC z0 z1 z2 z3 z4
        go_wp2_with fail
        refine (HSC.out _).mono ?_
        rintro e Wx ⟨rfl, hw⟩; replace hw := hw.symm; subst hw
        dsimp only
        go_wp2_with fail
        have ho : Only (fun x => x = N + 1) W4 (((((W4).setCell ⟨N + 1, 1, none⟩ (.int .i64 1)).setCell ⟨N + 1, 2, none⟩ (.int .i64 (sat p.v))).setCell ⟨N + 1, 3, none⟩ (.int .i64 p.v)).setCell ⟨N + 1, 4, none⟩ (.int .i64 p.v)) := ((((Only.refl (fun x => x = N + 1) W4).trans (Only.setCell (S := fun x => x = N + 1) (W4) (p := ⟨N + 1, 1, none⟩) rfl (.int .i64 1)) (fun _ _ h => h)).trans (Only.setCell (S := fun x => x = N + 1) ((W4).setCell ⟨N + 1, 1, none⟩ (.int .i64 1)) (p := ⟨N + 1, 2, none⟩) rfl (.int .i64 (sat p.v))) (fun _ _ h => h)).trans (Only.setCell (S := fun x => x = N + 1) (((W4).setCell ⟨N + 1, 1, none⟩ (.int .i64 1)).setCell ⟨N + 1, 2, none⟩ (.int .i64 (sat p.v))) (p := ⟨N + 1, 3, none⟩) rfl (.int .i64 p.v)) (fun _ _ h => h)).trans (Only.setCell (S := fun x => x = N + 1) ((((W4).setCell ⟨N + 1, 1, none⟩ (.int .i64 1)).setCell ⟨N + 1, 2, none⟩ (.int .i64 (sat p.v))).setCell ⟨N + 1, 3, none⟩ (.int .i64 p.v)) (p := ⟨N + 1, 4, none⟩) rfl (.int .i64 p.v)) (fun _ _ h => h)
        have ha : AgAt (((((W4).setCell ⟨N + 1, 1, none⟩ (.int .i64 1)).setCell ⟨N + 1, 2, none⟩ (.int .i64 (sat p.v))).setCell ⟨N + 1, 3, none⟩ (.int .i64 p.v)).setCell ⟨N + 1, 4, none⟩ (.int .i64 p.v)) (N + 1) ⟨k, 1, p.v, p.v, p.v⟩ := by have h := ((((((((HO4.out).setN 1)).setS (sat p.v))).setLo p.v)).setHi p.v); rw [HV2.out] at h ⊢; exact h
        have hz := HZ4.out.only ho (by omega)
        have hb := HB4.out.trans (ho.below HB4.out.size (fun k hk => by have := HN.out; omega))
        go_roundw
        case rel => exact ⟨1, by omega, by go_num, hz, by rw [show ofA k (l.take 1) = _ from HAS.out, HFS.out]; exact ha, hb⟩
        case measure => simp [intOf]; omega
      · have hn1 : 1 ≤ A.n := by rw [HAN.out]; omega
        have HST := Lib.hid (HAS.out.trans (law_step hn1))
        obtain ⟨q, hq⟩ : ∃ q, q = A.n := ⟨_, rfl⟩
        have hqj : q = (j : Int) := by rw [hq]; exact HAN.out
        have e1 : wrap64 (A.n + 1) = A.n + 1 := by have := HAN.out; first | (apply wrap64_id <;> omega) | (unfold wrap64; omega)
        have tj : ((j : Int) == 0) = false := by simp; omega
        have hjn : ¬ (j : Int) = 0 := by omega
        clear hA hn1 hq hqj q
        by_cases hlo : p.v < A.lo
        · have tlo : decide (p.v < A.lo) = true := decide_eq_true hlo
          by_cases hhi : A.hi < p.v
          · have thi : decide (A.hi < p.v) = true := decide_eq_true hhi
            rw [if_pos hlo, if_pos hhi] at HST
            clear hlo hhi
            go_wp2_with fail
            refine (HSC.out _).mono ?_
            rintro e Wx ⟨rfl, hw⟩; replace hw := hw.symm; subst hw
            dsimp only
            go_wp2_with fail
            have ho : Only (fun x => x = N + 1) W4 (((((W4).setCell ⟨N + 1, 1, none⟩ (.int .i64 (A.n + 1))).setCell ⟨N + 1, 2, none⟩ (.int .i64 (sat (A.s + p.v)))).setCell ⟨N + 1, 3, none⟩ (.int .i64 p.v)).setCell ⟨N + 1, 4, none⟩ (.int .i64 p.v)) := ((((Only.refl (fun x => x = N + 1) W4).trans (Only.setCell (S := fun x => x = N + 1) (W4) (p := ⟨N + 1, 1, none⟩) rfl (.int .i64 (A.n + 1))) (fun _ _ h => h)).trans (Only.setCell (S := fun x => x = N + 1) ((W4).setCell ⟨N + 1, 1, none⟩ (.int .i64 (A.n + 1))) (p := ⟨N + 1, 2, none⟩) rfl (.int .i64 (sat (A.s + p.v)))) (fun _ _ h => h)).trans (Only.setCell (S := fun x => x = N + 1) (((W4).setCell ⟨N + 1, 1, none⟩ (.int .i64 (A.n + 1))).setCell ⟨N + 1, 2, none⟩ (.int .i64 (sat (A.s + p.v)))) (p := ⟨N + 1, 3, none⟩) rfl (.int .i64 p.v)) (fun _ _ h => h)).trans (Only.setCell (S := fun x => x = N + 1) ((((W4).setCell ⟨N + 1, 1, none⟩ (.int .i64 (A.n + 1))).setCell ⟨N + 1, 2, none⟩ (.int .i64 (sat (A.s + p.v)))).setCell ⟨N + 1, 3, none⟩ (.int .i64 p.v)) (p := ⟨N + 1, 4, none⟩) rfl (.int .i64 p.v)) (fun _ _ h => h)
            have ha : AgAt (((((W4).setCell ⟨N + 1, 1, none⟩ (.int .i64 (A.n + 1))).setCell ⟨N + 1, 2, none⟩ (.int .i64 (sat (A.s + p.v)))).setCell ⟨N + 1, 3, none⟩ (.int .i64 p.v)).setCell ⟨N + 1, 4, none⟩ (.int .i64 p.v)) (N + 1) ⟨A.at_, A.n + 1, sat (A.s + p.v), p.v, p.v⟩ := ((((((((HO4.out).setN (A.n + 1))).setS (sat (A.s + p.v)))).setLo p.v)).setHi p.v)
            have hz := HZ4.out.only ho (by omega)
            have hb := HB4.out.trans (ho.below HB4.out.size (fun k hk => by have := HN.out; omega))
            go_roundw
            case rel => exact ⟨j + 1, by omega, by go_num, hz, by rw [HST.out]; exact ha, hb⟩
            case measure => simp [intOf]; omega
          · have thi : decide (A.hi < p.v) = false := decide_eq_false hhi
            rw [if_pos hlo, if_neg hhi] at HST
            clear hlo hhi
            go_wp2_with fail
            refine (HSC.out _).mono ?_
            rintro e Wx ⟨rfl, hw⟩; replace hw := hw.symm; subst hw
            dsimp only
            go_wp2_with fail
            have ho : Only (fun x => x = N + 1) W4 ((((W4).setCell ⟨N + 1, 1, none⟩ (.int .i64 (A.n + 1))).setCell ⟨N + 1, 2, none⟩ (.int .i64 (sat (A.s + p.v)))).setCell ⟨N + 1, 3, none⟩ (.int .i64 p.v)) := (((Only.refl (fun x => x = N + 1) W4).trans (Only.setCell (S := fun x => x = N + 1) (W4) (p := ⟨N + 1, 1, none⟩) rfl (.int .i64 (A.n + 1))) (fun _ _ h => h)).trans (Only.setCell (S := fun x => x = N + 1) ((W4).setCell ⟨N + 1, 1, none⟩ (.int .i64 (A.n + 1))) (p := ⟨N + 1, 2, none⟩) rfl (.int .i64 (sat (A.s + p.v)))) (fun _ _ h => h)).trans (Only.setCell (S := fun x => x = N + 1) (((W4).setCell ⟨N + 1, 1, none⟩ (.int .i64 (A.n + 1))).setCell ⟨N + 1, 2, none⟩ (.int .i64 (sat (A.s + p.v)))) (p := ⟨N + 1, 3, none⟩) rfl (.int .i64 p.v)) (fun _ _ h => h)
            have ha : AgAt ((((W4).setCell ⟨N + 1, 1, none⟩ (.int .i64 (A.n + 1))).setCell ⟨N + 1, 2, none⟩ (.int .i64 (sat (A.s + p.v)))).setCell ⟨N + 1, 3, none⟩ (.int .i64 p.v)) (N + 1) ⟨A.at_, A.n + 1, sat (A.s + p.v), p.v, A.hi⟩ := ((((((HO4.out).setN (A.n + 1))).setS (sat (A.s + p.v)))).setLo p.v)
            have hz := HZ4.out.only ho (by omega)
            have hb := HB4.out.trans (ho.below HB4.out.size (fun k hk => by have := HN.out; omega))
            go_roundw
            case rel => exact ⟨j + 1, by omega, by go_num, hz, by rw [HST.out]; exact ha, hb⟩
            case measure => simp [intOf]; omega
        · have tlo : decide (p.v < A.lo) = false := decide_eq_false hlo
          by_cases hhi : A.hi < p.v
          · have thi : decide (A.hi < p.v) = true := decide_eq_true hhi
            rw [if_neg hlo, if_pos hhi] at HST
            clear hlo hhi
            go_wp2_with fail
            refine (HSC.out _).mono ?_
            rintro e Wx ⟨rfl, hw⟩; replace hw := hw.symm; subst hw
            dsimp only
            go_wp2_with fail
            have ho : Only (fun x => x = N + 1) W4 ((((W4).setCell ⟨N + 1, 1, none⟩ (.int .i64 (A.n + 1))).setCell ⟨N + 1, 2, none⟩ (.int .i64 (sat (A.s + p.v)))).setCell ⟨N + 1, 4, none⟩ (.int .i64 p.v)) := (((Only.refl (fun x => x = N + 1) W4).trans (Only.setCell (S := fun x => x = N + 1) (W4) (p := ⟨N + 1, 1, none⟩) rfl (.int .i64 (A.n + 1))) (fun _ _ h => h)).trans (Only.setCell (S := fun x => x = N + 1) ((W4).setCell ⟨N + 1, 1, none⟩ (.int .i64 (A.n + 1))) (p := ⟨N + 1, 2, none⟩) rfl (.int .i64 (sat (A.s + p.v)))) (fun _ _ h => h)).trans (Only.setCell (S := fun x => x = N + 1) (((W4).setCell ⟨N + 1, 1, none⟩ (.int .i64 (A.n + 1))).setCell ⟨N + 1, 2, none⟩ (.int .i64 (sat (A.s + p.v)))) (p := ⟨N + 1, 4, none⟩) rfl (.int .i64 p.v)) (fun _ _ h => h)
            have ha : AgAt ((((W4).setCell ⟨N + 1, 1, none⟩ (.int .i64 (A.n + 1))).setCell ⟨N + 1, 2, none⟩ (.int .i64 (sat (A.s + p.v)))).setCell ⟨N + 1, 4, none⟩ (.int .i64 p.v)) (N + 1) ⟨A.at_, A.n + 1, sat (A.s + p.v), A.lo, p.v⟩ := ((((((HO4.out).setN (A.n + 1))).setS (sat (A.s + p.v)))).setHi p.v)
            have hz := HZ4.out.only ho (by omega)
            have hb := HB4.out.trans (ho.below HB4.out.size (fun k hk => by have := HN.out; omega))
            go_roundw
            case rel => exact ⟨j + 1, by omega, by go_num, hz, by rw [HST.out]; exact ha, hb⟩
            case measure => simp [intOf]; omega
          · have thi : decide (A.hi < p.v) = false := decide_eq_false hhi
            rw [if_neg hlo, if_neg hhi] at HST
            clear hlo hhi
            go_wp2_with fail
            refine (HSC.out _).mono ?_
            rintro e Wx ⟨rfl, hw⟩; replace hw := hw.symm; subst hw
            dsimp only
            go_wp2_with fail
            have ho : Only (fun x => x = N + 1) W4 (((W4).setCell ⟨N + 1, 1, none⟩ (.int .i64 (A.n + 1))).setCell ⟨N + 1, 2, none⟩ (.int .i64 (sat (A.s + p.v)))) := ((Only.refl (fun x => x = N + 1) W4).trans (Only.setCell (S := fun x => x = N + 1) (W4) (p := ⟨N + 1, 1, none⟩) rfl (.int .i64 (A.n + 1))) (fun _ _ h => h)).trans (Only.setCell (S := fun x => x = N + 1) ((W4).setCell ⟨N + 1, 1, none⟩ (.int .i64 (A.n + 1))) (p := ⟨N + 1, 2, none⟩) rfl (.int .i64 (sat (A.s + p.v)))) (fun _ _ h => h)
            have ha : AgAt (((W4).setCell ⟨N + 1, 1, none⟩ (.int .i64 (A.n + 1))).setCell ⟨N + 1, 2, none⟩ (.int .i64 (sat (A.s + p.v)))) (N + 1) ⟨A.at_, A.n + 1, sat (A.s + p.v), A.lo, A.hi⟩ := ((((HO4.out).setN (A.n + 1))).setS (sat (A.s + p.v)))
            have hz := HZ4.out.only ho (by omega)
            have hb := HB4.out.trans (ho.below HB4.out.size (fun k hk => by have := HN.out; omega))
            go_roundw
            case rel => exact ⟨j + 1, by omega, by go_num, hz, by rw [HST.out]; exact ha, hb⟩
            case measure => simp [intOf]; omega
    · obtain rfl : j = l.length := by omega
      have HO4 : Hid (AgAt W3 (N + 1) G) := Lib.hid (by have h := HO3.out; rw [List.take_of_length_le (Nat.le_refl _)] at h; rw [HG.out]; exact h)
      obtain ⟨z0, z1, z2, z3, z4, -, -, -, -, -⟩ := HO4.out.cells
      obtain ⟨d0, d1, d2, d3, d4, g0, g1, g2, g3, g4⟩ := HZ3.out.cells
      clear HO3 HP3
      go_wp2
      refine bodyPost_ret (ret_ag (Q := N) (t := G) rfl rfl (setAg_at HZ3.out G)) rfl ?_
      exact ⟨rfl, HB3.out.trans ((setAg_only W3 N G).below HB3.out.size (fun k hk => by have := HN.out; omega))⟩
end Go.Proofs.Ytdmlolagpbobeaa
