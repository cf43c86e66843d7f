/- The law's bytes of points, walked. -/
import Derived.Test.YtdfefhoihpbldaaDoorPts
import Derived.Deep.RegionHeld3
namespace Go.Proofs.YtdfefhoihpbldaaDoor
open Go.RowKit

set_option maxHeartbeats 8000000 in
set_option maxRecDepth 100000 in
theorem bytes4_any {w : World} {v0 : Value} {l0 : List Pt} (hv : PLies w v0 l0) (hf : ∀ t ∈ l0, t.fits) (hr : Rises l0) (hn : l0.length ≤ 1000) :
    Calls Tryd.prog 11 #[v0] w fun e w' => e = .returned (.string (strOf (packB (chunkBits l0)))) ∧ Below w.heap.size w w' := by
  obtain ⟨i0, hi, hz0, hz1, hz2⟩ := info_parts infoU8
  obtain ⟨a, b, off, cap, rfl, hadr, hpts⟩ := hv
  have HADR := Lib.hid hadr
  have HP := Lib.hid hpts
  have HF := Lib.hid hf
  have HRI := Lib.hid hr
  have hzu : IntKind.u64.wrap (l0.length : Int) = l0.length := by rw [IntKind.wrap_u64]; omega
  clear hadr hpts hf hr
  go_enter Tryd.func11, Tryd.ntmps11
  go_wp2_with fail
  refine (signs4_any (x := l0.length) (k := 16) (by omega) (by omega) w).mono ?_
  rintro e W1 ⟨rfl, hb1⟩
  have HB1 := Lib.hid hb1
  clear hb1 hzu
  go_wp2_with fail
  go_loopw [3, 14] (fun s c wr => ∃ k : Nat, k ≤ l0.length ∧ c = .int .i64 k ∧ s = .string (signsOf (numBits l0.length 16 ++ ptBits l0 k)) ∧ Below w.heap.size w wr) (fun _ c _ => l0.length - (intOf c).toNat)
  case atStart => exact ⟨0, by omega, rfl, by simp [ptBits], HB1.out⟩
  case round =>
    obtain ⟨k, hk, rfl, rfl, hbw⟩ := hrel
    have hzw := hbw.size
    have HBW := Lib.hid hbw
    clear HB1
    by_cases hlt : k < l0.length
    · have ea := HADR.out (by intro h; simp [h] at hlt)
      subst ea
      obtain ⟨t, ht⟩ : ∃ t, l0[k]? = some t := ⟨l0[k], List.getElem?_eq_getElem hlt⟩
      obtain ⟨a0, a1⟩ := HP.out k t ht
      have hbl : b < w.heap.size := by have := cell_lt a0; exact this
      rw [← hbw.cell (p := ⟨b, off + k * 2, none⟩) hbl] at a0
      rw [← hbw.cell (p := ⟨b, off + k * 2 + 1, none⟩) hbl] at a1
      have hfit := HF.out t (List.mem_of_getElem? ht)
      have hrng := HRI.out.1 t (List.mem_of_getElem? ht)
      have hlen1 := ptBits_le HRI.out k (by omega)
      have hsz1 : ¬ (9223372036854775807 < (signsOf (numBits l0.length 16 ++ ptBits l0 k)).size + 142) := by rw [signsOf_size, List.length_append, numBits_length]; omega
      have hbs := ptBits_succ l0 k
      have HBS := Lib.hid hbs
      have HT := Lib.hid ht
      clear hbw hbs
      obtain ⟨ta, tv⟩ := t
      obtain ⟨f1, f2, f3, f4⟩ := hfit
      simp only at a0 a1 f1 f2 f3 f4 hrng
      obtain ⟨sg, hsg⟩ : ∃ sg, sg = signsOf (numBits l0.length 16 ++ ptBits l0 k) := ⟨_, rfl⟩
      rw [← hsg] at hsz1 ⊢
      have HSG := Lib.hid hsg
      clear hsg hlen1
      have hnew := heap_alloc_new wr (.cells #[.int .i64 ta, .int .i64 tv] 42)
      have c0 : (wr.alloc (.cells #[.int .i64 ta, .int .i64 tv] 42)).cell? ⟨wr.heap.size, 0, none⟩ = some (.int .i64 ta) := (cell_of_row _ wr.heap.size 0 _ _ _ hnew).trans rfl
      have c1 : (wr.alloc (.cells #[.int .i64 ta, .int .i64 tv] 42)).cell? ⟨wr.heap.size, 1, none⟩ = some (.int .i64 tv) := (cell_of_row _ wr.heap.size 1 _ _ _ hnew).trans rfl
      have HBA : Hid (Below w.heap.size w (wr.alloc (.cells #[.int .i64 ta, .int .i64 tv] 42))) := HBW.out.alloc hzw _
      have hza : wr.heap.size < (wr.alloc (.cells #[.int .i64 ta, .int .i64 tv] 42)).heap.size := lt_of_block hnew
      have hzz : w.heap.size ≤ (wr.alloc (.cells #[.int .i64 ta, .int .i64 tv] 42)).heap.size := by omega
      clear hnew
      rcases Nat.eq_zero_or_pos k with h0 | h0
      · subst h0
        simp only [Nat.zero_mul, Nat.add_zero] at a0 a1
        have hbit : bitsAt l0 0 = numBits ta.toNat 41 ++ numBits (foldZ tv) 64 := by rw [bitsAt, if_pos rfl, getD_at HT.out]; rfl
        have HBIT := Lib.hid hbit
        have hft := foldZ_lt f3 f4
        obtain ⟨X, hX⟩ : ∃ X : Nat, (X : Int) = ta := ⟨ta.toNat, by omega⟩
        have hXt : ta.toNat = X := by omega
        rw [hXt] at hbit HBIT
        have hzx : IntKind.u64.wrap ta = (X : Int) := by rw [IntKind.wrap_u64]; omega
        have hs2 : ¬ (9223372036854775807 < (signsOf (numBits X 41)).size + (signsOf (numBits (foldZ tv) 64)).size) := by rw [signsOf_size, signsOf_size, numBits_length, numBits_length]; omega
        have hs3 : ¬ (9223372036854775807 < sg.size + ((signsOf (numBits X 41)).size + (signsOf (numBits (foldZ tv) 64)).size)) := by rw [signsOf_size, signsOf_size, numBits_length, numBits_length]; omega
        have HSN : Hid (signsOf (numBits l0.length 16 ++ ptBits l0 (0 + 1)) = sg ++ (signsOf (numBits X 41) ++ signsOf (numBits (foldZ tv) 64))) := by
          rw [HBS.out, HBIT.out, ← List.append_assoc, signsOf_append (numBits l0.length 16 ++ ptBits l0 0) _, ← HSG.out, signsOf_append]; exact Lib.hid rfl
        clear hbit hX
        go_wp2_with fail
        refine wp_region_held_drew (S := fun w => w.cell? ⟨wr.heap.size, 0, none⟩ = some (.int .i64 ta) ∧ w.cell? ⟨wr.heap.size, 1, none⟩ = some (.int .i64 tv)) (by kernel_rfl) ⟨c0, c1⟩ (fun _ => ?_)
        refine anyH_take (i := 0) (some 21) (v := _) rfl rfl (by kernel_rfl) (by kernel_rfl) (by kernel_rfl) (fun _ _ _ h => h) (by rfl) (⟨c0, c1⟩) (by intro w hSw; go_simp; try with_reducible rfl) ?_
        (try simp only [Act.put, List.setIfInBounds_toArray, List.set_cons_zero, List.set_cons_succ])
        refine anyH_take (i := 1) (some 22) (v := _) rfl rfl (by kernel_rfl) (by kernel_rfl) (by kernel_rfl) (fun _ _ _ h => h) (by rfl) (⟨c0, c1⟩) (by intro w hSw; go_simp; try with_reducible rfl) ?_
        (try simp only [Act.put, List.setIfInBounds_toArray, List.set_cons_zero, List.set_cons_succ])
        refine anyH_take (i := 2) (some 23) (v := _) rfl rfl (by kernel_rfl) (by kernel_rfl) (by kernel_rfl) (fun _ _ _ h => h) (by rfl) (⟨c0, c1⟩) (by intro w hSw; go_simp; try with_reducible rfl) ?_
        (try simp only [Act.put, List.setIfInBounds_toArray, List.set_cons_zero, List.set_cons_succ])
        refine anyH_take (i := 3) (some 24) (v := _) rfl rfl (by kernel_rfl) (by kernel_rfl) (by kernel_rfl) (fun _ _ _ h => h) (by rfl) (⟨c0, c1⟩) (by intro w hSw; go_simp; try with_reducible rfl) ?_
        (try simp only [Act.put, List.setIfInBounds_toArray, List.set_cons_zero, List.set_cons_succ])
        refine anyH_take (i := 5) (some 26) (v := _) rfl rfl (by kernel_rfl) (by kernel_rfl) (by kernel_rfl) (fun _ _ _ h => h) (by rfl) (⟨c0, c1⟩) (by intro w hSw; go_simp; try with_reducible rfl) ?_
        (try simp only [Act.put, List.setIfInBounds_toArray, List.set_cons_zero, List.set_cons_succ])
        refine anyH_take (i := 6) (some 27) (v := _) rfl rfl (by kernel_rfl) (by kernel_rfl) (by kernel_rfl) (fun _ _ _ h => h) (by rfl) (⟨c0, c1⟩) (by intro w hSw; go_simp; try with_reducible rfl) ?_
        (try simp only [Act.put, List.setIfInBounds_toArray, List.set_cons_zero, List.set_cons_succ])
        refine wpAnyH_ready (rs := [4]) (by kernel_rfl) (by simp) (AllReadyH.cons rfl (fun K hK => ?_) AllReadyH.nil)
        go_simp
        (refine (signs4_any (x := X) (k := 41) (by omega) (by omega) _).mono ?_; rintro e W2 ⟨rfl, h2a⟩; have h2 : Below (wr.alloc (.cells #[.int .i64 ta, .int .i64 tv] 42)).heap.size (wr.alloc (.cells #[.int .i64 ta, .int .i64 tv] 42)) W2 := ((Below.refl _ _).drew).trans h2a; clear h2a; have d0 : W2.cell? ⟨wr.heap.size, 0, none⟩ = some (.int .i64 ta) := (h2.cell (p := ⟨wr.heap.size, 0, none⟩) hza).trans c0; have d1 : W2.cell? ⟨wr.heap.size, 1, none⟩ = some (.int .i64 tv) := (h2.cell (p := ⟨wr.heap.size, 1, none⟩) hza).trans c1)
        go_wp2_with fail
        refine hK.out _ _ (⟨d0, d1⟩) (fun _ => ?_)
        clear hK K
        (try simp only [Act.put, List.setIfInBounds_toArray, List.set_cons_zero, List.set_cons_succ])
        refine wpAnyH_ready (rs := [7]) (by kernel_rfl) (by simp) (AllReadyH.cons rfl (fun K hK => ?_) AllReadyH.nil)
        go_simp
        (refine (fold4_any f3 f4 _).mono ?_; rintro e W3 ⟨rfl, rfl⟩)
        go_wp2_with fail
        refine hK.out _ _ (⟨d0, d1⟩) (fun _ => ?_)
        clear hK K
        (try simp only [Act.put, List.setIfInBounds_toArray, List.set_cons_zero, List.set_cons_succ])
        refine wpAnyH_ready (rs := [8]) (by kernel_rfl) (by simp) (AllReadyH.cons rfl (fun K hK => ?_) AllReadyH.nil)
        go_simp
        (refine (signs4_any (x := foldZ tv) (k := 64) hft (by omega) _).mono ?_; rintro e W4 ⟨rfl, h4a⟩; have h4 : Below (wr.alloc (.cells #[.int .i64 ta, .int .i64 tv] 42)).heap.size (wr.alloc (.cells #[.int .i64 ta, .int .i64 tv] 42)) W4 := h2.trans (h4a.mono h2.size); clear h4a; have HB6 := Lib.hid h4; have e0 : W4.cell? ⟨wr.heap.size, 0, none⟩ = some (.int .i64 ta) := (h4.cell (p := ⟨wr.heap.size, 0, none⟩) hza).trans c0; have e1 : W4.cell? ⟨wr.heap.size, 1, none⟩ = some (.int .i64 tv) := (h4.cell (p := ⟨wr.heap.size, 1, none⟩) hza).trans c1)
        go_wp2_with fail
        refine hK.out _ _ (⟨e0, e1⟩) (fun _ => ?_)
        clear hK K
        (try simp only [Act.put, List.setIfInBounds_toArray, List.set_cons_zero, List.set_cons_succ])
        refine anyH_take (i := 9) (some 30) (v := _) rfl rfl (by kernel_rfl) (by kernel_rfl) (by kernel_rfl) (fun _ _ _ h => h) (by rfl) (⟨e0, e1⟩) (by intro w hSw; go_simp; try with_reducible rfl) ?_
        (try simp only [Act.put, List.setIfInBounds_toArray, List.set_cons_zero, List.set_cons_succ])
        refine anyH_take (i := 10) (some 31) (v := _) rfl rfl (by kernel_rfl) (by kernel_rfl) (by kernel_rfl) (fun _ _ _ h => h) (by rfl) (⟨e0, e1⟩) (by intro w hSw; go_simp; try with_reducible rfl) ?_
        (try simp only [Act.put, List.setIfInBounds_toArray, List.set_cons_zero, List.set_cons_succ])
        refine anyH_take (i := 11) (some 3) (v := _) rfl rfl (by kernel_rfl) (by kernel_rfl) (by kernel_rfl) (fun _ _ _ h => h) (by rfl) (⟨e0, e1⟩) (by intro w hSw; go_simp; try with_reducible rfl) ?_
        (try simp only [Act.put, List.setIfInBounds_toArray, List.set_cons_zero, List.set_cons_succ])
        refine wpAnyH_done (by kernel_rfl) ?_ _
        go_wp2
        go_roundw
        case rel => exact ⟨0 + 1, by omega, by go_num, by rw [HSN.out], HBA.out.trans (HB6.out.mono hzz)⟩
        case measure => simp [intOf]; omega
      · obtain ⟨m, hm⟩ : ∃ m, m + 1 = k := ⟨k - 1, by omega⟩
        obtain ⟨p, hp⟩ : ∃ p, l0[m]? = some p := ⟨l0[m]'(by omega), List.getElem?_eq_getElem (by omega)⟩
        obtain ⟨p0, p1⟩ := HP.out m p hp
        rw [← HBA.out.cell (p := ⟨b, off + m * 2, none⟩) hbl] at p0
        rw [← HBA.out.cell (p := ⟨b, off + m * 2 + 1, none⟩) hbl] at p1
        have hpf := HF.out p (List.mem_of_getElem? hp)
        have hpr := HRI.out.1 p (List.mem_of_getElem? hp)
        have hrise := HRI.out.2 m p ⟨ta, tv⟩ hp (by rw [hm]; exact HT.out)
        have hbit : bitsAt l0 k = nextBits p ⟨ta, tv⟩ := by rw [bitsAt, if_neg (by omega), getD_at HT.out, show k - 1 = m by omega, getD_at hp]
        have HBIT := Lib.hid hbit
        obtain ⟨pa, pv⟩ := p
        obtain ⟨g1, g2, g3, g4⟩ := hpf
        simp only at p0 p1 g1 g2 g3 g4 hpr hrise
        have k0 : ((k : Int) == 0) = false := by simp; omega
        have hml : m < l0.length := by omega
        have k1 : IntKind.i64.wrap ((k : Int) - 1) = (m : Int) := by rw [IntKind.wrap_i64]; omega
        obtain ⟨st, hst⟩ : ∃ st, st = stepN ⟨pa, pv⟩ ⟨ta, tv⟩ := ⟨_, rfl⟩
        have hst2 : (st : Int) = ta - pa - 1 := by rw [hst]; unfold stepN; simp only; omega
        have hstb : st < 18446744073709551616 := by omega
        obtain ⟨d1, hd1⟩ : ∃ d1, IntKind.i64.wrap (ta - pa) = d1 := ⟨_, rfl⟩
        have hd1' : d1 = ta - pa := by rw [← hd1, wrapS_eq, wrapS_of] <;> omega
        obtain ⟨d2, hd2⟩ : ∃ d2, IntKind.i64.wrap (d1 - 1) = d2 := ⟨_, rfl⟩
        have hd2' : d2 = ta - pa - 1 := by rw [← hd2, wrapS_eq, wrapS_of] <;> omega
        have hd3 : IntKind.u64.wrap d2 = (st : Int) := by rw [IntKind.wrap_u64]; omega
        obtain ⟨dv, hdv⟩ : ∃ dv, IntKind.i64.wrap (tv - pv) = dv := ⟨_, rfl⟩
        have hdvr : -9223372036854775808 ≤ dv ∧ dv ≤ 9223372036854775807 := by rw [← hdv, wrapS_eq]; exact wrapS_in _
        have hdvr1 := hdvr.1
        have hdvr2 := hdvr.2
        have hch : changeN ⟨pa, pv⟩ ⟨ta, tv⟩ = foldZ dv := by rw [← hdv, wrapS_eq]; rfl
        have hfb := foldZ_lt hdvr1 hdvr2
        have hb1 := ownBits_le hstb
        have hb2 := ownBits_le hfb
        have hs2 : ¬ (9223372036854775807 < (signsOf (ownBits st)).size + (signsOf (ownBits (foldZ dv))).size) := by rw [signsOf_size, signsOf_size]; omega
        have hs3 : ¬ (9223372036854775807 < sg.size + ((signsOf (ownBits st)).size + (signsOf (ownBits (foldZ dv))).size)) := by rw [signsOf_size, signsOf_size]; omega
        have HSN : Hid (signsOf (numBits l0.length 16 ++ ptBits l0 (k + 1)) = sg ++ (signsOf (ownBits st) ++ signsOf (ownBits (foldZ dv)))) := by
          rw [HBS.out, HBIT.out, nextBits, ← hst, hch, ← List.append_assoc, signsOf_append (numBits l0.length 16 ++ ptBits l0 k) _, ← HSG.out, signsOf_append]; exact Lib.hid rfl
        have HM := Lib.hid hm
        have H0 := Lib.hid h0
        clear hbit hp hst hst2 hd1' hd2' hch hdvr hb1 hb2 hm h0 hrise hpr hrng
        go_wp2_with fail
        refine wp_region_held_drew (S := fun w => (w.cell? ⟨wr.heap.size, 0, none⟩ = some (.int .i64 ta) ∧ w.cell? ⟨wr.heap.size, 1, none⟩ = some (.int .i64 tv)) ∧ w.cell? ⟨b, off + m * 2, none⟩ = some (.int .i64 pa) ∧ w.cell? ⟨b, off + m * 2 + 1, none⟩ = some (.int .i64 pv)) (by kernel_rfl) ⟨⟨c0, c1⟩, p0, p1⟩ (fun _ => ?_)
        refine anyH_take (i := 0) (some 32) (v := _) rfl rfl (by kernel_rfl) (by kernel_rfl) (by kernel_rfl) (fun _ _ _ h => h) (by rfl) (⟨⟨c0, c1⟩, p0, p1⟩) (by intro w hSw; go_simp; try with_reducible rfl) ?_
        (try simp only [Act.put, List.setIfInBounds_toArray, List.set_cons_zero, List.set_cons_succ])
        refine anyH_take (i := 1) (some 33) (v := _) rfl rfl (by kernel_rfl) (by kernel_rfl) (by kernel_rfl) (fun _ _ _ h => h) (by rfl) (⟨⟨c0, c1⟩, p0, p1⟩) (by intro w hSw; go_simp; try with_reducible rfl) ?_
        (try simp only [Act.put, List.setIfInBounds_toArray, List.set_cons_zero, List.set_cons_succ])
        refine anyH_take (i := 2) (some 34) (v := _) rfl rfl (by kernel_rfl) (by kernel_rfl) (by kernel_rfl) (fun _ _ _ h => h) (by rfl) (⟨⟨c0, c1⟩, p0, p1⟩) (by intro w hSw; go_simp; try with_reducible rfl) ?_
        (try simp only [Act.put, List.setIfInBounds_toArray, List.set_cons_zero, List.set_cons_succ])
        refine anyH_take (i := 3) (some 35) (v := _) rfl rfl (by kernel_rfl) (by kernel_rfl) (by kernel_rfl) (fun _ _ _ h => h) (by rfl) (⟨⟨c0, c1⟩, p0, p1⟩) (by intro w hSw; go_simp; try with_reducible rfl) ?_
        (try simp only [Act.put, List.setIfInBounds_toArray, List.set_cons_zero, List.set_cons_succ])
        refine anyH_take (i := 4) (some 36) (v := _) rfl rfl (by kernel_rfl) (by kernel_rfl) (by kernel_rfl) (fun _ _ _ h => h) (by rfl) (⟨⟨c0, c1⟩, p0, p1⟩) (by intro w hSw; go_simp; try with_reducible rfl) ?_
        (try simp only [Act.put, List.setIfInBounds_toArray, List.set_cons_zero, List.set_cons_succ])
        refine anyH_take (i := 5) (some 37) (v := _) rfl rfl (by kernel_rfl) (by kernel_rfl) (by kernel_rfl) (fun _ _ _ h => h) (by rfl) (⟨⟨c0, c1⟩, p0, p1⟩) (by intro w hSw; go_simp; try with_reducible rfl) ?_
        (try simp only [Act.put, List.setIfInBounds_toArray, List.set_cons_zero, List.set_cons_succ])
        refine anyH_take (i := 6) (some 38) (v := _) rfl rfl (by kernel_rfl) (by kernel_rfl) (by kernel_rfl) (fun _ _ _ h => h) (by rfl) (⟨⟨c0, c1⟩, p0, p1⟩) (by intro w hSw; go_simp; try with_reducible rfl) ?_
        (try simp only [Act.put, List.setIfInBounds_toArray, List.set_cons_zero, List.set_cons_succ])
        refine anyH_take (i := 7) (some 39) (v := _) rfl rfl (by kernel_rfl) (by kernel_rfl) (by kernel_rfl) (fun _ _ _ h => h) (by rfl) (⟨⟨c0, c1⟩, p0, p1⟩) (by intro w hSw; go_simp; try with_reducible rfl) ?_
        (try simp only [Act.put, List.setIfInBounds_toArray, List.set_cons_zero, List.set_cons_succ])
        refine anyH_take (i := 8) (some 40) (v := _) rfl rfl (by kernel_rfl) (by kernel_rfl) (by kernel_rfl) (fun _ _ _ h => h) (by rfl) (⟨⟨c0, c1⟩, p0, p1⟩) (by intro w hSw; go_simp; try with_reducible rfl) ?_
        (try simp only [Act.put, List.setIfInBounds_toArray, List.set_cons_zero, List.set_cons_succ])
        refine anyH_take (i := 9) (some 41) (v := _) rfl rfl (by kernel_rfl) (by kernel_rfl) (by kernel_rfl) (fun _ _ _ h => h) (by rfl) (⟨⟨c0, c1⟩, p0, p1⟩) (by intro w hSw; go_simp; try with_reducible rfl) ?_
        (try simp only [Act.put, List.setIfInBounds_toArray, List.set_cons_zero, List.set_cons_succ])
        refine anyH_take (i := 10) (some 42) (v := _) rfl rfl (by kernel_rfl) (by kernel_rfl) (by kernel_rfl) (fun _ _ _ h => h) (by rfl) (⟨⟨c0, c1⟩, p0, p1⟩) (by intro w hSw; go_simp; try with_reducible rfl) ?_
        (try simp only [Act.put, List.setIfInBounds_toArray, List.set_cons_zero, List.set_cons_succ])
        refine anyH_take (i := 11) (some 43) (v := _) rfl rfl (by kernel_rfl) (by kernel_rfl) (by kernel_rfl) (fun _ _ _ h => h) (by rfl) (⟨⟨c0, c1⟩, p0, p1⟩) (by intro w hSw; go_simp; try with_reducible rfl) ?_
        (try simp only [Act.put, List.setIfInBounds_toArray, List.set_cons_zero, List.set_cons_succ])
        refine anyH_take (i := 13) (some 45) (v := _) rfl rfl (by kernel_rfl) (by kernel_rfl) (by kernel_rfl) (fun _ _ _ h => h) (by rfl) (⟨⟨c0, c1⟩, p0, p1⟩) (by intro w hSw; go_simp; try with_reducible rfl) ?_
        (try simp only [Act.put, List.setIfInBounds_toArray, List.set_cons_zero, List.set_cons_succ])
        refine anyH_take (i := 14) (some 46) (v := _) rfl rfl (by kernel_rfl) (by kernel_rfl) (by kernel_rfl) (fun _ _ _ h => h) (by rfl) (⟨⟨c0, c1⟩, p0, p1⟩) (by intro w hSw; go_simp; try with_reducible rfl) ?_
        (try simp only [Act.put, List.setIfInBounds_toArray, List.set_cons_zero, List.set_cons_succ])
        refine anyH_take (i := 15) (some 47) (v := _) rfl rfl (by kernel_rfl) (by kernel_rfl) (by kernel_rfl) (fun _ _ _ h => h) (by rfl) (⟨⟨c0, c1⟩, p0, p1⟩) (by intro w hSw; go_simp; try with_reducible rfl) ?_
        (try simp only [Act.put, List.setIfInBounds_toArray, List.set_cons_zero, List.set_cons_succ])
        refine anyH_take (i := 16) (some 48) (v := _) rfl rfl (by kernel_rfl) (by kernel_rfl) (by kernel_rfl) (fun _ _ _ h => h) (by rfl) (⟨⟨c0, c1⟩, p0, p1⟩) (by intro w hSw; go_simp; try with_reducible rfl) ?_
        (try simp only [Act.put, List.setIfInBounds_toArray, List.set_cons_zero, List.set_cons_succ])
        refine anyH_take (i := 17) (some 49) (v := _) rfl rfl (by kernel_rfl) (by kernel_rfl) (by kernel_rfl) (fun _ _ _ h => h) (by rfl) (⟨⟨c0, c1⟩, p0, p1⟩) (by intro w hSw; go_simp; try with_reducible rfl) ?_
        (try simp only [Act.put, List.setIfInBounds_toArray, List.set_cons_zero, List.set_cons_succ])
        refine anyH_take (i := 18) (some 50) (v := _) rfl rfl (by kernel_rfl) (by kernel_rfl) (by kernel_rfl) (fun _ _ _ h => h) (by rfl) (⟨⟨c0, c1⟩, p0, p1⟩) (by intro w hSw; go_simp; try with_reducible rfl) ?_
        (try simp only [Act.put, List.setIfInBounds_toArray, List.set_cons_zero, List.set_cons_succ])
        refine anyH_take (i := 19) (some 51) (v := _) rfl rfl (by kernel_rfl) (by kernel_rfl) (by kernel_rfl) (fun _ _ _ h => h) (by rfl) (⟨⟨c0, c1⟩, p0, p1⟩) (by intro w hSw; go_simp; try with_reducible rfl) ?_
        (try simp only [Act.put, List.setIfInBounds_toArray, List.set_cons_zero, List.set_cons_succ])
        refine anyH_take (i := 20) (some 52) (v := _) rfl rfl (by kernel_rfl) (by kernel_rfl) (by kernel_rfl) (fun _ _ _ h => h) (by rfl) (⟨⟨c0, c1⟩, p0, p1⟩) (by intro w hSw; go_simp; try with_reducible rfl) ?_
        (try simp only [Act.put, List.setIfInBounds_toArray, List.set_cons_zero, List.set_cons_succ])
        refine anyH_take (i := 21) (some 53) (v := _) rfl rfl (by kernel_rfl) (by kernel_rfl) (by kernel_rfl) (fun _ _ _ h => h) (by rfl) (⟨⟨c0, c1⟩, p0, p1⟩) (by intro w hSw; go_simp; try with_reducible rfl) ?_
        (try simp only [Act.put, List.setIfInBounds_toArray, List.set_cons_zero, List.set_cons_succ])
        refine wpAnyH_ready (rs := [12]) (by kernel_rfl) (by simp) (AllReadyH.cons rfl (fun K hK => ?_) AllReadyH.nil)
        go_simp
        (refine (own_any hstb _).mono ?_; rintro e W2 ⟨rfl, h2a⟩; have h2 : Below (wr.alloc (.cells #[.int .i64 ta, .int .i64 tv] 42)).heap.size (wr.alloc (.cells #[.int .i64 ta, .int .i64 tv] 42)) W2 := ((Below.refl _ _).drew).trans h2a; clear h2a; have d0 : W2.cell? ⟨wr.heap.size, 0, none⟩ = some (.int .i64 ta) := (h2.cell (p := ⟨wr.heap.size, 0, none⟩) hza).trans c0; have d1 : W2.cell? ⟨wr.heap.size, 1, none⟩ = some (.int .i64 tv) := (h2.cell (p := ⟨wr.heap.size, 1, none⟩) hza).trans c1; have d2 : W2.cell? ⟨b, off + m * 2, none⟩ = some (.int .i64 pa) := (h2.cell (p := ⟨b, off + m * 2, none⟩) (by simp only; omega)).trans p0; have d3 : W2.cell? ⟨b, off + m * 2 + 1, none⟩ = some (.int .i64 pv) := (h2.cell (p := ⟨b, off + m * 2 + 1, none⟩) (by simp only; omega)).trans p1)
        go_wp2_with fail
        refine hK.out _ _ (⟨⟨d0, d1⟩, d2, d3⟩) (fun _ => ?_)
        clear hK K
        (try simp only [Act.put, List.setIfInBounds_toArray, List.set_cons_zero, List.set_cons_succ])
        refine wpAnyH_ready (rs := [22]) (by kernel_rfl) (by simp) (AllReadyH.cons rfl (fun K hK => ?_) AllReadyH.nil)
        go_simp
        (refine (fold4_any hdvr1 hdvr2 _).mono ?_; rintro e W3 ⟨rfl, rfl⟩)
        go_wp2_with fail
        refine hK.out _ _ (⟨⟨d0, d1⟩, d2, d3⟩) (fun _ => ?_)
        clear hK K
        (try simp only [Act.put, List.setIfInBounds_toArray, List.set_cons_zero, List.set_cons_succ])
        refine wpAnyH_ready (rs := [23]) (by kernel_rfl) (by simp) (AllReadyH.cons rfl (fun K hK => ?_) AllReadyH.nil)
        go_simp
        (refine (own_any hfb _).mono ?_; rintro e W4 ⟨rfl, h4a⟩; have h4 : Below (wr.alloc (.cells #[.int .i64 ta, .int .i64 tv] 42)).heap.size (wr.alloc (.cells #[.int .i64 ta, .int .i64 tv] 42)) W4 := h2.trans (h4a.mono h2.size); clear h4a; have HB6 := Lib.hid h4; have e0 : W4.cell? ⟨wr.heap.size, 0, none⟩ = some (.int .i64 ta) := (h4.cell (p := ⟨wr.heap.size, 0, none⟩) hza).trans c0; have e1 : W4.cell? ⟨wr.heap.size, 1, none⟩ = some (.int .i64 tv) := (h4.cell (p := ⟨wr.heap.size, 1, none⟩) hza).trans c1; have e2 : W4.cell? ⟨b, off + m * 2, none⟩ = some (.int .i64 pa) := (h4.cell (p := ⟨b, off + m * 2, none⟩) (by simp only; omega)).trans p0; have e3 : W4.cell? ⟨b, off + m * 2 + 1, none⟩ = some (.int .i64 pv) := (h4.cell (p := ⟨b, off + m * 2 + 1, none⟩) (by simp only; omega)).trans p1)
        go_wp2_with fail
        refine hK.out _ _ (⟨⟨e0, e1⟩, e2, e3⟩) (fun _ => ?_)
        clear hK K
        (try simp only [Act.put, List.setIfInBounds_toArray, List.set_cons_zero, List.set_cons_succ])
        refine anyH_take (i := 24) (some 56) (v := _) rfl rfl (by kernel_rfl) (by kernel_rfl) (by kernel_rfl) (fun _ _ _ h => h) (by rfl) (⟨⟨e0, e1⟩, e2, e3⟩) (by intro w hSw; go_simp; try with_reducible rfl) ?_
        (try simp only [Act.put, List.setIfInBounds_toArray, List.set_cons_zero, List.set_cons_succ])
        refine anyH_take (i := 25) (some 57) (v := _) rfl rfl (by kernel_rfl) (by kernel_rfl) (by kernel_rfl) (fun _ _ _ h => h) (by rfl) (⟨⟨e0, e1⟩, e2, e3⟩) (by intro w hSw; go_simp; try with_reducible rfl) ?_
        (try simp only [Act.put, List.setIfInBounds_toArray, List.set_cons_zero, List.set_cons_succ])
        refine anyH_take (i := 26) (some 3) (v := _) rfl rfl (by kernel_rfl) (by kernel_rfl) (by kernel_rfl) (fun _ _ _ h => h) (by rfl) (⟨⟨e0, e1⟩, e2, e3⟩) (by intro w hSw; go_simp; try with_reducible rfl) ?_
        (try simp only [Act.put, List.setIfInBounds_toArray, List.set_cons_zero, List.set_cons_succ])
        refine wpAnyH_done (by kernel_rfl) ?_ _
        go_wp2
        go_roundw
        case rel => exact ⟨k + 1, by omega, by go_num, by rw [HSN.out], HBA.out.trans (HB6.out.mono hzz)⟩
        case measure => simp [intOf]; omega
    · obtain rfl : k = l0.length := by omega
      have hlen1 := ptBits_le HRI.out l0.length (Nat.le_refl _)
      have hl0 : (chunkBits l0).length ≤ 1000000 := by rw [chunkBits, List.length_append, numBits_length]; omega
      rw [show numBits l0.length 16 ++ ptBits l0 l0.length = chunkBits l0 from rfl]
      clear hlen1
      obtain ⟨l, hle⟩ : ∃ l, l = chunkBits l0 := ⟨_, rfl⟩
      rw [← hle] at hl0 ⊢
      have HLE := Lib.hid hle
      have hl := hl0
      clear hle hl0 HADR HP HF HRI hk hlt hn
      obtain ⟨s, es⟩ : ∃ s, s = signsOf l := ⟨_, rfl⟩
      have hs : s.size = l.length := by rw [es, signsOf_size]
      rw [← es]
      have ES := Lib.hid es
      have hss : s.size ≤ 1000000 := by omega
      have HS := Lib.hid hs
      obtain ⟨wb, hwb⟩ : ∃ wb, wb = wr := ⟨_, rfl⟩
      subst hwb
      clear es hs
      go_wp2
      go_loopw [6, 61] (fun v c wr => ∃ q : Nat, q ≤ s.size ∧ c = .int .i64 q ∧ wr.ownsRow w.heap.size 5 1 v ((q + 7) / 8) (u8s (packB (l.take q))) ∧ Below w.heap.size w wr) (fun _ c _ => s.size - (intOf c).toNat)
      case atStart => exact ⟨0, by omega, rfl, by simpa [packB, bytesN, u8s] using World.ownsRow_nil wb w.heap.size 5 1, HBW.out⟩
      case round =>
        obtain ⟨q, hq, rfl, hown, hb⟩ := hrel
        have hz := hb.size
        have HB := Lib.hid hb
        clear hb
        by_cases hlt : q < s.size
        · have hql : q < l.length := by rw [← HS.out]; exact hlt
          obtain ⟨b, eb⟩ : ∃ b, l[q] = b := ⟨_, rfl⟩
          have ht : l.take (q + 1) = l.take q ++ [b] := by rw [List.take_succ_eq_append_getElem hql, eb]
          have htl : (l.take q).length = q := by rw [List.length_take]; omega
          have hbit : (s[q]'hlt).toNat = 48 + b.toNat := by
            have h1 := sgn_get l q hql
            have h2 : (s[q]'hlt) = s.data[q]'hlt := rfl
            have h3 : s.data[q]? = some (UInt8.ofNat (48 + l[q].toNat)) := by rw [ES.out]; exact h1
            rw [h2, (Array.getElem?_eq_some_iff.1 h3).2, eb]
            cases b <;> rfl
          have hc49 : (((s[q]'hlt).toNat : Int) == 49) = b := by rw [hbit]; cases b <;> rfl
          generalize l.take q = pre at *
          have HT := Lib.hid ht
          have HTL := Lib.hid htl
          clear ht eb hbit ES
          by_cases h8 : q % 8 = 0
          · have hm1 : ((q : Int) % 8 == 0) = true := by simp; omega
            have hm0 : (q : Int) % 8 = 0 := by omega
            have e7 : (q + 7) / 8 = q / 8 := by omega
            have e9 : (q + 1 + 7) / 8 = q / 8 + 1 := by omega
            rw [e7] at hown
            have E9 := Lib.hid e9
            have H8 := Lib.hid h8
            have HE0 : Hid ((u8s (packB pre) ++ [Value.int .u8 0])[q / 8]? = some (.int .u8 0)) := by
              have h1 : (u8s (packB pre)).length = q / 8 := by have := hown.1; simpa using this
              rw [← h1]; exact List.getElem?_concat_length
            clear e7 e9 htl h8
            cases b
            · go_wp2_with (at_builtin; refine wpList_append_lies _ rfl (.tmp 67) (.tmp 68) 24 rfl w.heap.size 5 i0 (.int .u8 0) 1 1 Tryd.underlying24 hi hz0 hz1 hz2 rfl (by decide) _ _ _ rfl (hown.alloc _) ⟨wr.heap.size, 0, none⟩ 1 1 [.int .u8 0] rfl rfl (World.news_of_block (heap_alloc_new wr _)) (by simp [Value.oneCell']) (by decide) (by unfold maxLen; omega) (by omega) (by simp; omega) (wr.heap.size + 1) (by simp) ?_; intro g cap w1 hown1 hgrow _ _; have HO1 := Lib.hid hown1; have hel := (hown1.cellAt (q / 8) (by omega)).trans (HE0.out); have hfr := hown1.frozenAt (q / 8); have HB1 := Lib.hid (((HB.out.alloc hz _).grown hgrow (by simp; omega) (fun k hk => (hown.lt k hk).1))); clear hown1 hgrow)
              go_roundw
              case rel => exact ⟨q + 1, by omega, by go_num, by rw [E9.out, HT.out, ← next_keep, HTL.out, ← bytesN_grow_at HTL.out H8.out]; exact HO1.out, HB1.out⟩
              case measure => simp [intOf]; omega
            · go_wp2_with (at_builtin; refine wpList_append_lies _ rfl (.tmp 67) (.tmp 68) 24 rfl w.heap.size 5 i0 (.int .u8 0) 1 1 Tryd.underlying24 hi hz0 hz1 hz2 rfl (by decide) _ _ _ rfl (hown.alloc _) ⟨wr.heap.size, 0, none⟩ 1 1 [.int .u8 0] rfl rfl (World.news_of_block (heap_alloc_new wr _)) (by simp [Value.oneCell']) (by decide) (by unfold maxLen; omega) (by omega) (by simp; omega) (wr.heap.size + 1) (by simp) ?_; intro g cap w1 hown1 hgrow _ _; have HO1 := Lib.hid hown1; have hel := (hown1.cellAt (q / 8) (by omega)).trans (HE0.out); have hfr := hown1.frozenAt (q / 8); have HB1 := Lib.hid (((HB.out.alloc hz _).grown hgrow (by simp; omega) (fun k hk => (hown.lt k hk).1))); clear hown1 hgrow)
              go_region
              go_wp2
              have hst := (HO1.out.stored (q / 8) (.int .u8 128)).1
              have hbg := (HO1.out.lt g rfl).1
              go_roundw
              case rel => exact ⟨q + 1, by omega, by go_num, by rw [E9.out, HT.out, ← next_put pre true (by rw [HTL.out]; exact H8.out), HTL.out, last_one HTL.out H8.out]; exact hst.drew, (HB1.out.setCell hbg _).drew⟩
              case measure => simp [intOf]; omega
          · have hm1 : ((q : Int) % 8 == 0) = false := by simp; omega
            have e7 : (q + 7) / 8 = q / 8 + 1 := by omega
            have e9 : (q + 1 + 7) / 8 = q / 8 + 1 := by omega
            rw [e7] at hown
            have E9 := Lib.hid e9
            have H8 := Lib.hid h8
            cases b
            · have HO1 := Lib.hid hown
              clear e7 e9 htl h8 hown
              go_wp2
              go_roundw
              case rel => exact ⟨q + 1, by omega, by go_num, by rw [E9.out, HT.out, ← next_keep, ← bytesN_same _ (by rw [HTL.out]; exact H8.out)]; exact HO1.out, HB.out⟩
              case measure => simp [intOf]; omega
            · obtain ⟨g, cap, rfl, hbg, _⟩ := hown.form (by omega)
              have hel := (hown.cellAt (q / 8) (by omega)).trans (u8s_byte htl h8)
              have hfr := hown.frozenAt (q / 8)
              have hlast := last_true htl
              have hbl := byteAt_lt pre (q / 8)
              obtain ⟨old, eo⟩ : ∃ old, byteAt pre (q / 8) = old := ⟨_, rfl⟩
              rw [eo] at hel hlast hbl
              have HLA := Lib.hid hlast
              have HO1 := Lib.hid hown
              have hm3 : 0 ≤ (q : Int) % 8 := by omega
              have hm4 : (q : Int) % 8 < 8 := by omega
              clear e7 e9 htl h8 hown hlast eo
              go_wp2
              go_region
              go_wp2
              have hv : (((old : Int) + 128 / 2 ^ (q % 8)) % 256) = ((lastB pre true : Nat) : Int) := by rw [HLA.out]; exact shift_val (by rw [← HLA.out]; exact lastB_lt _ _)
              rw [hv]
              have hst := (HO1.out.stored (q / 8) (.int .u8 (lastB pre true : Nat))).1
              go_roundw
              case rel => exact ⟨q + 1, by omega, by go_num, by rw [E9.out, HT.out, ← next_set pre true (by rw [HTL.out]; exact H8.out), HTL.out]; exact hst.drew, (HB.out.setCell hbg _).drew⟩
              case measure => simp [intOf]; omega
        · obtain rfl : q = s.size := by omega
          have hcv := text_of (ownsRow_lies hown)
          have htk : l.take s.size = l := List.take_of_length_le (by rw [HS.out]; exact Nat.le_refl _)
          rw [htk] at hcv
          clear htk
          go_wp2
          go_ret
          exact ⟨by rw [← HLE.out]; rfl, HB.out⟩
end Go.Proofs.YtdfefhoihpbldaaDoor
