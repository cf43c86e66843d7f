/- Points packed: what the package does. -/
import Derived.Test.YtdfefhoihpbldaaDoorChFirst
import Derived.Test.YtdfefhoihpbldaaDoorChCheck
import Derived.Deep.RegionHeld3
namespace Go.Proofs.YtdfefhoihpbldaaDoor
open Go.RowKit

set_option maxHeartbeats 8000000 in
theorem cpack_any {w : World} {v0 : Value} {l0 : List Pt} (hv : PLies w v0 l0) (hf : ∀ t ∈ l0, t.fits) (hn : l0.length ≤ 1000) (hl : StepsLaid w) :
    Calls Tryd.prog 8 #[v0] w fun e w' => ∃ v', e = .returned (.tuple #[v', .int .i64 (rightZ l0)]) ∧ w'.ownsRow w.heap.size 5 1 v' (packedS l0).length (u8s (packedS l0)) ∧ Below w.heap.size w w' := by
  have HV := Lib.hid hv
  have HL := Lib.hid hl
  have HF := Lib.hid hf
  have hs0 := hl.lt
  obtain ⟨a, b, off, cap, rfl, hadr, hpts⟩ := hv
  have HADR := Lib.hid hadr
  have HP := Lib.hid hpts
  clear hadr hpts hl hf
  go_enter Tryd.func8, Tryd.ntmps8
  go_wp2_with fail
  refine (ccheck_any HV.out HF.out hn).mono ?_
  rintro e W1 ⟨rfl, hb1⟩
  have HB1 := Lib.hid hb1
  clear hb1
  obtain ⟨z, hz⟩ : ∃ z, rightZ l0 = z := ⟨_, rfl⟩
  rw [hz]
  have HZ := Lib.hid hz
  clear hz
  by_cases h0 : z = 0
  rotate_left
  · have t1 : (z != 0) = true := by simpa using h0
    have hps : packedS l0 = [] := by rw [packedS, if_neg (by rw [HZ.out]; exact h0)]
    have HPS := Lib.hid hps
    clear hps h0
    go_wp2
    go_ret2
    exact ⟨.slice none 0 0, by rw [HZ.out]; rfl, by rw [HPS.out]; exact World.ownsRow_nil _ _ _ _, HB1.out⟩
  subst h0
  have HR := Lib.hid ((rises_iff l0).1 HZ.out)
  have hps : packedS l0 = packB (chunkBits l0) := by rw [packedS, if_pos HZ.out]
  have HPS := Lib.hid hps
  have hzu : IntKind.u64.wrap (l0.length : Int) = l0.length := by rw [IntKind.wrap_u64]; omega
  have HW1 := Lib.hid (writer_new W1)
  have HL1 := Lib.hid ((HL.out.keep HB1.out hs0).alloc (.cells #[.slice none 0 0, .int .i64 0] 45))
  have hz1 := HB1.out.size
  clear hps
  go_wp2_with fail
  refine (put_ok (x := l0.length) (n := 16) (by omega) (by omega) (wid_le 16 (by omega)) HL1.out (by simp) (by simp) (Wrote.start HW1.out)).mono ?_
  rintro e W3 ⟨rfl, h3⟩
  have HW3 := Lib.hid (bwriter_of h3)
  have HB3 : Hid (Below W1.heap.size W1 W3) := Lib.hid (((Below.refl _ _).alloc (Nat.le_refl _) _).trans (h3.below (by simp)))
  obtain ⟨P, hP⟩ : ∃ P, P = W1.heap.size := ⟨_, rfl⟩
  rw [← hP] at HW3 HB3 hz1
  have hP3 : P ≤ W3.heap.size := by have := HB3.out.size; omega
  have HPE := Lib.hid hP
  have hsP : 0 < P := by omega
  clear h3 hzu HW1 HL1
  rw [← hP]
  clear hP
  go_wp2_with fail
  go_loopw [22] (fun c wr => ∃ k : Nat, k ≤ l0.length ∧ c = .int .i64 k ∧ (∃ g, WriterAt P wr P g (numBits l0.length 16 ++ ptBits l0 k)) ∧ Below P W1 wr ∧ P ≤ wr.heap.size) (fun c _ => l0.length - (intOf c).toNat)
  case atStart => exact ⟨0, by omega, rfl, by simpa [ptBits] using HW3.out, HB3.out, hP3⟩
  case round =>
    obtain ⟨k, hk, rfl, ⟨g, hw⟩, hbw, hPw⟩ := hrel
    have HW := Lib.hid hw
    have HBW := Lib.hid hbw
    by_cases hlt : k < l0.length
    · have ea := HADR.out (by intro h; simp [h] at hlt)
      subst ea
      obtain ⟨t, ht⟩ : ∃ t, l0[k]? = some t := ⟨l0[k], List.getElem?_eq_getElem hlt⟩
      obtain ⟨a0, a1⟩ := HP.out k t ht
      have hbl : b < w.heap.size := by have := cell_lt a0; exact this
      have hww : Below w.heap.size w wr := HB1.out.trans (hbw.mono (by omega))
      rw [← hww.cell (p := ⟨b, off + k * 2, none⟩) hbl] at a0
      rw [← hww.cell (p := ⟨b, off + k * 2 + 1, none⟩) hbl] at a1
      have hfit := HF.out t (List.mem_of_getElem? ht)
      have hrng := HR.out.1 t (List.mem_of_getElem? ht)
      have hlen1 := ptBits_le HR.out k (by omega)
      have hbs := ptBits_succ l0 k
      have HBS := Lib.hid hbs
      have HT := Lib.hid ht
      have hlb : (numBits l0.length 16 ++ ptBits l0 k).length ≤ 1000000 := by rw [List.length_append, numBits_length]; omega
      obtain ⟨ta, tv⟩ := t
      obtain ⟨f1, f2, f3, f4⟩ := hfit
      simp only at a0 a1 f1 f2 f3 f4 hrng
      have HNI : Hid ((wr.alloc (.cells #[.int .i64 ta, .int .i64 tv] 42)).heap[wr.heap.size]? = some (.cells #[.int .i64 ta, .int .i64 tv] 42 (0, 0))) := Lib.hid (heap_alloc_new wr _)
      have hal : Below wr.heap.size wr (wr.alloc (.cells #[.int .i64 ta, .int .i64 tv] 42)) := (Below.refl _ _).alloc (Nat.le_refl _) _
      have HWA := Lib.hid (hw.only (only_beyond (S := fun _ => False) hal) (fun h => h) (fun _ _ h => h))
      have hPa : P ≤ (wr.alloc (.cells #[.int .i64 ta, .int .i64 tv] 42)).heap.size := Nat.le_trans hPw hal.size
      have HSa : Hid (StepsLaid (wr.alloc (.cells #[.int .i64 ta, .int .i64 tv] 42))) := Lib.hid ((((HL.out.keep HB1.out hs0).keep hbw hsP)).alloc _)
      have HBA : Hid (Below P W1 (wr.alloc (.cells #[.int .i64 ta, .int .i64 tv] 42))) := Lib.hid (hbw.trans (hal.mono hPw))
      have HWWA : Hid (Below w.heap.size w (wr.alloc (.cells #[.int .i64 ta, .int .i64 tv] 42))) := Lib.hid (hww.alloc hww.size _)
      have c0 : (wr.alloc (.cells #[.int .i64 ta, .int .i64 tv] 42)).cell? ⟨wr.heap.size, 0, none⟩ = some (.int .i64 ta) := (cell_of_row _ wr.heap.size 0 _ _ _ (heap_alloc_new wr _)).trans rfl
      have c1 : (wr.alloc (.cells #[.int .i64 ta, .int .i64 tv] 42)).cell? ⟨wr.heap.size, 1, none⟩ = some (.int .i64 tv) := (cell_of_row _ wr.heap.size 1 _ _ _ (heap_alloc_new wr _)).trans rfl
      have hza : wr.heap.size < (wr.alloc (.cells #[.int .i64 ta, .int .i64 tv] 42)).heap.size := lt_of_block HNI.out
      clear hbw hbs hlen1 ht hww hw hal
      rcases Nat.eq_zero_or_pos k with h0 | h0
      · subst h0
        simp only [Nat.zero_mul, Nat.add_zero] at a0 a1
        have HBIT : Hid (bitsAt l0 0 = headBits ⟨ta, tv⟩) := Lib.hid (by rw [bitsAt, if_pos rfl, getD_at HT.out])
        go_wp2_with fail
        refine (cfirst_ok hrng.1 hrng.2 f3 f4 HSa.out hsP hPa (by omega) HWA.out).mono ?_
        rintro e W4 ⟨rfl, h4⟩
        have H4 := Lib.hid h4
        clear h4
        go_wp2
        go_roundw
        case rel => exact ⟨0 + 1, by omega, by go_num, by rw [HBS.out, HBIT.out, ← List.append_assoc]; exact bwriter_of H4.out, HBA.out.trans (H4.out.below hPa), Nat.le_trans hPa (H4.out.below hPa).size⟩
        case measure => simp [intOf]; omega
      · obtain ⟨m, hm⟩ : ∃ m, m + 1 = k := ⟨k - 1, by omega⟩
        obtain ⟨p, hp⟩ : ∃ p, l0[m]? = some p := ⟨l0[m]'(by omega), List.getElem?_eq_getElem (by omega)⟩
        obtain ⟨p0, p1⟩ := HP.out m p hp
        rw [← HWWA.out.cell (p := ⟨b, off + m * 2, none⟩) hbl] at p0
        rw [← HWWA.out.cell (p := ⟨b, off + m * 2 + 1, none⟩) hbl] at p1
        have hpr := HR.out.1 p (List.mem_of_getElem? hp)
        have hrise := HR.out.2 m p ⟨ta, tv⟩ hp (by rw [hm]; exact HT.out)
        have HBIT : Hid (bitsAt l0 k = nextBits p ⟨ta, tv⟩) := Lib.hid (by rw [bitsAt, if_neg (by omega), getD_at HT.out, show k - 1 = m by omega, getD_at hp])
        obtain ⟨pa, pv⟩ := p
        simp only at p0 p1 hpr hrise
        have k0 : ((k : Int) == 0) = false := by simp; omega
        have hml : m < l0.length := by omega
        have k1 : IntKind.i64.wrap ((k : Int) - 1) = (m : Int) := by rw [IntKind.wrap_i64]; omega
        clear hp hm h0
        go_wp2_with fail
        refine wp_region_held_drew (S := fun w => (w.cell? ⟨wr.heap.size, 0, none⟩ = some (.int .i64 ta) ∧ w.cell? ⟨wr.heap.size, 1, none⟩ = some (.int .i64 tv)) ∧ w.cell? ⟨b, off + m * 2, none⟩ = some (.int .i64 pa) ∧ w.cell? ⟨b, off + m * 2 + 1, none⟩ = some (.int .i64 pv)) (by kernel_rfl) ⟨⟨c0, c1⟩, p0, p1⟩ (fun _ => ?_)
        refine anyH_take (i := 0) (some 32) (v := _) rfl rfl (by kernel_rfl) (by kernel_rfl) (by kernel_rfl) (fun _ _ _ h => h) (by rfl) (⟨⟨c0, c1⟩, p0, p1⟩) (by intro w hSw; go_simp; try with_reducible rfl) ?_
        (try simp only [Act.put, List.setIfInBounds_toArray, List.set_cons_zero, List.set_cons_succ])
        refine anyH_take (i := 1) (some 33) (v := _) rfl rfl (by kernel_rfl) (by kernel_rfl) (by kernel_rfl) (fun _ _ _ h => h) (by rfl) (⟨⟨c0, c1⟩, p0, p1⟩) (by intro w hSw; go_simp; try with_reducible rfl) ?_
        (try simp only [Act.put, List.setIfInBounds_toArray, List.set_cons_zero, List.set_cons_succ])
        refine anyH_take (i := 2) (some 34) (v := _) rfl rfl (by kernel_rfl) (by kernel_rfl) (by kernel_rfl) (fun _ _ _ h => h) (by rfl) (⟨⟨c0, c1⟩, p0, p1⟩) (by intro w hSw; go_simp; try with_reducible rfl) ?_
        (try simp only [Act.put, List.setIfInBounds_toArray, List.set_cons_zero, List.set_cons_succ])
        refine anyH_take (i := 3) (some 35) (v := _) rfl rfl (by kernel_rfl) (by kernel_rfl) (by kernel_rfl) (fun _ _ _ h => h) (by rfl) (⟨⟨c0, c1⟩, p0, p1⟩) (by intro w hSw; go_simp; try with_reducible rfl) ?_
        (try simp only [Act.put, List.setIfInBounds_toArray, List.set_cons_zero, List.set_cons_succ])
        refine anyH_take (i := 4) (some 36) (v := _) rfl rfl (by kernel_rfl) (by kernel_rfl) (by kernel_rfl) (fun _ _ _ h => h) (by rfl) (⟨⟨c0, c1⟩, p0, p1⟩) (by intro w hSw; go_simp; try with_reducible rfl) ?_
        (try simp only [Act.put, List.setIfInBounds_toArray, List.set_cons_zero, List.set_cons_succ])
        refine anyH_take (i := 5) (some 37) (v := _) rfl rfl (by kernel_rfl) (by kernel_rfl) (by kernel_rfl) (fun _ _ _ h => h) (by rfl) (⟨⟨c0, c1⟩, p0, p1⟩) (by intro w hSw; go_simp; try with_reducible rfl) ?_
        (try simp only [Act.put, List.setIfInBounds_toArray, List.set_cons_zero, List.set_cons_succ])
        refine anyH_take (i := 6) (some 38) (v := _) rfl rfl (by kernel_rfl) (by kernel_rfl) (by kernel_rfl) (fun _ _ _ h => h) (by rfl) (⟨⟨c0, c1⟩, p0, p1⟩) (by intro w hSw; go_simp; try with_reducible rfl) ?_
        (try simp only [Act.put, List.setIfInBounds_toArray, List.set_cons_zero, List.set_cons_succ])
        refine wpAnyH_ready (rs := [7]) (by kernel_rfl) (by simp) (AllReadyH.cons rfl (fun K hK => ?_) AllReadyH.nil)
        go_simp
        (refine (cnext_ok hpr.1 hrise hrng.2 (HSa.out.below ((Below.refl _ _).drew)) hsP hPa (by omega) (HWA.out.beyond ((Below.refl _ _).drew))).mono ?_; rintro e W4 ⟨rfl, h4⟩; have dh : W4.heap[wr.heap.size]? = some (.cells #[.int .i64 ta, .int .i64 tv] 42 (0, 0)) := bnew_stays HW.out h4 HNI.out; have d0 : W4.cell? ⟨wr.heap.size, 0, none⟩ = some (.int .i64 ta) := (cell_of_row _ wr.heap.size 0 _ _ _ dh).trans rfl; have d1 : W4.cell? ⟨wr.heap.size, 1, none⟩ = some (.int .i64 tv) := (cell_of_row _ wr.heap.size 1 _ _ _ dh).trans rfl; have HG4 := Lib.hid (bwriter_of h4); have h4b : Below P (wr.alloc (.cells #[.int .i64 ta, .int .i64 tv] 42)) W4 := ((Below.refl _ _).drew).trans (h4.below hPa); have H4B := Lib.hid h4b; have d2 : W4.cell? ⟨b, off + m * 2, none⟩ = some (.int .i64 pa) := (h4b.cell (p := ⟨b, off + m * 2, none⟩) (by simp only; omega)).trans p0; have d3 : W4.cell? ⟨b, off + m * 2 + 1, none⟩ = some (.int .i64 pv) := (h4b.cell (p := ⟨b, off + m * 2 + 1, none⟩) (by simp only; omega)).trans p1; clear h4 h4b)
        go_wp2_with fail
        refine hK.out _ _ (⟨⟨d0, d1⟩, d2, d3⟩) (fun _ => ?_)
        clear hK K
        (try simp only [Act.put, List.setIfInBounds_toArray, List.set_cons_zero, List.set_cons_succ])
        refine wpAnyH_done (by kernel_rfl) ?_ _
        go_wp2
        go_roundw
        case rel => exact ⟨k + 1, by omega, by go_num, by rw [HBS.out, HBIT.out, ← List.append_assoc]; exact HG4.out, HBA.out.trans H4B.out, Nat.le_trans hPa H4B.out.size⟩
        case measure => simp [intOf]; omega
    · obtain rfl : k = l0.length := by omega
      have hlen1 := ptBits_le HR.out l0.length (Nat.le_refl _)
      have hcl : (chunkBits l0).length ≤ 1000000 := by rw [chunkBits, List.length_append, numBits_length]; omega
      have hcb : numBits l0.length 16 ++ ptBits l0 l0.length = chunkBits l0 := rfl
      rw [hcb] at HW
      clear hw hbw hlen1 hcb
      go_wp2_with fail
      refine (bytesW P (Wrote.start HW.out) (by omega)).mono ?_
      rintro e W6 ⟨v6, rfl, hown6, hb6⟩
      have HO6 := Lib.hid hown6
      have HB6 := Lib.hid hb6
      clear hown6 hb6
      go_wp2
      go_ret2
      exact ⟨v6, by rw [HZ.out]; rfl, by rw [HPS.out]; exact row_base HO6.out (by omega), HB1.out.trans ((HBW.out.trans (HB6.out.mono hPw)).mono (by omega))⟩
end Go.Proofs.YtdfefhoihpbldaaDoor
