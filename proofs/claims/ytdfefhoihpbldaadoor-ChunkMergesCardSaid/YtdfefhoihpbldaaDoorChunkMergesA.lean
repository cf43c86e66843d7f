/- ChunkMerges, walked. -/
import Derived.Test.YtdfefhoihpbldaaDoorChMerge
import Derived.Deep.RegionHeld3
import Derived.Deep.QuietTactic
namespace Go.Proofs.YtdfefhoihpbldaaDoor
open Go.RowKit

def flt (a b : List Pt) (k : Nat) : List Pt := (a.take k).filter fun p => !(b.any fun q => p.a == q.a)
theorem flt_next {a b : List Pt} {k : Nat} {t : Pt} (h : a[k]? = some t) : flt a b (k + 1) = flt a b k ++ (if b.any (fun q => t.a == q.a) then [] else [t]) := by
  unfold flt
  rw [List.take_add_one, h, List.filter_append]
  congr 1
  by_cases h2 : b.any (fun q => t.a == q.a) = true <;> simp [h2]
theorem flt_le (a b : List Pt) (k : Nat) : (flt a b k).length ≤ k := by
  unfold flt
  have h1 := List.length_filter_le (fun p => !(b.any fun q => p.a == q.a)) (a.take k)
  rw [List.length_take] at h1
  omega
theorem any_next {l : List Pt} {j : Nat} {u : Pt} {x : Int} (h : l[j]? = some u) : (l.take (j + 1)).any (fun q => x == q.a) = ((l.take j).any (fun q => x == q.a) || (x == u.a)) := by
  rw [List.take_add_one, h, List.any_append]; simp

/-- bytes of points as a slice of a text: Lies -/
theorem lies_full {w : World} {b cap : Nat} {bs : List Nat} (hc : BytesAt w b 0 bs) : Lies w (.slice (some ⟨b, 0, none⟩) bs.length cap) bs := .inr (.inr ⟨b, 0, cap, rfl, hc⟩)

set_option maxHeartbeats 8000000 in
set_option maxRecDepth 100000 in
theorem chunkMerges_some (D : ChunkDoes) {w : World} {v0 v1 : Value} {l0 l1 : List Pt} (hv : PLies w v0 l0) (hv1 : PLies w v1 l1) (hf : ∀ t ∈ l0, t.fits) (hf1 : ∀ t ∈ l1, t.fits) (hn : l0.length ≤ 40) (hn1 : l1.length ≤ 40) (hl : StepsLaid w) :
    Calls Tryd.prog 6 #[v0, v1] w fun e w' => e = .returned (.bool true) ∧ Below w.heap.size w w' := by
  obtain ⟨i0, hi, hz0, hz1, hz2⟩ := info_parts infoPt
  have HV := hv
  have HV1 := hv1
  obtain ⟨a, b, off, cap, rfl, hadr, hpts⟩ := hv
  obtain ⟨a', b', off', cap', rfl, hadr', hpts'⟩ := hv1
  have HV := Lib.hid HV
  have HV1 := Lib.hid HV1
  have HADR := Lib.hid hadr
  have HADR' := Lib.hid hadr'
  have HP := Lib.hid hpts
  have HP' := Lib.hid hpts'
  have HL := Lib.hid hl
  have HD := Lib.hid D
  have HF := Lib.hid hf
  have HF1 := Lib.hid hf1
  have hs0 := hl.lt
  have t0 : decide ((40 : Int) < l0.length) = false := by simp; omega
  have t0' : decide ((40 : Int) < l1.length) = false := by simp; omega
  clear hl D hf hf1 hadr hadr' hpts hpts'
  go_enter Tryd.func6, Tryd.ntmps6
  go_wp2_with fail
  refine (lives04 HD.out _ HL.out).mono ?_
  rintro e W1 ⟨rfl, hb1⟩
  have HB1 := Lib.hid hb1
  have HL1 := Lib.hid (HL.out.keep hb1 hs0)
  clear hb1
  go_wp2_with fail
  refine (right4_any (HV.out.beyond HB1.out) HF.out (by omega)).mono ?_
  rintro e W2 ⟨rfl, hb2⟩
  have HB2 := Lib.hid (HB1.out.trans (hb2.mono HB1.out.size))
  have HL2 := Lib.hid (HL1.out.below hb2)
  clear hb2
  obtain ⟨z, hz⟩ : ∃ z, rightZ l0 = z := ⟨_, rfl⟩
  rw [hz]
  have HZ := Lib.hid hz
  clear hz
  by_cases hz : z = 0
  rotate_left
  · have t1 : (z != 0) = true := by simpa using hz
    clear hz
    go_wp2_with fail
    refine (lives04 HD.out _ HL2.out).mono ?_
    rintro e W3 ⟨rfl, hb3⟩
    have HB3 := Lib.hid (HB2.out.trans (hb3.mono HB2.out.size))
    clear hb3
    go_wp2
    go_ret
    exact ⟨rfl, HB3.out⟩
  subst hz
  go_wp2_with fail
  refine (right4_any (HV1.out.beyond HB2.out) HF1.out (by omega)).mono ?_
  rintro e W3 ⟨rfl, hb3⟩
  have HB3 := Lib.hid (HB2.out.trans (hb3.mono HB2.out.size))
  have HL3 := Lib.hid (HL2.out.below hb3)
  clear hb3
  obtain ⟨z, hz⟩ : ∃ z, rightZ l1 = z := ⟨_, rfl⟩
  rw [hz]
  have HZ1 := Lib.hid hz
  clear hz
  by_cases hz : z = 0
  rotate_left
  · have t1 : (z != 0) = true := by simpa using hz
    clear hz
    go_wp2_with fail
    refine (lives04 HD.out _ HL3.out).mono ?_
    rintro e W4 ⟨rfl, hb4⟩
    have HB4 := Lib.hid (HB3.out.trans (hb4.mono HB3.out.size))
    clear hb4
    go_wp2
    go_ret
    exact ⟨rfl, HB4.out⟩
  subst hz
  have HR := Lib.hid ((rises_iff l0).1 HZ.out)
  have HR1 := Lib.hid ((rises_iff l1).1 HZ1.out)
  have HUP := Lib.hid (unpack_pack HR.out HF.out (by omega))
  have HUP1 := Lib.hid (unpack_pack HR1.out HF1.out (by omega))
  have hc0 := ptBits_le HR.out l0.length (Nat.le_refl _)
  have hc1 := ptBits_le HR1.out l1.length (Nat.le_refl _)
  obtain ⟨bs, hbs⟩ : ∃ bs, packB (chunkBits l0) = bs := ⟨_, rfl⟩
  obtain ⟨cs, hcs⟩ : ∃ cs, packB (chunkBits l1) = cs := ⟨_, rfl⟩
  have hbl : bs.length ≤ 100000 := by rw [← hbs, packB_length, chunkBits, List.length_append, numBits_length]; omega
  have hcl : cs.length ≤ 100000 := by rw [← hcs, packB_length, chunkBits, List.length_append, numBits_length]; omega
  have HSB : Hid (∀ x ∈ bs, x < 256) := Lib.hid (by rw [← hbs]; exact packB_small _)
  have HSC : Hid (∀ x ∈ cs, x < 256) := Lib.hid (by rw [← hcs]; exact packB_small _)
  rw [hbs] at HUP
  rw [hcs] at HUP1
  have HBS := Lib.hid hbs
  have HCS := Lib.hid hcs
  clear hc0 hc1 hbs hcs
  go_wp2_with fail
  refine (bytes4_any (HV.out.beyond HB3.out) HF.out HR.out (by omega)).mono ?_
  rw [HBS.out]
  rintro e W4 ⟨rfl, hb4⟩
  have HB4 := Lib.hid (HB3.out.trans (hb4.mono HB3.out.size))
  have HL4 := Lib.hid (HL3.out.below hb4)
  clear hb4
  obtain ⟨V4, b4, cap4, hrun4, _, hvb4, hba4⟩ := bytes_of_text2 W4 (strOf bs)
  rw [ords_strOf HSB.out] at hba4
  rw [strOf_size] at hrun4
  have HRUN4 := Lib.hid hrun4
  have HB5 := Lib.hid (HB4.out.trans (hvb4.mono HB4.out.size))
  have HL5 := Lib.hid (HL4.out.below hvb4)
  have HBA := Lib.hid hba4
  clear hrun4 hvb4 hba4
  go_wp2_with (refine wpList_bytes rfl (.tmp 45) rfl rfl HRUN4.out ?_)
  refine (bytes4_any (HV1.out.beyond HB5.out) HF1.out HR1.out (by omega)).mono ?_
  rw [HCS.out]
  rintro e W6 ⟨rfl, hb6⟩
  have HB6 := Lib.hid (HB5.out.trans (hb6.mono HB5.out.size))
  have HL6 := Lib.hid (HL5.out.below hb6)
  have HBA6 := Lib.hid (HBA.out.beyond hb6)
  clear hb6
  obtain ⟨V6, b6, cap6, hrun6, _, hvb6, hba6⟩ := bytes_of_text2 W6 (strOf cs)
  rw [ords_strOf HSC.out] at hba6
  rw [strOf_size] at hrun6
  have HRUN6 := Lib.hid hrun6
  have HB7 := Lib.hid (HB6.out.trans (hvb6.mono HB6.out.size))
  have HL7 := Lib.hid (HL6.out.below hvb6)
  have HBA7 := Lib.hid (HBA6.out.beyond hvb6)
  have HBC := Lib.hid hba6
  clear hrun6 hvb6 hba6
  go_wp2_with (refine wpList_bytes rfl (.tmp 48) rfl rfl HRUN6.out ?_)
  refine (HD.out.merge (lies_full HBA7.out) (lies_full HBC.out) HSB.out HSC.out (by rw [HUP.out, HUP1.out]; simp only; omega) (by omega) (by omega) HL7.out).mono ?_
  rintro e W8 ⟨vm, zm, ms, rfl, hownm, hb8, hres⟩
  have hm : zm = 0 ∧ ∃ lm, Merged l0 l1 lm ∧ ms = packB (chunkBits lm) := by
    rw [HUP.out, HUP1.out] at hres
    rcases hres with ⟨h, _⟩ | ⟨_, h, _⟩ | ⟨_, _, h, lm, h1, h2⟩
    · exact absurd rfl h
    · exact absurd rfl h
    · exact ⟨h, lm, h1, h2⟩
  obtain ⟨rfl, lm, hmer, rfl⟩ := hm
  have HMER := Lib.hid hmer
  have HB8 := Lib.hid (HB7.out.trans (hb8.mono HB7.out.size))
  have HL8 := Lib.hid (HL7.out.below hb8)
  have HIM := Lib.hid (ownsRow_lies hownm)
  obtain ⟨am, cm, rfl⟩ := own_slice hownm
  clear hb8 hres hmer hownm HBA HBA6 HBA7 HBC HRUN4 HRUN6 HB1 HB2 HB3 HB4 HB5 HB6 HB7 HL1 HL2 HL3 HL4 HL5 HL6 HL7
  have hz8 := HB8.out.size
  go_wp2_with fail
  obtain ⟨B, hB⟩ : ∃ B, B = W8.heap.size := ⟨_, rfl⟩
  have hzB : w.heap.size ≤ B := by omega
  have HBB := Lib.hid hB
  clear hz8
  go_loopw [7, 55] (fun v c wr => ∃ k : Nat, k ≤ l0.length ∧ c = .int .i64 k ∧ wr.ownsRow B 42 2 v (flt l0 l1 k).length ((flt l0 l1 k).flatMap Pt.cells) ∧ Below B W8 wr ∧ B ≤ wr.heap.size) (fun _ c _ => l0.length - (intOf c).toNat)
  case atStart => exact ⟨0, by omega, rfl, by simpa [flt] using World.ownsRow_nil W8 B 42 2, Below.refl _ _, by omega⟩
  clear hB
  case round =>
    obtain ⟨k, hk, rfl, hown, hbw, hBz⟩ := hrel
    have HO := Lib.hid hown
    have HBW := Lib.hid hbw
    clear hown hbw
    obtain ⟨wq, hwq⟩ : ∃ wq, wq = wr := ⟨_, rfl⟩
    subst hwq
    by_cases hlt : k < l0.length
    · have ea := HADR.out (by intro h; simp [h] at hlt)
      subst ea
      obtain ⟨t, ht⟩ : ∃ t, l0[k]? = some t := ⟨l0[k], List.getElem?_eq_getElem hlt⟩
      obtain ⟨a0, a1⟩ := HP.out k t ht
      have hbl2 : b < w.heap.size := by have := cell_lt a0; exact this
      have hwq : Below w.heap.size w wq := HB8.out.trans (HBW.out.mono hzB)
      rw [← hwq.cell (p := ⟨b, off + k * 2, none⟩) hbl2] at a0
      rw [← hwq.cell (p := ⟨b, off + k * 2 + 1, none⟩) hbl2] at a1
      have HT := Lib.hid ht
      have HWR := Lib.hid hwq
      have hnx := flt_next (b := l1) ht
      have HNX := Lib.hid hnx
      have hfl := flt_le l0 l1 k
      clear ht hwq hnx
      obtain ⟨ta, tv⟩ := t
      simp only at a0 a1
      have hnew := heap_alloc_new wq (.cells #[.int .i64 ta, .int .i64 tv] 42)
      have hza : wq.heap.size < (wq.alloc (.cells #[.int .i64 ta, .int .i64 tv] 42)).heap.size := lt_of_block hnew
      have HNEW := Lib.hid hnew
      have HAL : Hid (Below B W8 (wq.alloc (.cells #[.int .i64 ta, .int .i64 tv] 42))) := Lib.hid (HBW.out.alloc hBz _)
      have HWA : Hid (Below w.heap.size w (wq.alloc (.cells #[.int .i64 ta, .int .i64 tv] 42))) := Lib.hid (HWR.out.alloc (by omega) _)
      clear hnew
      go_wp2_with fail
      obtain ⟨wa, hwa⟩ : ∃ wa, wa = wq.alloc (.cells #[.int .i64 ta, .int .i64 tv] 42) := ⟨_, rfl⟩
      rw [← hwa] at hza ⊢
      have HWAE := Lib.hid hwa
      rw [← hwa] at HNEW HAL HWA
      clear hwa
      go_loopw [10, 61] (fun o c w2 => ∃ j : Nat, j ≤ l1.length ∧ c = .int .i64 j ∧ o = .bool ((l1.take j).any fun q => ta == q.a) ∧ Below wa.heap.size wa w2) (fun _ c _ => l1.length - (intOf c).toNat)
      case atStart => exact ⟨0, by omega, rfl, by simp, Below.refl _ _⟩
      case round =>
        obtain ⟨j, hj, rfl, rfl, hb2⟩ := hrel
        have HB2 := Lib.hid hb2
        have hzi := hb2.size
        by_cases hlt2 : j < l1.length
        · have ea' := HADR'.out (by intro h; simp [h] at hlt2)
          subst ea'
          obtain ⟨u, hu⟩ : ∃ u, l1[j]? = some u := ⟨l1[j], List.getElem?_eq_getElem hlt2⟩
          obtain ⟨c0, c1⟩ := HP'.out j u hu
          have hbl3 : b' < w.heap.size := by have := cell_lt c0; exact this
          have hw2 : Below w.heap.size w wr := HWA.out.trans (hb2.mono HWA.out.size)
          rw [← hw2.cell (p := ⟨b', off' + j * 2, none⟩) hbl3] at c0
          rw [← hw2.cell (p := ⟨b', off' + j * 2 + 1, none⟩) hbl3] at c1
          have d0 : (wr.alloc (.cells #[.int .i64 u.a, .int .i64 u.v] 42)).cell? ⟨wq.heap.size, 0, none⟩ = some (.int .i64 ta) := by
            rw [((Below.refl wr.heap.size wr).alloc (Nat.le_refl _) _).cell (p := ⟨wq.heap.size, 0, none⟩) (by simp only; omega), hb2.cell (p := ⟨wq.heap.size, 0, none⟩) hza]
            exact (cell_of_row _ wq.heap.size 0 _ _ _ HNEW.out).trans rfl
          have hany := any_next (x := ta) hu
          have HANY := Lib.hid hany
          clear hu hw2 hb2 hany
          obtain ⟨ua, uv⟩ := u
          simp only at c0 c1 d0
          generalize ((l1.take j).any fun q => ta == q.a) = ov at *
          cases ov
          · obtain ⟨eq, heq⟩ : ∃ eq, (ta == ua) = eq := ⟨_, rfl⟩
            have HEQ := Lib.hid heq
            cases eq
            all_goals
              go_wp2
              go_roundw
              case rel => exact ⟨j + 1, by omega, by go_num, by rw [HANY.out]; simp only; rw [HEQ.out]; rfl, HB2.out.alloc hzi _⟩
              case measure => simp [intOf]; omega
          · go_wp2
            go_roundw
            case rel => exact ⟨j + 1, by omega, by go_num, by rw [HANY.out]; rfl, HB2.out.alloc hzi _⟩
            case measure => simp [intOf]; omega
        · obtain rfl : j = l1.length := by omega
          rw [List.take_of_length_le (Nat.le_refl _)]
          have hit : wr.heap[wq.heap.size]? = some (.cells #[.int .i64 ta, .int .i64 tv] 42 (0, 0)) := (hb2.block _ hza).trans HNEW.out
          have d0 : wr.cell? ⟨wq.heap.size, 0, none⟩ = some (.int .i64 ta) := (cell_of_row _ wq.heap.size 0 _ _ _ hit).trans rfl
          have d1 : wr.cell? ⟨wq.heap.size, 1, none⟩ = some (.int .i64 tv) := (cell_of_row _ wq.heap.size 1 _ _ _ hit).trans rfl
          have HA2 : Hid (Below B W8 wr) := Lib.hid (HAL.out.trans (hb2.mono (by omega)))
          have hBz2 : B ≤ wr.heap.size := by omega
          have HO2 : Hid (wr.ownsRow B 42 2 u7 (flt l0 l1 k).length ((flt l0 l1 k).flatMap Pt.cells)) := Lib.hid (ownsRow_beyond (by rw [HWAE.out]; exact HO.out.alloc _) hb2)
          have hfl2 : (flt l0 l1 k).length ≤ 1000 := by omega
          clear hit hb2
          obtain ⟨ov, hov⟩ : ∃ ov, (l1.any fun q => ta == q.a) = ov := ⟨_, rfl⟩
          rw [hov]
          have HOV := Lib.hid hov
          clear hov
          cases ov
          · go_wp2_with (at_builtin; refine wpList_append_own _ rfl (.tmp 76) (.tmp 78) 22 rfl B 42 i0 (.agg #[.int .i64 0, .int .i64 0]) 2 16 Tryd.underlying22 hi hz0 hz1 hz2 rfl (by decide) _ _ _ rfl (HO2.out.alloc _) ⟨wr.heap.size, 0, none⟩ 1 1 [.int .i64 ta, .int .i64 tv] rfl rfl (World.news_of_block (heap_alloc_new wr _)) (by simp [Value.oneCell']) (by unfold maxLen; omega) (by omega) (by simp; omega) ?_; intro v4 W4 hown4 hgrow4 _; have HO4 := Lib.hid hown4; have HA4 := Lib.hid ((HA2.out.alloc hBz2 _).grown hgrow4 (by simp; omega) (fun k hk => (HO2.out.lt k hk).1)); have hz4 := hgrow4.size; clear hown4 hgrow4)
            go_roundw
            case rel => exact ⟨k + 1, by omega, by go_num, by rw [HNX.out, if_neg (by rw [HOV.out]; decide)]; simpa [Pt.cells] using HO4.out, HA4.out, by simp at hz4; omega⟩
            case measure => simp [intOf]; omega
          · go_wp2
            go_roundw
            case rel => exact ⟨k + 1, by omega, by go_num, by rw [HNX.out, if_pos HOV.out, List.append_nil]; exact HO2.out, HA2.out, hBz2⟩
            case measure => simp [intOf]; omega
    · obtain rfl : k = l0.length := by omega
      have hfl := flt_le l0 l1 l0.length
      have hsf : Sofar l0 l1 0 (flt l0 l1 l0.length) := by unfold flt; rw [List.take_of_length_le (Nat.le_refl _)]; exact sofar_filter HR.out
      have HSF0 := Lib.hid hsf
      have HW0 := Lib.hid (want_row HO.out)
      clear hsf
      go_wp2_with fail
      go_loopw [7, 83] (fun v c wr => ∃ k : Nat, k ≤ l1.length ∧ c = .int .i64 k ∧ ∃ x, WantAt wr v x ∧ Sofar l0 l1 k x ∧ x.length ≤ l0.length + k ∧ Below B W8 wr ∧ B ≤ wr.heap.size) (fun _ c _ => l1.length - (intOf c).toNat)
      case atStart => exact ⟨0, by omega, rfl, _, HW0.out, HSF0.out, by omega, HBW.out, hBz⟩
      case round =>
        obtain ⟨k, hk, rfl, x, hwant, hsf, hxl, hbw, hBz⟩ := hrel
        have HBW2 := Lib.hid hbw
        have HSF := Lib.hid hsf
        have HWANT := Lib.hid hwant
        obtain ⟨wm, hwm⟩ : ∃ wm, wm = wr := ⟨_, rfl⟩
        subst hwm
        by_cases hlt3 : k < l1.length
        · have ea' := HADR'.out (by intro h; simp [h] at hlt3)
          subst ea'
          obtain ⟨q, hq⟩ : ∃ q, l1[k]? = some q := ⟨l1[k], List.getElem?_eq_getElem hlt3⟩
          obtain ⟨a0, a1⟩ := HP'.out k q hq
          have hbl2 : b' < w.heap.size := by have := cell_lt a0; exact this
          have hwmb : Below w.heap.size w wm := HB8.out.trans (hbw.mono hzB)
          rw [← hwmb.cell (p := ⟨b', off' + k * 2, none⟩) hbl2] at a0
          rw [← hwmb.cell (p := ⟨b', off' + k * 2 + 1, none⟩) hbl2] at a1
          have HQ := Lib.hid hq
          clear hq hwmb
          obtain ⟨qa, qv⟩ := q
          simp only at a0 a1
          have hnew := heap_alloc_new wm (.cells #[.int .i64 qa, .int .i64 qv] 42)
          have hza0 : wm.heap.size < (wm.alloc (.cells #[.int .i64 qa, .int .i64 qv] 42)).heap.size := lt_of_block hnew
          have e00 : (wm.alloc (.cells #[.int .i64 qa, .int .i64 qv] 42)).cell? ⟨wm.heap.size, 0, none⟩ = some (.int .i64 qa) := (cell_of_row _ wm.heap.size 0 _ _ _ hnew).trans rfl
          have e10 : (wm.alloc (.cells #[.int .i64 qa, .int .i64 qv] 42)).cell? ⟨wm.heap.size, 1, none⟩ = some (.int .i64 qv) := (cell_of_row _ wm.heap.size 1 _ _ _ hnew).trans rfl
          have hal : Below B W8 (wm.alloc (.cells #[.int .i64 qa, .int .i64 qv] 42)) := hbw.alloc hBz _
          have hwa0 := hwant.beyond ((Below.refl wm.heap.size wm).alloc (Nat.le_refl _) (.cells #[.int .i64 qa, .int .i64 qv] 42))
          obtain ⟨wa, hwa⟩ : ∃ wa, wa = wm.alloc (.cells #[.int .i64 qa, .int .i64 qv] 42) := ⟨_, rfl⟩
          have hza : wm.heap.size < wa.heap.size := by rw [hwa]; exact hza0
          have e0 : wa.cell? ⟨wm.heap.size, 0, none⟩ = some (.int .i64 qa) := by rw [hwa]; exact e00
          have e1 : wa.cell? ⟨wm.heap.size, 1, none⟩ = some (.int .i64 qv) := by rw [hwa]; exact e10
          have HAL : Hid (Below B W8 wa) := Lib.hid (by rw [hwa]; exact hal)
          have HWA : Hid (WantAt wa u7 x) := Lib.hid (by rw [hwa]; exact hwa0)
          have HWE := Lib.hid hwa
          have HE0 := Lib.hid e0
          have HE1 := Lib.hid e1
          clear hnew hza0 e00 e10 hal hwa0 hwa hbw hsf hwant e0 e1
          go_wp2_with fail
          rcases HWA.out with ⟨rfl, rfl⟩ | ⟨g, cg, rfl, hcg, hpx⟩
          · have e0 := HE0.out
            have e1 := HE1.out
            rw [← HWE.out]
            go_loopw [15] (fun c wr => ∃ j : Nat, j ≤ 0 ∧ c = .int .i64 j ∧ (∀ i p, i < j → ([] : List Pt)[i]? = some p → p.a < qa) ∧ Below wa.heap.size wa wr) (fun c _ => 0 - (intOf c).toNat)
            case atStart => exact ⟨0, by omega, rfl, fun i p hi => by omega, Below.refl _ _⟩
            case round =>
              obtain ⟨j, hj, rfl, hlow, hbi⟩ := hrel
              have HLOW := Lib.hid hlow
              have HBI := Lib.hid hbi
              have hzi := hbi.size
              have q0 : wr.cell? ⟨wm.heap.size, 0, none⟩ = some (.int .i64 qa) := (hbi.cell (p := ⟨wm.heap.size, 0, none⟩) hza).trans e0
              have q1 : wr.cell? ⟨wm.heap.size, 1, none⟩ = some (.int .i64 qv) := (hbi.cell (p := ⟨wm.heap.size, 1, none⟩) hza).trans e1
              have HAL2 : Hid (Below B W8 wr) := Lib.hid (HAL.out.trans (hbi.mono (by omega)))
              clear hlow hbi
              obtain rfl : j = 0 := by omega
              have HEND : Hid (∀ p, ([] : List Pt)[0]? = some p → ¬ p.a < qa) := Lib.hid (fun p hp => by simp at hp)
              go_wp2_with fail
              go_quiet (fail)
              go_wp2_with fail
              obtain ⟨w4, hw4⟩ : ∃ w4, w4 = wr.drewN nq := ⟨_, rfl⟩
              rw [← hw4]
              have hb4 : Below wr.heap.size wr w4 := by rw [hw4]; exact (only_drewN (fun _ => False) wr nq).below (Nat.le_refl _) (fun _ h => h.elim)
              have r0 : w4.cell? ⟨wm.heap.size, 0, none⟩ = some (.int .i64 qa) := (hb4.cell (p := ⟨wm.heap.size, 0, none⟩) (by simp only; omega)).trans q0
              have r1 : w4.cell? ⟨wm.heap.size, 1, none⟩ = some (.int .i64 qv) := (hb4.cell (p := ⟨wm.heap.size, 1, none⟩) (by simp only; omega)).trans q1
              have s0 : ∀ o, (w4.alloc o).cell? ⟨wm.heap.size, 0, none⟩ = some (.int .i64 qa) := fun o => (((Below.refl w4.heap.size w4).alloc (Nat.le_refl _) o).cell (p := ⟨wm.heap.size, 0, none⟩) (cell_lt r0)).trans r0
              have s1 : ∀ o, (w4.alloc o).cell? ⟨wm.heap.size, 1, none⟩ = some (.int .i64 qv) := fun o => (((Below.refl w4.heap.size w4).alloc (Nat.le_refl _) o).cell (p := ⟨wm.heap.size, 1, none⟩) (cell_lt r1)).trans r1
              have hz4 := hb4.size
              have HAL4 : Hid (Below B W8 w4) := Lib.hid (HAL2.out.trans (hb4.mono (by omega)))
              clear hw4 hb4 q0 q1
              go_region_law (first | (refine step_append_own2 _ rfl (.tmp 108) (.tmp 111) 22 rfl w4.heap.size 42 i0 (.agg #[.int .i64 0, .int .i64 0]) 2 16 Tryd.underlying22 hi hz0 hz1 hz2 rfl (by decide) (.slice (some ⟨w4.heap.size, 0, none⟩) 1 1) 1 [.int .i64 qa, .int .i64 qv] (by simp [Act.eval]) (World.ownsRow_lit w4.drew #[.int .i64 qa, .int .i64 qv] 1 (Nat.le_refl _) (by decide) rfl) (.slice none 0 0) 0 [] (by simp [Act.eval]) (.inl ⟨rfl, rfl, rfl⟩) (fun u hu => by simp at hu) (by unfold maxLen; omega) (by omega) (by simp) ?_; intro v5 w5 hown5 hgrow5; obtain ⟨g5, c5, rfl, _, _⟩ := hown5.form (by omega); have HO5 := Lib.hid hown5; have HB5 := Lib.hid ((((Below.refl w4.heap.size w4).drew).alloc (Nat.le_refl _) (.cells #[.int .i64 qa, .int .i64 qv] 42)).grown hgrow5 (by simp) (by intro k hk; have h1 : some w4.heap.size = some k := hk; have h2 := Option.some.inj h1; omega)); clear hown5 hgrow5) | (refine step_append_new2 _ rfl (.tmp 106) (.tmp 112) 22 rfl 42 i0 (.agg #[.int .i64 0, .int .i64 0]) 2 16 Tryd.underlying22 hi hz0 hz1 hz2 (.slice none 0 0) 0 [] (by simp [Act.eval]) (.inl ⟨rfl, rfl, rfl⟩) ⟨g5, 0, none⟩ (1 + 0) c5 ([.int .i64 qa, .int .i64 qv] ++ []) (by simp [Act.eval]) (by simp) (HO5.out.cells (g := g5) rfl) (by omega) (by omega) (by decide) ?_; intro g6 c6 w6 hb6 hc6 hcap6 hlt6; have HB6 := Lib.hid hb6; have HC6 := Lib.hid hc6; clear hb6 hc6))
              all_goals
                have hb65 : Below w4.heap.size w4 w6 := HB5.out.trans (HB6.out.mono HB5.out.size)
                have hz6 := hb65.size
                have hw6 : WantAt w6 (.slice (some ⟨g6, 0, none⟩) (0 + (1 + 0)) c6) (([] : List Pt).take 0 ++ ⟨qa, qv⟩ :: ([] : List Pt).drop 0) := by
                  refine .inr ⟨g6, c6, ?_, ?_, cells_pts fun i u hu => ?_⟩
                  · have hl6 : 0 + (1 + 0) = (([] : List Pt).take 0 ++ ⟨qa, qv⟩ :: ([] : List Pt).drop 0).length := by rw [ins_len]; rfl
                    rw [← hl6]
                  · rw [ins_len]; rw [List.length_nil]; omega
                  · rw [Nat.zero_add]; refine HC6.out i u ?_; rw [← hu]; simp [Pt.cells]
                have HW6 := Lib.hid hw6
                have HBN : Hid (Below B W8 w6) := Lib.hid (HAL4.out.trans (hb65.mono (by omega)))
                clear hw6 hb65
                go_wp2
                go_roundw
                case rel => exact ⟨k + 1, by omega, by go_num, _, HW6.out, sofar_next HR1.out HSF.out HQ.out (by simp) HLOW.out (fun p hp => by have := HEND.out p hp; show ¬ p.a < qa; omega), by rw [ins_len]; rw [List.length_nil]; omega, HBN.out, by omega⟩
                case measure => simp [intOf]; omega
          · have e0 := HE0.out
            have e1 := HE1.out
            rw [← HWE.out]
            go_loopw [15] (fun c wr => ∃ j : Nat, j ≤ x.length ∧ c = .int .i64 j ∧ (∀ i p, i < j → x[i]? = some p → p.a < qa) ∧ Below wa.heap.size wa wr) (fun c _ => x.length - (intOf c).toNat)
            case atStart => exact ⟨0, by omega, rfl, fun i p hi => by omega, Below.refl _ _⟩
            case round =>
              obtain ⟨j, hj, rfl, hlow, hbi⟩ := hrel
              have HLOW := Lib.hid hlow
              have HBI := Lib.hid hbi
              have hzi := hbi.size
              have q0 : wr.cell? ⟨wm.heap.size, 0, none⟩ = some (.int .i64 qa) := (hbi.cell (p := ⟨wm.heap.size, 0, none⟩) hza).trans e0
              have q1 : wr.cell? ⟨wm.heap.size, 1, none⟩ = some (.int .i64 qv) := (hbi.cell (p := ⟨wm.heap.size, 1, none⟩) hza).trans e1
              have HAL2 : Hid (Below B W8 wr) := Lib.hid (HAL.out.trans (hbi.mono (by omega)))
              have HPX := Lib.hid (hpx.beyond hbi)
              have hjc : j ≤ cg := by omega
              clear hlow hbi
              by_cases hjx : j < x.length
              · obtain ⟨p, hp⟩ : ∃ p, x[j]? = some p := ⟨x[j], List.getElem?_eq_getElem hjx⟩
                obtain ⟨p0, p1⟩ := HPX.out j p hp
                simp only [Nat.zero_add] at p0 p1
                have HPJ := Lib.hid hp
                clear hp
                obtain ⟨pa, pv⟩ := p
                simp only at p0 p1
                by_cases hpq : pa < qa
                · have t1 : decide (pa < qa) = true := by simpa using hpq
                  have HPQ := Lib.hid hpq
                  clear hpq
                  go_wp2_with fail
                  go_quiet (fail)
                  go_wp2
                  go_roundw
                  case rel =>
                    refine ⟨j + 1, by omega, by go_num, fun i p hi hp => ?_, HBI.out.trans ((only_drewN (fun _ => False) wr _).below (B := wa.heap.size) hzi (fun _ h => h.elim))⟩
                    rcases Nat.lt_or_ge i j with h | h
                    · exact HLOW.out i p h hp
                    · obtain rfl : i = j := by omega
                      rw [HPJ.out] at hp; rw [← Option.some.inj hp]; exact HPQ.out
                  case measure => simp [intOf]; omega
                · have t1 : decide (pa < qa) = false := by simpa using hpq
                  have HEND : Hid (∀ p, x[j]? = some p → ¬ p.a < qa) := Lib.hid (fun p hp => by rw [HPJ.out] at hp; rw [← Option.some.inj hp]; exact hpq)
                  clear hpq
                  go_wp2_with fail
                  go_quiet (fail)
                  go_wp2_with fail
                  obtain ⟨w4, hw4⟩ : ∃ w4, w4 = wr.drewN nq := ⟨_, rfl⟩
                  rw [← hw4]
                  have hb4 : Below wr.heap.size wr w4 := by rw [hw4]; exact (only_drewN (fun _ => False) wr nq).below (Nat.le_refl _) (fun _ h => h.elim)
                  have r0 : w4.cell? ⟨wm.heap.size, 0, none⟩ = some (.int .i64 qa) := (hb4.cell (p := ⟨wm.heap.size, 0, none⟩) (by simp only; omega)).trans q0
                  have r1 : w4.cell? ⟨wm.heap.size, 1, none⟩ = some (.int .i64 qv) := (hb4.cell (p := ⟨wm.heap.size, 1, none⟩) (by simp only; omega)).trans q1
                  have s0 : ∀ o, (w4.alloc o).cell? ⟨wm.heap.size, 0, none⟩ = some (.int .i64 qa) := fun o => (((Below.refl w4.heap.size w4).alloc (Nat.le_refl _) o).cell (p := ⟨wm.heap.size, 0, none⟩) (cell_lt r0)).trans r0
                  have s1 : ∀ o, (w4.alloc o).cell? ⟨wm.heap.size, 1, none⟩ = some (.int .i64 qv) := fun o => (((Below.refl w4.heap.size w4).alloc (Nat.le_refl _) o).cell (p := ⟨wm.heap.size, 1, none⟩) (cell_lt r1)).trans r1
                  have hz4 := hb4.size
                  have HAL4 : Hid (Below B W8 w4) := Lib.hid (HAL2.out.trans (hb4.mono (by omega)))
                  have HPX4 := Lib.hid (HPX.out.beyond hb4)
                  have HOL : Hid (∀ W, Below w4.heap.size w4 W → ∀ i u, ((x.take j).flatMap Pt.cells)[i]? = some u → W.cell? ((⟨g, 0, none⟩ : Addr).add i) = some u) := Lib.hid fun W hW i u hu => by
                    have h1 := pts_cells (pts_take j (HPX4.out.beyond hW)) i u hu
                    rw [Go.WideShapes.add_plain]; exact h1
                  clear hw4 hb4 q0 q1
                  by_cases hcj : cg = j
                  · obtain rfl : j = x.length := by omega
                    rw [List.take_length] at HOL
                    obtain rfl : cg = x.length := hcj
                    go_region_law (first | (refine step_append_own2 _ rfl (.tmp 108) (.tmp 111) 22 rfl w4.heap.size 42 i0 (.agg #[.int .i64 0, .int .i64 0]) 2 16 Tryd.underlying22 hi hz0 hz1 hz2 rfl (by decide) (.slice (some ⟨w4.heap.size, 0, none⟩) 1 1) 1 [.int .i64 qa, .int .i64 qv] (by simp [Act.eval]) (World.ownsRow_lit w4.drew #[.int .i64 qa, .int .i64 qv] 1 (Nat.le_refl _) (by decide) rfl) (.slice (some ⟨g, 0, none⟩) 0 0) 0 [] (by simp [Act.eval]) (.inr ⟨⟨g, 0, none⟩, 0, rfl, rfl, fun i u hu => by simp at hu⟩) (fun u hu => by simp at hu) (by unfold maxLen; omega) (by omega) (by simp) ?_; intro v5 w5 hown5 hgrow5; obtain ⟨g5, c5, rfl, _, _⟩ := hown5.form (by omega); have HO5 := Lib.hid hown5; have HB5 := Lib.hid ((((Below.refl w4.heap.size w4).drew).alloc (Nat.le_refl _) (.cells #[.int .i64 qa, .int .i64 qv] 42)).grown hgrow5 (by simp) (by intro k hk; have h1 : some w4.heap.size = some k := hk; have h2 := Option.some.inj h1; omega)); have HOL5 : Hid (∀ i u, (x.flatMap Pt.cells)[i]? = some u → w5.cell? ((⟨g, 0, none⟩ : Addr).add i) = some u) := Lib.hid (HOL.out w5 HB5.out); clear hown5 hgrow5) | (refine step_append_new2 _ rfl (.tmp 106) (.tmp 112) 22 rfl 42 i0 (.agg #[.int .i64 0, .int .i64 0]) 2 16 Tryd.underlying22 hi hz0 hz1 hz2 (.slice (some ⟨g, 0, none⟩) x.length x.length) x.length (x.flatMap Pt.cells) (by simp [Act.eval]) (.inr ⟨⟨g, 0, none⟩, rfl, flatP_length x, HOL5.out⟩) ⟨g5, 0, none⟩ (1 + 0) c5 ([.int .i64 qa, .int .i64 qv] ++ []) (by simp [Act.eval]) (by simp) (HO5.out.cells (g := g5) rfl) (by omega) (by omega) (by decide) ?_; intro g6 c6 w6 hb6 hc6 hcap6 hlt6; have HB6 := Lib.hid hb6; have HC6 := Lib.hid hc6; clear hb6 hc6))
                    all_goals
                      have hb65 : Below w4.heap.size w4 w6 := HB5.out.trans (HB6.out.mono HB5.out.size)
                      have hz6 := hb65.size
                      have hw6 : WantAt w6 (.slice (some ⟨g6, 0, none⟩) (x.length + (1 + 0)) c6) (x.take x.length ++ ⟨qa, qv⟩ :: x.drop x.length) := by
                        refine .inr ⟨g6, c6, ?_, ?_, cells_pts fun i u hu => ?_⟩
                        · have hl6 : x.length + (1 + 0) = (x.take x.length ++ ⟨qa, qv⟩ :: x.drop x.length).length := by rw [ins_len]; try omega
                          rw [← hl6]
                        · rw [ins_len]; omega
                        · rw [Nat.zero_add]; refine HC6.out i u ?_; rw [← hu]; rw [List.take_length, List.drop_length, List.flatMap_append, List.flatMap_cons]; simp [Pt.cells]
                      have HW6 := Lib.hid hw6
                      have HBN : Hid (Below B W8 w6) := Lib.hid (HAL4.out.trans (hb65.mono (by omega)))
                      clear hw6 hb65
                      go_wp2
                      go_roundw
                      case rel => exact ⟨k + 1, by omega, by go_num, _, HW6.out, sofar_next HR1.out HSF.out HQ.out (by omega) HLOW.out (fun p hp => by have := HEND.out p hp; show ¬ p.a < qa; omega), by rw [ins_len]; omega, HBN.out, by omega⟩
                      case measure => simp [intOf]; omega
                  · have HNW : Hid (∀ o i u, ((x.drop j).flatMap Pt.cells)[i]? = some u → (w4.drew.alloc o).cell? ((⟨g, j * 2, none⟩ : Addr).add i) = some u) := Lib.hid fun o i u hu => by
                      have h1 := pts_cells (pts_drop j (HPX4.out.beyond (((Below.refl w4.heap.size w4).drew).alloc (Nat.le_refl _) o))) i u hu
                      rw [Nat.zero_add] at h1
                      rw [Go.WideShapes.add_plain]; exact h1
                    go_region_law (first | (refine step_append_own2 _ rfl (.tmp 108) (.tmp 111) 22 rfl w4.heap.size 42 i0 (.agg #[.int .i64 0, .int .i64 0]) 2 16 Tryd.underlying22 hi hz0 hz1 hz2 rfl (by decide) (.slice (some ⟨w4.heap.size, 0, none⟩) 1 1) 1 [.int .i64 qa, .int .i64 qv] (by simp [Act.eval]) (World.ownsRow_lit w4.drew #[.int .i64 qa, .int .i64 qv] 1 (Nat.le_refl _) (by decide) rfl) (.slice (some ⟨g, j * 2, none⟩) (x.length - j) (cg - j)) (x.length - j) ((x.drop j).flatMap Pt.cells) (by simp [Act.eval]) (.inr ⟨⟨g, j * 2, none⟩, cg - j, rfl, by rw [flatP_length, List.length_drop], HNW.out _⟩) (flatP_one _) (by unfold maxLen; omega) (by omega) (by simp) ?_; intro v5 w5 hown5 hgrow5; obtain ⟨g5, c5, rfl, _, _⟩ := hown5.form (by omega); have HO5 := Lib.hid hown5; have HB5 := Lib.hid ((((Below.refl w4.heap.size w4).drew).alloc (Nat.le_refl _) (.cells #[.int .i64 qa, .int .i64 qv] 42)).grown hgrow5 (by simp) (by intro k hk; have h1 : some w4.heap.size = some k := hk; have h2 := Option.some.inj h1; omega)); have HOL5 : Hid (∀ i u, ((x.take j).flatMap Pt.cells)[i]? = some u → w5.cell? ((⟨g, 0, none⟩ : Addr).add i) = some u) := Lib.hid (HOL.out w5 HB5.out); clear hown5 hgrow5) | (refine step_append_new2 _ rfl (.tmp 106) (.tmp 112) 22 rfl 42 i0 (.agg #[.int .i64 0, .int .i64 0]) 2 16 Tryd.underlying22 hi hz0 hz1 hz2 (.slice (some ⟨g, 0, none⟩) j j) j ((x.take j).flatMap Pt.cells) (by simp [Act.eval]) (.inr ⟨⟨g, 0, none⟩, rfl, by rw [flatP_length, List.length_take, Nat.min_eq_left hj], HOL5.out⟩) ⟨g5, 0, none⟩ (1 + (x.length - j)) c5 ([.int .i64 qa, .int .i64 qv] ++ (x.drop j).flatMap Pt.cells) (by simp [Act.eval]) (by rw [List.length_append, flatP_length, List.length_drop]; simp; omega) (HO5.out.cells (g := g5) rfl) (by omega) (by omega) (by decide) ?_; intro g6 c6 w6 hb6 hc6 hcap6 hlt6; have HB6 := Lib.hid hb6; have HC6 := Lib.hid hc6; clear hb6 hc6))
                    all_goals
                      have hb65 : Below w4.heap.size w4 w6 := HB5.out.trans (HB6.out.mono HB5.out.size)
                      have hz6 := hb65.size
                      have hw6 : WantAt w6 (.slice (some ⟨g6, 0, none⟩) (j + (1 + (x.length - j))) c6) (x.take j ++ ⟨qa, qv⟩ :: x.drop j) := by
                        refine .inr ⟨g6, c6, ?_, ?_, cells_pts fun i u hu => ?_⟩
                        · have hl6 : j + (1 + (x.length - j)) = (x.take j ++ ⟨qa, qv⟩ :: x.drop j).length := by rw [ins_len]; try omega
                          rw [← hl6]
                        · rw [ins_len]; omega
                        · rw [Nat.zero_add]; refine HC6.out i u ?_; rw [← hu]; rw [List.flatMap_append, List.flatMap_cons]; simp [Pt.cells]
                      have HW6 := Lib.hid hw6
                      have HBN : Hid (Below B W8 w6) := Lib.hid (HAL4.out.trans (hb65.mono (by omega)))
                      clear hw6 hb65
                      go_wp2
                      go_roundw
                      case rel => exact ⟨k + 1, by omega, by go_num, _, HW6.out, sofar_next HR1.out HSF.out HQ.out (by omega) HLOW.out (fun p hp => by have := HEND.out p hp; show ¬ p.a < qa; omega), by rw [ins_len]; omega, HBN.out, by omega⟩
                      case measure => simp [intOf]; omega
              · have HEND : Hid (∀ p, x[j]? = some p → ¬ p.a < qa) := Lib.hid (fun p hp => by have := (List.getElem?_eq_some_iff.1 hp).1; omega)
                have hjl : ((j : Int) == x.length) = true := by rw [beq_iff_eq]; omega
                have hjd : decide (j < x.length) = false := by simpa using hjx
                have hjd2 : decide ((j : Int) < x.length) = false := by simp; omega
                go_wp2_with fail
                go_quiet (fail)
                go_wp2_with fail
                obtain ⟨w4, hw4⟩ : ∃ w4, w4 = wr.drewN nq := ⟨_, rfl⟩
                rw [← hw4]
                have hb4 : Below wr.heap.size wr w4 := by rw [hw4]; exact (only_drewN (fun _ => False) wr nq).below (Nat.le_refl _) (fun _ h => h.elim)
                have r0 : w4.cell? ⟨wm.heap.size, 0, none⟩ = some (.int .i64 qa) := (hb4.cell (p := ⟨wm.heap.size, 0, none⟩) (by simp only; omega)).trans q0
                have r1 : w4.cell? ⟨wm.heap.size, 1, none⟩ = some (.int .i64 qv) := (hb4.cell (p := ⟨wm.heap.size, 1, none⟩) (by simp only; omega)).trans q1
                have s0 : ∀ o, (w4.alloc o).cell? ⟨wm.heap.size, 0, none⟩ = some (.int .i64 qa) := fun o => (((Below.refl w4.heap.size w4).alloc (Nat.le_refl _) o).cell (p := ⟨wm.heap.size, 0, none⟩) (cell_lt r0)).trans r0
                have s1 : ∀ o, (w4.alloc o).cell? ⟨wm.heap.size, 1, none⟩ = some (.int .i64 qv) := fun o => (((Below.refl w4.heap.size w4).alloc (Nat.le_refl _) o).cell (p := ⟨wm.heap.size, 1, none⟩) (cell_lt r1)).trans r1
                have hz4 := hb4.size
                have HAL4 : Hid (Below B W8 w4) := Lib.hid (HAL2.out.trans (hb4.mono (by omega)))
                have HPX4 := Lib.hid (HPX.out.beyond hb4)
                have HOL : Hid (∀ W, Below w4.heap.size w4 W → ∀ i u, ((x.take j).flatMap Pt.cells)[i]? = some u → W.cell? ((⟨g, 0, none⟩ : Addr).add i) = some u) := Lib.hid fun W hW i u hu => by
                  have h1 := pts_cells (pts_take j (HPX4.out.beyond hW)) i u hu
                  rw [Go.WideShapes.add_plain]; exact h1
                clear hw4 hb4 q0 q1
                by_cases hcj : cg = j
                · obtain rfl : j = x.length := by omega
                  rw [List.take_length] at HOL
                  obtain rfl : cg = x.length := hcj
                  go_region_law (first | (refine step_append_own2 _ rfl (.tmp 108) (.tmp 111) 22 rfl w4.heap.size 42 i0 (.agg #[.int .i64 0, .int .i64 0]) 2 16 Tryd.underlying22 hi hz0 hz1 hz2 rfl (by decide) (.slice (some ⟨w4.heap.size, 0, none⟩) 1 1) 1 [.int .i64 qa, .int .i64 qv] (by simp [Act.eval]) (World.ownsRow_lit w4.drew #[.int .i64 qa, .int .i64 qv] 1 (Nat.le_refl _) (by decide) rfl) (.slice (some ⟨g, 0, none⟩) 0 0) 0 [] (by simp [Act.eval]) (.inr ⟨⟨g, 0, none⟩, 0, rfl, rfl, fun i u hu => by simp at hu⟩) (fun u hu => by simp at hu) (by unfold maxLen; omega) (by omega) (by simp) ?_; intro v5 w5 hown5 hgrow5; obtain ⟨g5, c5, rfl, _, _⟩ := hown5.form (by omega); have HO5 := Lib.hid hown5; have HB5 := Lib.hid ((((Below.refl w4.heap.size w4).drew).alloc (Nat.le_refl _) (.cells #[.int .i64 qa, .int .i64 qv] 42)).grown hgrow5 (by simp) (by intro k hk; have h1 : some w4.heap.size = some k := hk; have h2 := Option.some.inj h1; omega)); have HOL5 : Hid (∀ i u, (x.flatMap Pt.cells)[i]? = some u → w5.cell? ((⟨g, 0, none⟩ : Addr).add i) = some u) := Lib.hid (HOL.out w5 HB5.out); clear hown5 hgrow5) | (refine step_append_new2 _ rfl (.tmp 106) (.tmp 112) 22 rfl 42 i0 (.agg #[.int .i64 0, .int .i64 0]) 2 16 Tryd.underlying22 hi hz0 hz1 hz2 (.slice (some ⟨g, 0, none⟩) x.length x.length) x.length (x.flatMap Pt.cells) (by simp [Act.eval]) (.inr ⟨⟨g, 0, none⟩, rfl, flatP_length x, HOL5.out⟩) ⟨g5, 0, none⟩ (1 + 0) c5 ([.int .i64 qa, .int .i64 qv] ++ []) (by simp [Act.eval]) (by simp) (HO5.out.cells (g := g5) rfl) (by omega) (by omega) (by decide) ?_; intro g6 c6 w6 hb6 hc6 hcap6 hlt6; have HB6 := Lib.hid hb6; have HC6 := Lib.hid hc6; clear hb6 hc6))
                  all_goals
                    have hb65 : Below w4.heap.size w4 w6 := HB5.out.trans (HB6.out.mono HB5.out.size)
                    have hz6 := hb65.size
                    have hw6 : WantAt w6 (.slice (some ⟨g6, 0, none⟩) (x.length + (1 + 0)) c6) (x.take x.length ++ ⟨qa, qv⟩ :: x.drop x.length) := by
                      refine .inr ⟨g6, c6, ?_, ?_, cells_pts fun i u hu => ?_⟩
                      · have hl6 : x.length + (1 + 0) = (x.take x.length ++ ⟨qa, qv⟩ :: x.drop x.length).length := by rw [ins_len]; try omega
                        rw [← hl6]
                      · rw [ins_len]; omega
                      · rw [Nat.zero_add]; refine HC6.out i u ?_; rw [← hu]; rw [List.take_length, List.drop_length, List.flatMap_append, List.flatMap_cons]; simp [Pt.cells]
                    have HW6 := Lib.hid hw6
                    have HBN : Hid (Below B W8 w6) := Lib.hid (HAL4.out.trans (hb65.mono (by omega)))
                    clear hw6 hb65
                    go_wp2
                    go_roundw
                    case rel => exact ⟨k + 1, by omega, by go_num, _, HW6.out, sofar_next HR1.out HSF.out HQ.out (by omega) HLOW.out (fun p hp => by have := HEND.out p hp; show ¬ p.a < qa; omega), by rw [ins_len]; omega, HBN.out, by omega⟩
                    case measure => simp [intOf]; omega
                · have HNW : Hid (∀ o i u, ((x.drop j).flatMap Pt.cells)[i]? = some u → (w4.drew.alloc o).cell? ((⟨g, j * 2, none⟩ : Addr).add i) = some u) := Lib.hid fun o i u hu => by
                    have h1 := pts_cells (pts_drop j (HPX4.out.beyond (((Below.refl w4.heap.size w4).drew).alloc (Nat.le_refl _) o))) i u hu
                    rw [Nat.zero_add] at h1
                    rw [Go.WideShapes.add_plain]; exact h1
                  go_region_law (first | (refine step_append_own2 _ rfl (.tmp 108) (.tmp 111) 22 rfl w4.heap.size 42 i0 (.agg #[.int .i64 0, .int .i64 0]) 2 16 Tryd.underlying22 hi hz0 hz1 hz2 rfl (by decide) (.slice (some ⟨w4.heap.size, 0, none⟩) 1 1) 1 [.int .i64 qa, .int .i64 qv] (by simp [Act.eval]) (World.ownsRow_lit w4.drew #[.int .i64 qa, .int .i64 qv] 1 (Nat.le_refl _) (by decide) rfl) (.slice (some ⟨g, j * 2, none⟩) (x.length - j) (cg - j)) (x.length - j) ((x.drop j).flatMap Pt.cells) (by simp [Act.eval]) (.inr ⟨⟨g, j * 2, none⟩, cg - j, rfl, by rw [flatP_length, List.length_drop], HNW.out _⟩) (flatP_one _) (by unfold maxLen; omega) (by omega) (by simp) ?_; intro v5 w5 hown5 hgrow5; obtain ⟨g5, c5, rfl, _, _⟩ := hown5.form (by omega); have HO5 := Lib.hid hown5; have HB5 := Lib.hid ((((Below.refl w4.heap.size w4).drew).alloc (Nat.le_refl _) (.cells #[.int .i64 qa, .int .i64 qv] 42)).grown hgrow5 (by simp) (by intro k hk; have h1 : some w4.heap.size = some k := hk; have h2 := Option.some.inj h1; omega)); have HOL5 : Hid (∀ i u, ((x.take j).flatMap Pt.cells)[i]? = some u → w5.cell? ((⟨g, 0, none⟩ : Addr).add i) = some u) := Lib.hid (HOL.out w5 HB5.out); clear hown5 hgrow5) | (refine step_append_new2 _ rfl (.tmp 106) (.tmp 112) 22 rfl 42 i0 (.agg #[.int .i64 0, .int .i64 0]) 2 16 Tryd.underlying22 hi hz0 hz1 hz2 (.slice (some ⟨g, 0, none⟩) j j) j ((x.take j).flatMap Pt.cells) (by simp [Act.eval]) (.inr ⟨⟨g, 0, none⟩, rfl, by rw [flatP_length, List.length_take, Nat.min_eq_left hj], HOL5.out⟩) ⟨g5, 0, none⟩ (1 + (x.length - j)) c5 ([.int .i64 qa, .int .i64 qv] ++ (x.drop j).flatMap Pt.cells) (by simp [Act.eval]) (by rw [List.length_append, flatP_length, List.length_drop]; simp; omega) (HO5.out.cells (g := g5) rfl) (by omega) (by omega) (by decide) ?_; intro g6 c6 w6 hb6 hc6 hcap6 hlt6; have HB6 := Lib.hid hb6; have HC6 := Lib.hid hc6; clear hb6 hc6))
                  all_goals
                    have hb65 : Below w4.heap.size w4 w6 := HB5.out.trans (HB6.out.mono HB5.out.size)
                    have hz6 := hb65.size
                    have hw6 : WantAt w6 (.slice (some ⟨g6, 0, none⟩) (j + (1 + (x.length - j))) c6) (x.take j ++ ⟨qa, qv⟩ :: x.drop j) := by
                      refine .inr ⟨g6, c6, ?_, ?_, cells_pts fun i u hu => ?_⟩
                      · have hl6 : j + (1 + (x.length - j)) = (x.take j ++ ⟨qa, qv⟩ :: x.drop j).length := by rw [ins_len]; try omega
                        rw [← hl6]
                      · rw [ins_len]; omega
                      · rw [Nat.zero_add]; refine HC6.out i u ?_; rw [← hu]; rw [List.flatMap_append, List.flatMap_cons]; simp [Pt.cells]
                    have HW6 := Lib.hid hw6
                    have HBN : Hid (Below B W8 w6) := Lib.hid (HAL4.out.trans (hb65.mono (by omega)))
                    clear hw6 hb65
                    go_wp2
                    go_roundw
                    case rel => exact ⟨k + 1, by omega, by go_num, _, HW6.out, sofar_next HR1.out HSF.out HQ.out (by omega) HLOW.out (fun p hp => by have := HEND.out p hp; show ¬ p.a < qa; omega), by rw [ins_len]; omega, HBN.out, by omega⟩
                    case measure => simp [intOf]; omega
        · obtain rfl : k = l1.length := by omega
          have hxe := sofar_merged HSF.out HMER.out
          subst hxe
          have hfx : ∀ t ∈ x, t.fits := fun t ht => by
            rcases (HMER.out.2 t).1 ht with h | ⟨h, _⟩
            · exact HF1.out t h
            · exact HF.out t h
          have HFX := Lib.hid hfx
          have HRX := Lib.hid HMER.out.1
          have hbw8 : Below W8.heap.size W8 wm := by rw [← HBB.out]; exact HBW2.out
          have HB9 := Lib.hid (HB8.out.trans (hbw8.mono HB8.out.size))
          have HL9 := Lib.hid (HL8.out.below hbw8)
          have HI9 := Lib.hid (HIM.out.beyond hbw8)
          clear hfx hbw8 hbw hsf hwant
          go_wp2_with fail
          refine (bytes4_any (HV1.out.beyond HB9.out) HF1.out HR1.out (by omega)).mono ?_
          rw [HCS.out]
          rintro e W10 ⟨rfl, hb10⟩
          have HB10 := Lib.hid (HB9.out.trans (hb10.mono HB9.out.size))
          have HL10 := Lib.hid (HL9.out.below hb10)
          have HI10 := Lib.hid (HI9.out.beyond hb10)
          have HW10 := Lib.hid (HWANT.out.beyond hb10)
          clear hb10
          obtain ⟨W11, b11, cap11, hrun11, _, hb11, hba11⟩ := bytes_of_text2 W10 (strOf cs)
          rw [ords_strOf HSC.out] at hba11
          rw [strOf_size] at hrun11
          have HRUN11 := Lib.hid hrun11
          have HB11 := Lib.hid (HB10.out.trans (hb11.mono HB10.out.size))
          have HL11 := Lib.hid (HL10.out.below hb11)
          have HI11 := Lib.hid (HI10.out.beyond hb11)
          have HW11 := Lib.hid (HW10.out.beyond hb11)
          have HBA11 := Lib.hid hba11
          clear hrun11 hb11 hba11
          go_wp2_with (refine wpList_bytes rfl (.tmp 117) rfl rfl HRUN11.out ?_)
          refine (HD.out.merge (bs := []) (.inl ⟨rfl, rfl⟩) (lies_full HBA11.out) (fun x hx => by simp at hx) HSC.out (by rw [unpack_none, HUP1.out]; simp only [List.length_nil]; omega) (by simp) (by omega) HL11.out).mono ?_
          rintro e W12 ⟨vf, zf, mf, rfl, hownf, hb12, hres⟩
          have hzf : zf = 4 := by
            rw [unpack_none] at hres
            rcases hres with ⟨_, h, _⟩ | ⟨h, _⟩ | ⟨h, _⟩
            · exact h
            · exact absurd h (by decide)
            · exact absurd h (by decide)
          subst hzf
          have HB12 := Lib.hid (HB11.out.trans (hb12.mono HB11.out.size))
          have HL12 := Lib.hid (HL11.out.below hb12)
          have HI12 := Lib.hid (HI11.out.beyond hb12)
          have HW12 := Lib.hid (HW11.out.beyond hb12)
          clear hb12 hres hownf
          go_wp2_with fail
          refine (bytes4_any (HV.out.beyond HB12.out) HF.out HR.out (by omega)).mono ?_
          rw [HBS.out]
          rintro e W13 ⟨rfl, hb13⟩
          have HB13 := Lib.hid (HB12.out.trans (hb13.mono HB12.out.size))
          have HL13 := Lib.hid (HL12.out.below hb13)
          have HI13 := Lib.hid (HI12.out.beyond hb13)
          have HW13 := Lib.hid (HW12.out.beyond hb13)
          clear hb13
          obtain ⟨W14, b14, cap14, hrun14, _, hb14, hba14⟩ := bytes_of_text2 W13 (strOf bs)
          rw [ords_strOf HSB.out] at hba14
          rw [strOf_size] at hrun14
          have HRUN14 := Lib.hid hrun14
          have HB14 := Lib.hid (HB13.out.trans (hb14.mono HB13.out.size))
          have HL14 := Lib.hid (HL13.out.below hb14)
          have HI14 := Lib.hid (HI13.out.beyond hb14)
          have HW14 := Lib.hid (HW13.out.beyond hb14)
          have HBA14 := Lib.hid hba14
          clear hrun14 hb14 hba14
          go_wp2_with (refine wpList_bytes rfl (.tmp 124) rfl rfl HRUN14.out ?_)
          have hal : Below W14.heap.size W14 (W14.alloc (.cells #[.int .u8 0] 5)) := (Below.refl _ _).alloc (Nat.le_refl _) _
          have hone : Lies (W14.alloc (.cells #[.int .u8 0] 5)) (.slice (some ⟨W14.heap.size, 0, none⟩) 1 1) [0] := by
            have h := one_lies W14 0
            simpa using h
          refine (HD.out.merge (cs := [0]) (lies_full (HBA14.out.beyond hal)) hone HSB.out (fun x hx => by simp at hx; omega) (by rw [unpack_zero, HUP.out]; simp only [List.length_nil]; omega) (by omega) (by simp) (HL14.out.below hal)).mono ?_
          rintro e W17 ⟨vg, zg, mg, rfl, howng, hb17, hres⟩
          have hzg : zg = 4 := by
            rw [unpack_zero, HUP.out] at hres
            rcases hres with ⟨h, _⟩ | ⟨_, _, h, _⟩ | ⟨_, h, _⟩
            · exact absurd rfl h
            · exact h
            · exact absurd h (by decide)
          subst hzg
          have hbb : Below W14.heap.size W14 W17 := hal.trans (hb17.mono hal.size)
          have HB17 := Lib.hid (HB14.out.trans (hbb.mono HB14.out.size))
          have HI17 := Lib.hid (HI14.out.beyond hbb)
          have HWX := Lib.hid (HW14.out.beyond hbb)
          have hq : ∀ W, Below W17.heap.size W17 W → ∀ dst, Tryd.prog.underlying dst = some .string → (convert 24 dst (.slice am (packB (chunkBits x)).length cm)).run Tryd.prog W = .ok (.string (strOf (packB (chunkBits x)))) W := fun W h => text_of (HI17.out.beyond h)
          obtain ⟨st, hst⟩ : ∃ st, strOf (packB (chunkBits x)) = st := ⟨_, rfl⟩
          rw [hst] at hq
          have HST := Lib.hid hst
          have hxl2 : x.length ≤ 1000 := by omega
          clear hst hb17 hres howng hal hone hbb
          go_wp2_with fail
          refine wp_region_held_drew (S := fun w => Below W17.heap.size W17 w) (by kernel_rfl) ((Below.refl _ _).drew) (fun _ => ?_)
          refine anyH_take (i := 0) (some 130) (v := _) rfl rfl (by kernel_rfl) (by kernel_rfl) (by kernel_rfl) (fun _ _ _ h => h) (by rfl) ((Below.refl _ _).drew) (by intro w hSw; go_simp; try with_reducible rfl) ?_
          (try simp only [Act.put, List.setIfInBounds_toArray, List.set_cons_zero, List.set_cons_succ])
          refine anyH_take (i := 1) (some 131) (v := _) rfl rfl (by kernel_rfl) (by kernel_rfl) (by kernel_rfl) (fun _ _ _ h => h) (by rfl) ((Below.refl _ _).drew) (by intro w hSw; go_simp; try with_reducible rfl) ?_
          (try simp only [Act.put, List.setIfInBounds_toArray, List.set_cons_zero, List.set_cons_succ])
          refine anyH_take (i := 2) (some 132) (v := _) rfl rfl (by kernel_rfl) (by kernel_rfl) (by kernel_rfl) (fun _ _ _ h => h) (by rfl) ((Below.refl _ _).drew) (by intro w hSw; go_simp; try with_reducible rfl) ?_
          (try simp only [Act.put, List.setIfInBounds_toArray, List.set_cons_zero, List.set_cons_succ])
          refine anyH_take (i := 3) (some 133) (v := _) rfl rfl (by kernel_rfl) (by kernel_rfl) (by kernel_rfl) (fun _ _ _ h => h) (by rfl) ((Below.refl _ _).drew) (by intro w hSw; go_simp; try with_reducible rfl) ?_
          (try simp only [Act.put, List.setIfInBounds_toArray, List.set_cons_zero, List.set_cons_succ])
          refine anyH_take (i := 5) (some 135) (v := _) rfl rfl (by kernel_rfl) (by kernel_rfl) (by kernel_rfl) (fun _ _ _ h => h) (by rfl) ((Below.refl _ _).drew) (by intro w hSw; go_simp; try with_reducible rfl) ?_
          (try simp only [Act.put, List.setIfInBounds_toArray, List.set_cons_zero, List.set_cons_succ])
          refine anyH_take (i := 4) (some 134) (v := _) rfl rfl (by kernel_rfl) (by kernel_rfl) (by kernel_rfl) (fun _ _ _ h => h) (by rfl) ((Below.refl _ _).drew) (by intro w hSw; go_simp; try with_reducible rfl) ?_
          (try simp only [Act.put, List.setIfInBounds_toArray, List.set_cons_zero, List.set_cons_succ])
          refine wpAnyH_ready (rs := [6]) (by kernel_rfl) (by simp) (AllReadyH.cons rfl (fun K hK => ?_) AllReadyH.nil)
          go_simp
          (refine (bytes4_any ((HWX.out.beyond ((Below.refl _ _).drew)).plies) HFX.out HRX.out (by omega)).mono ?_; rw [HST.out]; rintro e W18 ⟨rfl, h18a⟩; have h18 : Below W17.heap.size W17 W18 := ((Below.refl _ _).drew).trans h18a; clear h18a)
          go_wp2_with fail
          refine hK.out _ _ (h18) (fun _ => ?_)
          clear hK K
          (try simp only [Act.put, List.setIfInBounds_toArray, List.set_cons_zero, List.set_cons_succ])
          refine anyH_take (i := 7) (some 137) (v := _) rfl rfl (by kernel_rfl) (by kernel_rfl) (by kernel_rfl) (fun _ _ _ h => h) (by rfl) (h18) (by intro w hSw; go_simp; try with_reducible rfl) ?_
          (try simp only [Act.put, List.setIfInBounds_toArray, List.set_cons_zero, List.set_cons_succ])
          refine anyH_take (i := 8) (some 138) (v := _) rfl rfl (by kernel_rfl) (by kernel_rfl) (by kernel_rfl) (fun _ _ _ h => h) (by rfl) (h18) (by intro w hSw; go_simp; try with_reducible rfl) ?_
          (try simp only [Act.put, List.setIfInBounds_toArray, List.set_cons_zero, List.set_cons_succ])
          refine anyH_take (i := 9) (some 139) (v := _) rfl rfl (by kernel_rfl) (by kernel_rfl) (by kernel_rfl) (fun _ _ _ h => h) (by rfl) (h18) (by intro w hSw; go_simp; try with_reducible rfl) ?_
          (try simp only [Act.put, List.setIfInBounds_toArray, List.set_cons_zero, List.set_cons_succ])
          refine anyH_take (i := 10) (some 140) (v := _) rfl rfl (by kernel_rfl) (by kernel_rfl) (by kernel_rfl) (fun _ _ _ h => h) (by rfl) (h18) (by intro w hSw; go_simp; try with_reducible rfl) ?_
          (try simp only [Act.put, List.setIfInBounds_toArray, List.set_cons_zero, List.set_cons_succ])
          refine anyH_take (i := 11) (some 141) (v := _) rfl rfl (by kernel_rfl) (by kernel_rfl) (by kernel_rfl) (fun _ _ _ h => h) (by rfl) (h18) (by intro w hSw; go_simp; try with_reducible rfl) ?_
          (try simp only [Act.put, List.setIfInBounds_toArray, List.set_cons_zero, List.set_cons_succ])
          refine anyH_take (i := 12) (some 142) (v := _) rfl rfl (by kernel_rfl) (by kernel_rfl) (by kernel_rfl) (fun _ _ _ h => h) (by rfl) (h18) (by intro w hSw; go_simp; try with_reducible rfl) ?_
          (try simp only [Act.put, List.setIfInBounds_toArray, List.set_cons_zero, List.set_cons_succ])
          refine anyH_take (i := 13) (some 143) (v := _) rfl rfl (by kernel_rfl) (by kernel_rfl) (by kernel_rfl) (fun _ _ _ h => h) (by rfl) (h18) (by intro w hSw; go_simp; try with_reducible rfl) ?_
          (try simp only [Act.put, List.setIfInBounds_toArray, List.set_cons_zero, List.set_cons_succ])
          refine anyH_take (i := 14) (some 144) (v := _) rfl rfl (by kernel_rfl) (by kernel_rfl) (by kernel_rfl) (fun _ _ _ h => h) (by rfl) (h18) (by intro w hSw; go_simp; try with_reducible rfl) ?_
          (try simp only [Act.put, List.setIfInBounds_toArray, List.set_cons_zero, List.set_cons_succ])
          refine anyH_take (i := 15) (some 145) (v := _) rfl rfl (by kernel_rfl) (by kernel_rfl) (by kernel_rfl) (fun _ _ _ h => h) (by rfl) (h18) (by intro w hSw; go_simp; try with_reducible rfl) ?_
          (try simp only [Act.put, List.setIfInBounds_toArray, List.set_cons_zero, List.set_cons_succ])
          refine anyH_take (i := 16) (some 146) (v := _) rfl rfl (by kernel_rfl) (by kernel_rfl) (by kernel_rfl) (fun _ _ _ h => h) (by rfl) (h18) (by intro w hSw; go_simp; try with_reducible rfl) ?_
          (try simp only [Act.put, List.setIfInBounds_toArray, List.set_cons_zero, List.set_cons_succ])
          refine anyH_take (i := 17) (some 4) (v := _) rfl rfl (by kernel_rfl) (by kernel_rfl) (by kernel_rfl) (fun _ _ _ h => h) (by rfl) (h18) (by intro w hSw; go_simp; try with_reducible rfl) ?_
          (try simp only [Act.put, List.setIfInBounds_toArray, List.set_cons_zero, List.set_cons_succ])
          refine wpAnyH_done (by kernel_rfl) ?_ _
          go_wp2
          go_ret
          exact ⟨rfl, HB17.out.trans (h18.mono HB17.out.size)⟩

set_option maxHeartbeats 1000000 in
theorem chunkMerges_walk (D : ChunkDoes) {w : World} {v0 v1 : Value} {l0 l1 : List Pt} (hv : PLies w v0 l0) (hf : ∀ t ∈ l0, t.fits) (hm : l0.length ≤ maxLen) (hv1 : PLies w v1 l1) (hf1 : ∀ t ∈ l1, t.fits) (hm1 : l1.length ≤ maxLen) (hl : StepsLaid w) :
    Calls Tryd.prog 6 #[v0, v1] w fun e w' => e = .returned (.bool true) ∧ Below w.heap.size w w' := by
  by_cases hn : l0.length ≤ 40 ∧ l1.length ≤ 40
  · exact chunkMerges_some D hv hv1 hf hf1 hn.1 hn.2 hl
  · obtain ⟨a, c, rfl⟩ := plies_slice hv
    obtain ⟨a', c', rfl⟩ := plies_slice hv1
    have hL := Lib.hid hl
    have HD := Lib.hid D
    have hlen : l0.length ≤ 9223372036854775807 := by unfold maxLen at hm; omega
    have hlen1 : l1.length ≤ 9223372036854775807 := by unfold maxLen at hm1; omega
    clear hl D hv hf hm hv1 hf1 hm1
    have ht : decide ((40 : Int) < l0.length) = true ∨ (decide ((40 : Int) < l0.length) = false ∧ decide ((40 : Int) < l1.length) = true) := by
      rcases Nat.lt_or_ge 40 l0.length with h | h
      · exact .inl (by simp; omega)
      · exact .inr ⟨by simp; omega, by simp; omega⟩
    rcases ht with t0 | ⟨t0, t1⟩
    all_goals
      go_enter Tryd.func6, Tryd.ntmps6
      go_wp2_with fail
      refine (lives04 HD.out _ hL.out).mono ?_
      rintro e W1 ⟨rfl, hb1⟩
      have HB1 := Lib.hid hb1
      have HL1 := Lib.hid (hL.out.keep hb1 hL.out.lt)
      clear hb1
      go_wp2_with fail
      refine (lives04 HD.out _ HL1.out).mono ?_
      rintro e W2 ⟨rfl, hb2⟩
      have HB2 := Lib.hid hb2
      clear hb2
      go_wp2
      go_ret
      exact ⟨rfl, HB1.out.trans (HB2.out.mono HB1.out.size)⟩
end Go.Proofs.YtdfefhoihpbldaaDoor
