/- A record's sectors, laid one behind the other. -/
import Derived.Test.YtngeilhdambgfaaDoorJoLay
import Derived.Test.YtngeilhdambgfaaDoorStSplit
import Derived.Test.YtngeilhdambgfaaDoorJoI
namespace Go.Proofs.YtngeilhdambgfaaDoor
open Go.RowKit

theorem DevIn.lt {w : World} {B P g1 g2 : Nat} {wv : Value} {d : Dev} (h : DevIn w B P g1 g2 wv d) {k : Nat} (hk : DBlk w P k) : k < w.heap.size := by
  rcases h.blks hk with h1 | h1 | h1 | h1
  · rw [h1]; exact h.blk.lt
  · rw [h1]; exact h.lies.lt
  · rw [h1]; exact h.told.lt
  · exact (h.waits.lt k h1).2
theorem DevAt.lt {w : World} {B P : Nat} {d : Dev} (h : DevAt w B P d) {k : Nat} (hk : DBlk w P k) : k < w.heap.size := by
  obtain ⟨g1, g2, wv, h⟩ := h; exact h.lt hk
/-- the device's blocks are what they were, where it was not touched -/
theorem dblk_on {w w' : World} {B P : Nat} {d : Dev} (h : DevAt w B P d) (hb : Below w.heap.size w w') {k : Nat} (hk : DBlk w' P k) : DBlk w P k := by
  obtain ⟨g1, g2, wv, h⟩ := h
  have hP : P < w.heap.size := h.blk.lt
  rcases hk with h1 | ⟨i, v, hi, hv, hk⟩
  · exact .inl h1
  · exact .inr ⟨i, v, hi, by rw [← hv]; exact (hb.cell (p := ⟨P, i, none⟩) hP).symm, hk⟩
/-- the error when a record doesn't go in -/
theorem joput_full {w : World} {J P frm n t k : Nat} {D : List Nat} {v : Value} (hJ : JAt w J P frm n t k) (hv : Lies w v D) (hk : k ≤ n) (hn : n ≤ 8192) (hbig : D.length ≤ 1000000000) (hf : n < k + pieces D.length) :
    Calls Tryd.prog 23 #[.pointer (some ⟨J, 0, none⟩), v] w fun e w' => e = .returned (.int .i64 6) ∧ Below w.heap.size w w' := by
  obtain ⟨a, c, rfl⟩ := lies_len hv
  obtain ⟨l, hl⟩ : ∃ l, l = D.length := ⟨_, rfl⟩
  obtain ⟨pc, hpc⟩ : ∃ p, p = pieces D.length := ⟨_, rfl⟩
  have HP : Hid (pc = pieces l) := Lib.hid (by rw [hl]; exact hpc)
  rw [← hpc] at hf
  rw [← hl] at hbig ⊢
  have HJ := Lib.hid hJ
  have t1 : decide (((n - k : Nat) : Int) < (pc : Int)) = true := by simp; omega
  clear hJ hv hl hpc
  go_enter Tryd.func23, Tryd.ntmps23
  go_wp2_with (first | (go_at_call 21; refine (jcost_any _ (m := l) (by omega)).mono ?_; rw [← HP.out]; rintro e w1 ⟨rfl, rfl⟩) | (go_at_call 25; refine (joleft_any HJ.out hk hn).mono ?_; rintro e w2 ⟨rfl, hb⟩; have HB := Lib.hid hb; clear hb))
  go_ret
  exact ⟨rfl, HB.out⟩
set_option maxRecDepth 1000000 in
set_option maxHeartbeats 8000000 in
theorem joput_ok {w : World} {B J P frm n t k : Nat} {d : Dev} {D : List Nat} {v : Value} (hJ : JAt w J P frm n t k) (h : DevAt w B P d) (hB : B ≤ w.heap.size) (hgB : 0 < B) (hJd : ¬ DBlk w P J) (hv : Lies w v D) (hD : ∀ x ∈ D, x < 256) (ht : t ≠ 0 ∧ t < 4294967296)
    (hr : frm + n ≤ d.lies.length) (hup : d.down = false) (ha : d.after = 0) (hm : d.waits.length ≤ 900000000) (hl : StepsLaid w) (hf : k + pieces D.length ≤ n) :
    Calls Tryd.prog 23 #[.pointer (some ⟨J, 0, none⟩), v] w fun e w' => e = .returned (.int .i64 0) ∧ DevAt w' B P (d.writes (frm + k) ((splitS t k D).map secB)) ∧ Kept P w w' := by
  obtain ⟨a, c, rfl⟩ := lies_len hv
  obtain ⟨l, hl0⟩ : ∃ l, l = D.length := ⟨_, rfl⟩
  obtain ⟨pc, hpc⟩ : ∃ p, p = pieces D.length := ⟨_, rfl⟩
  have HPC : Hid (pc = pieces l ∧ pc = pieces D.length) := Lib.hid (by rw [hl0]; exact ⟨hpc, hpc⟩)
  have hN : d.lies.length ≤ 8192 := h.ok.size
  have hbig : l ≤ 1000000000 := by rw [hpc.symm] at hf; have := HPC.out.1; unfold pieces at this; omega
  have HBIG : Hid (D.length ≤ 1000000000) := Lib.hid (by rw [← hl0]; exact hbig)
  rw [← hpc] at hf
  have hk : k ≤ n := by omega
  have hn : n ≤ 8192 := by omega
  have hpc1 : 1 ≤ pc := by rw [hpc]; exact pieces_pos _
  have HV : Hid (Lies w (.slice a l c) D) := Lib.hid (by rw [hl0]; exact hv)
  rw [← hl0]
  have HJ := Lib.hid hJ
  have HD := Lib.hid h
  have HT := Lib.hid hl
  have HTT := Lib.hid ht
  have HDX := Lib.hid hD
  have HJD := Lib.hid hJd
  have HR := Lib.hid hr
  have ht0 : ((t : Int) == 0) = false := by simp; exact ht.1
  obtain ⟨m, hmm⟩ : ∃ m, m = n - k := ⟨_, rfl⟩
  have HM := Lib.hid hmm
  have t1 : decide ((m : Int) < (pc : Int)) = false := by simp; omega
  have t2 : decide (m < pc) = false := by simp; omega
  have e1 : IntKind.u32.wrap (k : Int) = (k : Int) := by rw [IntKind.wrap_u32]; omega
  have HSE : Hid (splitE t k D.length = 0) := Lib.hid (by unfold splitE; rw [if_neg ht.1, if_pos (by rw [← hpc]; omega)])
  clear hJ h hv hl hpc hl0 ht hD hJd hr hmm
  go_enter Tryd.func23, Tryd.ntmps23
  go_wp2_with (first | (go_at_call 21; refine (jcost_any _ (m := l) (by omega)).mono ?_; rw [← HPC.out.1]; rintro e w1 ⟨rfl, rfl⟩) | (go_at_call 25; refine (joleft_any HJ.out hk hn).mono ?_; rw [← HM.out]; rintro e w2 ⟨rfl, hb⟩; have HB := Lib.hid hb; clear hb))
  obtain ⟨c0, c1, c2, c3, c4⟩ := (HJ.out.on HB.out).cells
  have hBd : Below w1.heap.size w1 w2.drew := HB.out.drew
  have HSP := Lib.hid (split_any (t := t) (p := k) (lies_on HV.out hBd) (by omega) HBIG.out)
  have HBD := Lib.hid hBd
  clear hBd
  go_cut [5, 6] (fun s5 s6 W => ∃ g r, s5 = .slice (some ⟨g, 0, none⟩) r.length r.length ∧ s6 = .int .i64 0 ∧ r.map Prod.fst = splitS t k D ∧ w1.heap.size ≤ g ∧ Arr W g 77 (rowC r) ∧ (∀ x ∈ r, LiesFrom w1.heap.size W x.2 x.1.data ∧ Fits x.2) ∧ Below w1.heap.size w1 W)
  case first =>
    go_region_with (go_at_call 33; refine (HSP.out).mono ?_; rintro e W3 hsp; rcases hsp with ⟨hne, _⟩ | ⟨_, g, r, rfl, hrf, hg, hA, hls, hb3⟩; exact absurd HSE.out hne; dsimp only)
    all_goals (simp only [List.getElem_toArray, List.getElem_cons_succ, List.getElem_cons_zero, Act.put, List.setIfInBounds_toArray, List.set_cons_succ, List.set_cons_zero])
    all_goals go_wp2_with fail
    all_goals go_meet
    all_goals exact ⟨g, r, rfl, rfl, hrf, Nat.le_trans HBD.out.size hg, hA, fun x hx => ⟨(hls x hx).1.mono HBD.out.size, (hls x hx).2⟩, HBD.out.trans (hb3.mono HBD.out.size)⟩
  case rest =>
    obtain ⟨g, r, rfl, rfl, hrf, hg, hA, hls, hb3⟩ := hcut
    have HDc : Hid (DevAt wc B P d) := Lib.hid (HD.out.beyond hb3)
    have HJc : Hid (JAt wc J P frm n t k) := Lib.hid (HJ.out.on hb3)
    have HJN : Hid (¬ DBlk wc P J) := Lib.hid (fun hh => HJD.out (dblk_on HD.out hb3 hh))
    have HGN : Hid (∀ q, w1.heap.size ≤ q → ¬ DBlk wc P q) := Lib.hid (fun q hq hh => by have := HD.out.lt (dblk_on HD.out hb3 hh); omega)
    have HA := Lib.hid hA
    have HLS := Lib.hid hls
    have HB3 := Lib.hid hb3
    have HRF := Lib.hid hrf
    have hBc : Hid (B ≤ wc.heap.size) := Lib.hid (Nat.le_trans hB hb3.size)
    have hrl : r.length = pc := by have := congrArg List.length hrf; rw [List.length_map, splitS_length, ← HPC.out.2] at this; exact this
    obtain ⟨L, hL⟩ : ∃ L, L = (splitS t k D).map secB := ⟨_, rfl⟩
    have hLl : L.length = pc := by rw [hL, List.length_map, splitS_length, HPC.out.2]
    have HL := Lib.hid hL
    rw [hrl]
    have HG := Lib.hid hg
    clear hA hls hb3 hrf hrl hL hg
    go_wp2_with fail
    go_loopw [39] (fun x wr => ∃ i : Nat, i ≤ pc ∧ x = .int .i64 (i : Int) ∧ DevAt wr B P (d.writes (frm + k) (L.take i)) ∧ Kept P wc wr) (fun x _ => pc - (intOf x).toNat)
    case atStart => exact ⟨0, by omega, rfl, by rw [List.take_zero, Dev.writes_nil]; exact HDc.out, Kept.refl _ _⟩
    case round =>
      obtain ⟨i, hi, rfl, hd, hkp⟩ := hrel
      have HDi := Lib.hid hd
      have HKi := Lib.hid hkp
      clear hd hkp
      by_cases hlt : i < pc
      · obtain ⟨x, hx⟩ : ∃ x, r[i]? = some x := ⟨r[i]'(by have := congrArg List.length HRF.out; rw [List.length_map, splitS_length, ← HPC.out.2] at this; omega), List.getElem?_eq_getElem _⟩
        have hx1 : x.1 = pieceS t k D i := by
          have h1 : (splitS t k D)[i]? = some x.1 := by rw [← HRF.out, List.getElem?_map, hx]; rfl
          rw [splitS_get (by rw [← HPC.out.2]; exact hlt)] at h1
          exact (Option.some.inj h1).symm
        have hok : x.1.Ok := by rw [hx1]; exact pieceS_ok HTT.out.1 HTT.out.2 (by omega) HDX.out
        have hpl : x.1.place = k + i := by rw [hx1]; rfl
        have hLi : L[i]? = some (secB x.1) := by rw [HL.out, List.getElem?_map, splitS_get (by rw [← HPC.out.2]; exact hlt), hx1]; rfl
        have hAr : Arr wr g 77 (rowC r) := HA.out.only HKi.out.only (HGN.out g HG.out)
        obtain ⟨y0, y1, y2, y3⟩ := strow_cells (off := 0) (fun j u hj => by rw [Nat.zero_add]; exact hAr.cell hj) hx
        have hls : Lies wr x.2 x.1.data := ((HLS.out x (List.mem_of_getElem? hx)).1.only HKi.out.only (fun b off j z hb _ => HGN.out b hb)).lies
        obtain ⟨s, u⟩ := x
        have HOK : Hid (s.Ok ∧ s.place = k + i ∧ L[i]? = some (secB s) ∧ Lies wr u s.data) := Lib.hid ⟨hok, hpl, hLi, hls⟩
        simp only at y0 y1 y2 y3
        rw [Nat.zero_add] at y0 y1 y2 y3
        obtain ⟨au, cu, hu⟩ := lies_len hls
        obtain ⟨nu, hnu⟩ : ∃ m, m = s.data.length := ⟨_, rfl⟩
        simp only at hu
        rw [← hnu] at hu
        subst hu
        clear hx hx1 hok hpl hLi hAr hls hnu
        go_wp2_with fail
        obtain ⟨W5, hW5⟩ : ∃ W, W = wr.alloc (.cells #[.int .u32 (s.turn : Int), .int .u32 (s.place : Int), .bool s.last, .slice au nu cu] 77) := ⟨_, rfl⟩
        rw [← hW5]
        have HB5 : Hid (Below wr.heap.size wr W5) := Lib.hid (by rw [hW5]; exact (Below.refl _ _).alloc (Nat.le_refl _) _)
        have hBr : B ≤ wr.heap.size := Nat.le_trans hBc.out HKi.out.only.size
        have hst : StepsLaid wr := HT.out.keep ((HB3.out.mono hB).trans (HDc.out.below hBc.out HKi.out)) hgB
        have hlt2 : frm + s.place < d.lies.length := by rw [HOK.out.2.1]; have := HR.out; omega
        have hwt : (d.writes (frm + k) (L.take i)).waits.length ≤ 1000000000 := by
          show (d.waits ++ _).length ≤ _
          rw [List.length_append, posW_length, List.length_take]; omega
        refine (jolay_ok (d := d.writes (frm + k) (L.take i)) (s := s) (u := .slice au nu cu) ((HJc.out.only HKi.out.only HJN.out).on HB5.out) (HDi.out.beyond HB5.out) (Nat.le_trans hBr HB5.out.size) HOK.out.1 (lies_on HOK.out.2.2.2 HB5.out) hup ha hlt2 hwt (hst.below HB5.out)).mono ?_
        rintro e w6 ⟨rfl, hd6, hk6⟩
        have hd7 : DevAt w6 B P (d.writes (frm + k) (L.take (i + 1))) := by
          rw [HOK.out.2.1, ← Nat.add_assoc, Dev.writes_next d (frm + k) HOK.out.2.2.1] at hd6; exact hd6
        have HD7 := Lib.hid hd7
        have HK7 : Hid (Kept P wc w6) := Lib.hid ((HKi.out.trans (kept_on HDi.out HB5.out)).trans hk6)
        clear hd6 hk6 hd7 hW5 y0 y1 y2 y3
        dsimp only
        go_wp2_with fail
        go_roundw
        case rel => exact ⟨i + 1, by omega, by simp, HD7.out, HK7.out⟩
        case measure => simp [intOf]; omega
      · obtain rfl : i = pc := by omega
        go_wp2
        go_ret
        have := HDi.out
        rw [List.take_of_length_le (by omega)] at this
        rw [HL.out] at this
        exact ⟨rfl, this, (kept_on HD.out HB3.out).trans HKi.out⟩
end Go.Proofs.YtngeilhdambgfaaDoor
