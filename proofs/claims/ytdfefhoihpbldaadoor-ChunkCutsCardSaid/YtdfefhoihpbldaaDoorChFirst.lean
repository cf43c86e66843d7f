/- The first point of a chunk, and a further one, written. -/
import Derived.Test.YtdfefhoihpbldaaDoorChPut
namespace Go.Proofs.YtdfefhoihpbldaaDoor
open Go.RowKit

/-- a block made behind the writer stays as it is while the writer is written to -/
theorem bnew_stays {wr wa w2 : World} {B P : Nat} {g : Option Nat} {bs bs' : List Bool} {cs : Array Value} {t : TypeId} {fr : Nat × Nat} (hw : WriterAt B wr P g bs) (h2 : Wrote B wa P g bs' w2) (h : wa.heap[wr.heap.size]? = some (.cells cs t fr)) : w2.heap[wr.heap.size]? = some (.cells cs t fr) := by
  obtain ⟨_, v, hv, hh, hown⟩ := hw
  refine (h2.2.2.1.block _ (lt_of_block h) (fun hs => ?_)).trans h
  rcases hs with hs | hs
  · have := lt_of_block hh; omega
  · have := (hown.lt _ (hv.trans hs)).2; omega
theorem bwriter_of {B : Nat} {w0 w : World} {P : Nat} {g : Option Nat} {l : List Bool} (h : Wrote B w0 P g l w) : ∃ g', WriterAt B w P g' l := by
  obtain ⟨_, _, _, g', hw, _⟩ := h
  exact ⟨g', hw⟩
/-- written to behind new blocks: from ahead of these on -/
theorem Wrote.after {B : Nat} {w wa w' : World} {P : Nat} {g : Option Nat} {l l' : List Bool} (hw : WriterAt B w P g l) (hb : Below w.heap.size w wa) (h : Wrote B wa P g l' w') : Wrote B w P g l' w' := by
  obtain ⟨hB, v, hv, hh, hown⟩ := hw
  obtain ⟨_, _, h3, g', h4, h5⟩ := h
  refine ⟨⟨hB, lt_of_block hh⟩, fun k hk => hown.lt k (hv.trans hk), (only_beyond hb).trans h3 (fun _ _ h => h), g', h4, ?_⟩
  rcases h5 with h5 | ⟨k, h5, h6⟩
  · exact .inl h5
  · exact .inr ⟨k, h5, Nat.le_trans hb.size h6⟩
theorem WriterAt.beyond {B : Nat} {w w' : World} {P : Nat} {g : Option Nat} {l : List Bool} (h : WriterAt B w P g l) (hb : Below w.heap.size w w') : WriterAt B w' P g l := h.only (only_beyond (S := fun _ => False) hb) (fun h => h) (fun _ _ h => h)

set_option maxHeartbeats 4000000 in
theorem cfirst_ok {B : Nat} {w : World} {P : Nat} {g : Option Nat} {l : List Bool} {ta tv : Int} (h0 : 0 ≤ ta) (h1 : ta ≤ 1099511627776) (f3 : -9223372036854775808 ≤ tv) (f4 : tv ≤ 9223372036854775807) (hl : StepsLaid w) (hsB : 0 < B) (hB : B ≤ w.heap.size) (hbig : l.length ≤ 1000000) (hw : WriterAt B w P g l) :
    Calls Tryd.prog 18 #[.pointer (some ⟨P, 0, none⟩), .agg #[.int .i64 ta, .int .i64 tv]] w fun e w' => e = .returned (.tuple #[]) ∧ Wrote B w P g (l ++ headBits ⟨ta, tv⟩) w' := by
  have hft := foldZ_lt f3 f4
  obtain ⟨X, hX⟩ : ∃ X : Nat, (X : Int) = ta := ⟨ta.toNat, by omega⟩
  have hXt : ta.toNat = X := by omega
  have hbit : headBits ⟨ta, tv⟩ = numBits X 41 ++ numBits (foldZ tv) 64 := by rw [headBits, hXt]
  have HBIT := Lib.hid hbit
  have hzx : IntKind.u64.wrap ta = (X : Int) := by rw [IntKind.wrap_u64]; omega
  have hX1 : X < 2 ^ 41 := by omega
  have HW := Lib.hid hw
  have HNI : Hid ((w.alloc (.cells #[.int .i64 ta, .int .i64 tv] 42)).heap[w.heap.size]? = some (.cells #[.int .i64 ta, .int .i64 tv] 42 (0, 0))) := Lib.hid (heap_alloc_new w _)
  have hal : Below w.heap.size w (w.alloc (.cells #[.int .i64 ta, .int .i64 tv] 42)) := (Below.refl _ _).alloc (Nat.le_refl _) _
  have HAL := Lib.hid hal
  have HWA := Lib.hid (hw.beyond hal)
  have hPa : B ≤ (w.alloc (.cells #[.int .i64 ta, .int .i64 tv] 42)).heap.size := Nat.le_trans hB hal.size
  have HSa : Hid (StepsLaid (w.alloc (.cells #[.int .i64 ta, .int .i64 tv] 42))) := Lib.hid (hl.alloc _)
  have hlt := hl.lt
  have c0 : (w.alloc (.cells #[.int .i64 ta, .int .i64 tv] 42)).cell? ⟨w.heap.size, 0, none⟩ = some (.int .i64 ta) := (cell_of_row _ w.heap.size 0 _ _ _ (heap_alloc_new w _)).trans rfl
  have c1 : (w.alloc (.cells #[.int .i64 ta, .int .i64 tv] 42)).cell? ⟨w.heap.size, 1, none⟩ = some (.int .i64 tv) := (cell_of_row _ w.heap.size 1 _ _ _ (heap_alloc_new w _)).trans rfl
  clear hw hal hbit hX hl
  go_enter Tryd.func18, Tryd.ntmps18
  go_wp2_with fail
  refine (put_ok (x := X) (n := 41) (by omega) (by omega) (wid_le 41 hX1) HSa.out hPa (by omega) (Wrote.start HWA.out)).mono ?_
  rintro e W4 ⟨rfl, h4⟩
  have H4 := Lib.hid h4
  have dh : W4.heap[w.heap.size]? = some (.cells #[.int .i64 ta, .int .i64 tv] 42 (0, 0)) := bnew_stays HW.out h4 HNI.out
  have d0 : W4.cell? ⟨w.heap.size, 0, none⟩ = some (.int .i64 ta) := (cell_of_row _ w.heap.size 0 _ _ _ dh).trans rfl
  have d1 : W4.cell? ⟨w.heap.size, 1, none⟩ = some (.int .i64 tv) := (cell_of_row _ w.heap.size 1 _ _ _ dh).trans rfl
  have hz4 := (h4.below hPa).size
  have HS4 : Hid (StepsLaid W4) := Lib.hid (HSa.out.keep (h4.below hPa) hsB)
  clear h4
  go_wp2_with (go_at_call 33; refine (foldN_any f3 f4 _).mono ?_; rintro e w' ⟨rfl, rfl⟩)
  refine (put_ok (x := foldZ tv) (n := 64) hft (by omega) (wid_le 64 hft) HS4.out hPa (by rw [List.length_append, numBits_length]; omega) H4.out).mono ?_
  rintro e W5 ⟨rfl, h5⟩
  have H5 := Lib.hid h5
  clear h5
  go_wp2
  go_end0
  exact ⟨rfl, by rw [HBIT.out, ← List.append_assoc]; exact Wrote.after HW.out HAL.out H5.out⟩

set_option maxHeartbeats 4000000 in
theorem cnext_ok {B : Nat} {w : World} {P : Nat} {g : Option Nat} {l : List Bool} {pa pv ta tv : Int} (h0 : 0 ≤ pa) (h1 : pa < ta) (h2 : ta ≤ 1099511627776) (hl : StepsLaid w) (hsB : 0 < B) (hB : B ≤ w.heap.size) (hbig : l.length ≤ 1000000) (hw : WriterAt B w P g l) :
    Calls Tryd.prog 19 #[.pointer (some ⟨P, 0, none⟩), .agg #[.int .i64 pa, .int .i64 pv], .agg #[.int .i64 ta, .int .i64 tv]] w fun e w' => e = .returned (.tuple #[]) ∧ Wrote B w P g (l ++ nextBits ⟨pa, pv⟩ ⟨ta, tv⟩) w' := by
  obtain ⟨st, hst⟩ : ∃ st, st = stepN ⟨pa, pv⟩ ⟨ta, tv⟩ := ⟨_, rfl⟩
  have hst2 : (st : Int) = ta - pa - 1 := by rw [hst]; unfold stepN; simp only; omega
  have hstb : st < 18446744073709551616 := by omega
  obtain ⟨e1, he1⟩ : ∃ d1, IntKind.i64.wrap (ta - pa) = d1 := ⟨_, rfl⟩
  have he1' : e1 = ta - pa := by rw [← he1, wrapS_eq, wrapS_of] <;> omega
  obtain ⟨e2, he2⟩ : ∃ d2, IntKind.i64.wrap (e1 - 1) = d2 := ⟨_, rfl⟩
  have he2' : e2 = ta - pa - 1 := by rw [← he2, wrapS_eq, wrapS_of] <;> omega
  have he3 : IntKind.u64.wrap e2 = (st : Int) := by rw [IntKind.wrap_u64]; omega
  obtain ⟨dv, hdv⟩ : ∃ dv, IntKind.i64.wrap (tv - pv) = dv := ⟨_, rfl⟩
  have hdvr : -9223372036854775808 ≤ dv ∧ dv ≤ 9223372036854775807 := by rw [← hdv, wrapS_eq]; exact wrapS_in _
  have hdvr1 := hdvr.1
  have hdvr2 := hdvr.2
  have hch : changeN ⟨pa, pv⟩ ⟨ta, tv⟩ = foldZ dv := by rw [← hdv, wrapS_eq]; rfl
  have hfb := foldZ_lt hdvr1 hdvr2
  have hob := ownBits_le hstb
  have HBIT : Hid (nextBits ⟨pa, pv⟩ ⟨ta, tv⟩ = ownBits st ++ ownBits (foldZ dv)) := Lib.hid (by rw [nextBits, ← hst, hch])
  have HW := Lib.hid hw
  have halp : Below w.heap.size w (w.alloc (.cells #[.int .i64 pa, .int .i64 pv] 42)) := (Below.refl _ _).alloc (Nat.le_refl _) _
  have hzp := halp.size
  have HWP := Lib.hid (hw.beyond halp)
  have halt : Below w.heap.size w ((w.alloc (.cells #[.int .i64 pa, .int .i64 pv] 42)).alloc (.cells #[.int .i64 ta, .int .i64 tv] 42)) := halp.alloc hzp _
  have HAL := Lib.hid halt
  have HWA := Lib.hid (hw.beyond halt)
  obtain ⟨wp, hwp⟩ : ∃ wp, wp = w.alloc (.cells #[.int .i64 pa, .int .i64 pv] 42) := ⟨_, rfl⟩
  have hnp : wp.heap[w.heap.size]? = some (.cells #[.int .i64 pa, .int .i64 pv] 42 (0, 0)) := by rw [hwp]; exact heap_alloc_new w _
  rw [← hwp] at HWP
  have HNP : Hid ((wp.alloc (.cells #[.int .i64 ta, .int .i64 tv] 42)).heap[w.heap.size]? = some (.cells #[.int .i64 pa, .int .i64 pv] 42 (0, 0))) := Lib.hid ((Below.heap_alloc _ _ _ (lt_of_block hnp)).trans hnp)
  have HNT : Hid ((wp.alloc (.cells #[.int .i64 ta, .int .i64 tv] 42)).heap[wp.heap.size]? = some (.cells #[.int .i64 ta, .int .i64 tv] 42 (0, 0))) := Lib.hid (heap_alloc_new wp _)
  rw [← hwp] at HAL HWA halt
  have hPa : B ≤ (wp.alloc (.cells #[.int .i64 ta, .int .i64 tv] 42)).heap.size := Nat.le_trans hB halt.size
  have HSa : Hid (StepsLaid (wp.alloc (.cells #[.int .i64 ta, .int .i64 tv] 42))) := Lib.hid (by rw [hwp]; exact (hl.alloc _).alloc _)
  have c0 : (wp.alloc (.cells #[.int .i64 ta, .int .i64 tv] 42)).cell? ⟨w.heap.size, 0, none⟩ = some (.int .i64 pa) := (cell_of_row _ w.heap.size 0 _ _ _ HNP.out).trans rfl
  have c1 : (wp.alloc (.cells #[.int .i64 ta, .int .i64 tv] 42)).cell? ⟨w.heap.size, 1, none⟩ = some (.int .i64 pv) := (cell_of_row _ w.heap.size 1 _ _ _ HNP.out).trans rfl
  have c2 : (wp.alloc (.cells #[.int .i64 ta, .int .i64 tv] 42)).cell? ⟨wp.heap.size, 0, none⟩ = some (.int .i64 ta) := (cell_of_row _ wp.heap.size 0 _ _ _ HNT.out).trans rfl
  have c3 : (wp.alloc (.cells #[.int .i64 ta, .int .i64 tv] 42)).cell? ⟨wp.heap.size, 1, none⟩ = some (.int .i64 tv) := (cell_of_row _ wp.heap.size 1 _ _ _ HNT.out).trans rfl
  clear hw halt halp hst hst2 he1' he2' hch hdvr hl hnp
  go_enter Tryd.func19, Tryd.ntmps19
  go_wp2_with fail
  rw [← hwp]
  refine (cput_ok hstb HSa.out hsB hPa (by omega) (Wrote.start HWA.out)).mono ?_
  rintro e W4 ⟨rfl, h4⟩
  have H4 := Lib.hid h4
  have dp : W4.heap[w.heap.size]? = some (.cells #[.int .i64 pa, .int .i64 pv] 42 (0, 0)) := bnew_stays HW.out h4 HNP.out
  have dt : W4.heap[wp.heap.size]? = some (.cells #[.int .i64 ta, .int .i64 tv] 42 (0, 0)) := bnew_stays HWP.out h4 HNT.out
  have d0 : W4.cell? ⟨w.heap.size, 0, none⟩ = some (.int .i64 pa) := (cell_of_row _ w.heap.size 0 _ _ _ dp).trans rfl
  have d1 : W4.cell? ⟨w.heap.size, 1, none⟩ = some (.int .i64 pv) := (cell_of_row _ w.heap.size 1 _ _ _ dp).trans rfl
  rw [show wp.heap.size = w.heap.size + 1 by rw [hwp]; simp] at dt
  have d2 : W4.cell? ⟨w.heap.size + 1, 0, none⟩ = some (.int .i64 ta) := (cell_of_row _ (w.heap.size + 1) 0 _ _ _ dt).trans rfl
  have d3 : W4.cell? ⟨w.heap.size + 1, 1, none⟩ = some (.int .i64 tv) := (cell_of_row _ (w.heap.size + 1) 1 _ _ _ dt).trans rfl
  have hz4 := (h4.below hPa).size
  clear h4
  go_wp2_with (go_at_call 33; refine (foldN_any hdvr1 hdvr2 _).mono ?_; rintro e w' ⟨rfl, rfl⟩)
  refine (cput_ok hfb HSa.out hsB hPa (by rw [List.length_append]; omega) H4.out).mono ?_
  rintro e W5 ⟨rfl, h5⟩
  have H5 := Lib.hid h5
  clear h5
  go_wp2
  go_end0
  exact ⟨rfl, by rw [HBIT.out, ← List.append_assoc]; exact Wrote.after HW.out HAL.out H5.out⟩
end Go.Proofs.YtdfefhoihpbldaaDoor
