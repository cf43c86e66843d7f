/- The first point of a chunk, and a further one, read. -/
import Derived.Test.YtdfefhoihpbldaaDoorChFirst
import Derived.Laws.ResultCell
import Derived.StillTailTactics
namespace Go.Proofs.YtdfefhoihpbldaaDoor
open Go.RowKit

/-- a reader, while a block of points is written to -/
theorem ReaderAt.beside {B : Nat} {w w' : World} {R Q n : Nat} {bs : List Nat} {cs : Array Value} {fr : Nat × Nat} (h : ReaderAt B w R bs n) (hQ : w.heap[Q]? = some (.cells cs 42 fr)) (ho : Only (fun j => j = Q) w w') : ReaderAt B w' R bs n := by
  obtain ⟨hR, v, hh, hown⟩ := h
  refine ⟨hR, v, (ho.block R (lt_of_block hh) (fun h => ?_)).trans hh, row_only hown ho (fun k hk hs => ?_)⟩
  · have h : R = Q := h
    rw [h, hQ] at hh; injection hh with hh; injection hh with _ hh _; revert hh; decide
  · have hs : k = Q := hs
    subst hs
    exact row_ne hQ hown (by decide) hk

theorem pt_set {w : World} {Q : Nat} {x0 y0 x y : Value} (h : w.heap[Q]? = some (.cells #[x0, y0] 42 (0, 0))) : ((w.setCell ⟨Q, 0, none⟩ x).setCell ⟨Q, 1, none⟩ y).heap[Q]? = some (.cells #[x, y] 42 (0, 0)) := by
  have h1 := heap_setCell_same w Q 0 _ _ x h
  have h2 := heap_setCell_same _ Q 1 _ _ y h1
  rw [h2]; simp
theorem only_set2 {S : Nat → Prop} {w : World} {Q : Nat} {x y : Value} (hQ : S Q) : Only S w ((w.setCell ⟨Q, 0, none⟩ x).setCell ⟨Q, 1, none⟩ y) := (Only.setCell w hQ x).trans (Only.setCell _ hQ y) (fun _ _ h => h)
/-- a function that tells a point, out of a variable of its own, and an error -/
theorem ret_pt {fn : Func} {p u : Tmp} (h : fn.results = #[.cell p 42, .tmp u]) {tmps : Array Value} {w : World} {Q : Nat} {x y : Int} (hp : tmps.getD p undef = .pointer (some ⟨Q, 0, none⟩)) (hq : w.heap[Q]? = some (.cells #[.int .i64 x, .int .i64 y] 42 (0, 0))) :
    (results fn tmps).run Tryd.prog w = .ok (.tuple #[.agg #[.int .i64 x, .int .i64 y], tmps.getD u undef]) w := by
  obtain ⟨c0, c1, _, _⟩ := cells2 hq
  rw [results_cell_tmp h, hp]
  go_simp

set_option maxHeartbeats 4000000 in
theorem cgetFirst_any {B : Nat} {w : World} {R p : Nat} {bs : List Nat} (h : ReaderAt B w R bs p) (hb : ∀ x ∈ bs, x < 256) (hbig : bs.length ≤ 1000000) (hp : p ≤ 8 * bs.length) :
    Calls Tryd.prog 26 #[.pointer (some ⟨R, 0, none⟩)] w fun e w' =>
      ((∃ t p', headAt bs p = .ok (t, p') ∧ e = .returned (.tuple #[.agg #[.int .i64 t.a, .int .i64 t.v], .int .i64 0]) ∧ ReaderAt B w' R bs p' ∧ p' ≤ 8 * bs.length ∧ (0 ≤ t.a ∧ t.a ≤ 1099511627776) ∧ t.fits) ∨ ∃ z : Int, z ≠ 0 ∧ headAt bs p = .error z ∧ e = .returned (.tuple #[.agg #[.int .i64 0, .int .i64 0], .int .i64 z])) ∧ Only (fun j => j = R) w w' := by
  have hR0 := h.1
  have HB := Lib.hid hb
  have hal : Below w.heap.size w (w.alloc (.cells #[.int .i64 0, .int .i64 0] 42)) := (Below.refl _ _).alloc (Nat.le_refl _) _
  have H := Lib.hid (h.beyond hal)
  have HNI : Hid ((w.alloc (.cells #[.int .i64 0, .int .i64 0] 42)).heap[w.heap.size]? = some (.cells #[.int .i64 0, .int .i64 0] 42 (0, 0))) := Lib.hid (heap_alloc_new w _)
  have hRlt : R < w.heap.size := by obtain ⟨_, u, hh, _⟩ := h; exact lt_of_block hh
  have HAL : Hid (Only (fun j => j = R) w (w.alloc (.cells #[.int .i64 0, .int .i64 0] 42))) := Lib.hid (only_beyond hal)
  clear hal hb h
  -- what is behind a store into the block of what is told
  have fin : ∀ (w1 : World) (x y : Int), Only (fun j => j = R) (w.alloc (.cells #[.int .i64 0, .int .i64 0] 42)) w1 → Only (fun j => j = R) w ((w1.setCell ⟨w.heap.size, 0, none⟩ (.int .i64 x)).setCell ⟨w.heap.size, 1, none⟩ (.int .i64 y))   := fun w1 x y ho =>
    (HAL.out.trans ho (fun _ _ h => h)).trans (only_set2 (S := fun j => j = w.heap.size) rfl) (fun i hi h => by have h : i = w.heap.size := h; omega)
  have FIN := Lib.hid fin
  clear fin
  go_enter Tryd.func26, Tryd.ntmps26
  go_wp2_with fail
  refine (get_at (n := 41) H.out HB.out hbig hp (by omega)).mono ?_
  rintro e w1 ⟨⟨n, hn, rfl, hr, hp1, hx⟩ | ⟨he, rfl⟩, ho⟩
  rotate_left
  · have HE : Hid (headAt bs p = .error 4) := Lib.hid (by unfold headAt; rw [he])
    have hq : w1.heap[w.heap.size]? = some (.cells #[.int .i64 0, .int .i64 0] 42 (0, 0)) := (ho.block _ (lt_of_block HNI.out) (by omega)).trans HNI.out
    obtain ⟨c0, c1, f0, f1⟩ := cells2 hq
    have HO := Lib.hid ho
    have HQ := Lib.hid hq
    clear he ho hq
    go_wp2
    (try simp only [Exit.inBlock, Exit.then])
    refine bodyPost_ret (ret_pt rfl rfl (pt_set HQ.out)) rfl ?_
    exact ⟨.inr ⟨4, by decide, HE.out, rfl⟩, FIN.out _ 0 0 HO.out⟩
  have hq : w1.heap[w.heap.size]? = some (.cells #[.int .i64 0, .int .i64 0] 42 (0, 0)) := (ho.block _ (lt_of_block HNI.out) (by omega)).trans HNI.out
  have HQ := Lib.hid hq
  obtain ⟨c0, c1, f0, f1⟩ := cells2 hq
  have HN := Lib.hid hn
  have HR := Lib.hid hr
  have HO := Lib.hid ho
  clear hn hr ho hq
  by_cases h64 : 1099511627776 < n
  · have t1 : decide ((1099511627776 : Int) < n) = true := by simp; omega
    have HE : Hid (headAt bs p = .error 3) := Lib.hid (by unfold headAt; rw [HN.out]; simp only; rw [if_pos h64])
    go_wp2
    (try simp only [Exit.inBlock, Exit.then])
    refine bodyPost_ret (ret_pt rfl rfl (pt_set HQ.out)) rfl ?_
    exact ⟨.inr ⟨3, by decide, HE.out, rfl⟩, FIN.out _ 0 0 HO.out⟩
  have t1 : decide ((1099511627776 : Int) < n) = false := by simp; omega
  clear c0 c1 f0 f1
  go_wp2_with fail
  refine (get_at (n := 64) HR.out HB.out hbig hp1 (by omega)).mono ?_
  rintro e w2 ⟨⟨x, hx2, rfl, hr2, hp2, hx3⟩ | ⟨he, rfl⟩, ho2⟩
  rotate_left
  · have HE : Hid (headAt bs p = .error 4) := Lib.hid (by unfold headAt; rw [HN.out]; simp only; rw [if_neg (by omega), he])
    have hq : w2.heap[w.heap.size]? = some (.cells #[.int .i64 0, .int .i64 0] 42 (0, 0)) := (ho2.block _ (lt_of_block HQ.out) (by omega)).trans HQ.out
    obtain ⟨c0, c1, f0, f1⟩ := cells2 hq
    have HO2 := Lib.hid (HO.out.trans ho2 (fun _ _ h => h))
    have HQ2 := Lib.hid hq
    clear he ho2 hq
    go_wp2
    (try simp only [Exit.inBlock, Exit.then])
    refine bodyPost_ret (ret_pt rfl rfl (pt_set HQ2.out)) rfl ?_
    exact ⟨.inr ⟨4, by decide, HE.out, rfl⟩, FIN.out _ 0 0 HO2.out⟩
  have hq : w2.heap[w.heap.size]? = some (.cells #[.int .i64 0, .int .i64 0] 42 (0, 0)) := (ho2.block _ (lt_of_block HQ.out) (by omega)).trans HQ.out
  obtain ⟨c0, c1, f0, f1⟩ := cells2 hq
  have HO2 := Lib.hid (HO.out.trans ho2 (fun _ _ h => h))
  have HQ2 := Lib.hid hq
  have HR2 := Lib.hid hr2
  have HE : Hid (headAt bs p = .ok (⟨n, unfoldZ x⟩, p + 41 + 64)) := Lib.hid (by unfold headAt; rw [HN.out]; simp only; rw [if_neg h64, hx2])
  have hza : IntKind.i64.wrap (n : Int) = n := by rw [IntKind.wrap_i64]; omega
  have huf := unfoldZ_in hx3
  have HUF := Lib.hid huf
  clear ho2 hq hr2 hx2 huf
  go_wp2_with (go_at_call 38; refine (unfoldN_any hx3 _).mono ?_; rintro e w' ⟨rfl, rfl⟩)
  (try simp only [Exit.inBlock, Exit.then])
  refine bodyPost_ret (ret_pt rfl rfl (pt_set HQ2.out)) rfl ?_
  exact ⟨.inl ⟨⟨n, unfoldZ x⟩, _, HE.out, rfl, HR2.out.beside HQ2.out (only_set2 rfl), hp2, ⟨by simp only; omega, by simp only; omega⟩, ⟨by simp only; omega, by simp only; omega, HUF.out.1, HUF.out.2⟩⟩, FIN.out _ _ _ HO2.out⟩

set_option maxHeartbeats 8000000 in
theorem cgetNext_any {B : Nat} {w : World} {R p : Nat} {bs : List Nat} {q : Pt} (h : ReaderAt B w R bs p) (hb : ∀ x ∈ bs, x < 256) (hbig : bs.length ≤ 1000000) (hp : p ≤ 8 * bs.length) (hl : StepsLaid w) (hs : 0 < B) (hqa : 0 ≤ q.a ∧ q.a ≤ 1099511627776) (hqf : q.fits) :
    Calls Tryd.prog 27 #[.pointer (some ⟨R, 0, none⟩), .agg #[.int .i64 q.a, .int .i64 q.v]] w fun e w' =>
      ((∃ t p', nextAt bs p q = .ok (t, p') ∧ e = .returned (.tuple #[.agg #[.int .i64 t.a, .int .i64 t.v], .int .i64 0]) ∧ ReaderAt B w' R bs p' ∧ p' ≤ 8 * bs.length ∧ (0 ≤ t.a ∧ t.a ≤ 1099511627776) ∧ t.fits) ∨ ∃ z : Int, z ≠ 0 ∧ nextAt bs p q = .error z ∧ e = .returned (.tuple #[.agg #[.int .i64 0, .int .i64 0], .int .i64 z])) ∧ Only (fun j => j = R) w w' := by
  obtain ⟨qa, qv⟩ := q
  obtain ⟨g1, g2⟩ := hqa
  obtain ⟨_, _, f3, f4⟩ := hqf
  simp only at g1 g2 f3 f4
  have hR0 := h.1
  have HB := Lib.hid hb
  have hRlt : R < w.heap.size := by obtain ⟨_, u, hh, _⟩ := h; exact lt_of_block hh
  have halp : Below w.heap.size w (w.alloc (.cells #[.int .i64 qa, .int .i64 qv] 42)) := (Below.refl _ _).alloc (Nat.le_refl _) _
  have hal : Below w.heap.size w ((w.alloc (.cells #[.int .i64 qa, .int .i64 qv] 42)).alloc (.cells #[.int .i64 0, .int .i64 0] 42)) := halp.alloc halp.size _
  obtain ⟨wa, hwa⟩ : ∃ wa, wa = (w.alloc (.cells #[.int .i64 qa, .int .i64 qv] 42)).alloc (.cells #[.int .i64 0, .int .i64 0] 42) := ⟨_, rfl⟩
  have hnp : wa.heap[w.heap.size]? = some (.cells #[.int .i64 qa, .int .i64 qv] 42 (0, 0)) := by rw [hwa]; exact (Below.heap_alloc _ _ _ (by simp)).trans (heap_alloc_new w _)
  have hnr : wa.heap[w.heap.size + 1]? = some (.cells #[.int .i64 0, .int .i64 0] 42 (0, 0)) := by
    rw [hwa]; have := heap_alloc_new (w.alloc (.cells #[.int .i64 qa, .int .i64 qv] 42)) (.cells #[.int .i64 0, .int .i64 0] 42 (0, 0)); simpa using this
  rw [← hwa] at hal
  have H := Lib.hid (h.beyond hal)
  have HSa : Hid (StepsLaid wa) := Lib.hid (by rw [hwa]; exact (hl.alloc _).alloc _)
  have HNP := Lib.hid hnp
  have HNR := Lib.hid hnr
  have HAL : Hid (Only (fun j => j = R) w wa) := Lib.hid (only_beyond hal)
  have hza := hal.size
  clear hal halp hb h hnp hnr hl
  -- what is behind a store into the block of what is told
  have fin : ∀ (w1 : World) (x y : Int), Only (fun j => j = R) wa w1 → Only (fun j => j = R) w ((w1.setCell ⟨w.heap.size + 1, 0, none⟩ (.int .i64 x)).setCell ⟨w.heap.size + 1, 1, none⟩ (.int .i64 y)) := fun w1 x y ho =>
    (HAL.out.trans ho (fun _ _ h => h)).trans (only_set2 (S := fun j => j = w.heap.size + 1) rfl) (fun i hi h => by have h : i = w.heap.size + 1 := h; omega)
  have FIN := Lib.hid fin
  clear fin
  go_enter Tryd.func27, Tryd.ntmps27
  go_wp2_with fail
  rw [← hwa]
  refine (cget_any H.out HB.out hbig hp HSa.out hs).mono ?_
  rintro e w1 ⟨⟨s, p1, hn, rfl, hr, hp1, hx⟩ | ⟨z, hz, he, rfl⟩, ho⟩
  rotate_left
  · have HE : Hid (nextAt bs p ⟨qa, qv⟩ = .error z) := Lib.hid (by unfold nextAt; rw [he])
    have hq : w1.heap[w.heap.size + 1]? = some (.cells #[.int .i64 0, .int .i64 0] 42 (0, 0)) := (ho.block _ (lt_of_block HNR.out) (by omega)).trans HNR.out
    obtain ⟨c0, c1, f0, f1⟩ := cells2 hq
    have HO := Lib.hid ho
    have HQ := Lib.hid hq
    have t1 : (z != 0) = true := by simpa using hz
    clear he ho hq hwa
    go_wp2
    (try simp only [Exit.inBlock, Exit.then])
    refine bodyPost_ret (ret_pt rfl rfl (pt_set HQ.out)) rfl ?_
    exact ⟨.inr ⟨z, hz, HE.out, rfl⟩, FIN.out _ 0 0 HO.out⟩
  have hq : w1.heap[w.heap.size + 1]? = some (.cells #[.int .i64 0, .int .i64 0] 42 (0, 0)) := (ho.block _ (lt_of_block HNR.out) (by omega)).trans HNR.out
  have hqp : w1.heap[w.heap.size]? = some (.cells #[.int .i64 qa, .int .i64 qv] 42 (0, 0)) := (ho.block _ (lt_of_block HNP.out) (by omega)).trans HNP.out
  have HQ := Lib.hid hq
  have HQP := Lib.hid hqp
  obtain ⟨c0, c1, f0, f1⟩ := cells2 hq
  obtain ⟨d0, d1, _, _⟩ := cells2 hqp
  have HN := Lib.hid hn
  have HR := Lib.hid hr
  have HO := Lib.hid ho
  have HS1 : Hid (StepsLaid w1) := Lib.hid (HSa.out.keep (ho.below (B := B) (by omega) (fun k hk => by omega)) hs)
  have k1 : IntKind.i64.wrap (1099511627776 - qa) = 1099511627776 - qa := by rw [wrapS_eq, wrapS_of] <;> omega
  have k2 : IntKind.u64.wrap (1099511627776 - qa) = 1099511627776 - qa := by rw [IntKind.wrap_u64]; omega
  clear hn hr ho hq hqp hwa
  by_cases h64 : 1099511627776 < qa + 1 + s
  · have t1 : decide (1099511627776 - qa ≤ (s : Int)) = true := by simp; omega
    have HE : Hid (nextAt bs p ⟨qa, qv⟩ = .error 3) := Lib.hid (by unfold nextAt; rw [HN.out]; simp only; rw [if_pos h64])
    go_wp2
    (try simp only [Exit.inBlock, Exit.then])
    refine bodyPost_ret (ret_pt rfl rfl (pt_set HQ.out)) rfl ?_
    exact ⟨.inr ⟨3, by decide, HE.out, rfl⟩, FIN.out _ 0 0 HO.out⟩
  have t1 : decide (1099511627776 - qa ≤ (s : Int)) = false := by simp; omega
  clear c0 c1 f0 f1
  go_wp2_with fail
  refine (cget_any HR.out HB.out hbig hp1 HS1.out hs).mono ?_
  rintro e w2 ⟨⟨c, p2, hn2, rfl, hr2, hp2, hx2⟩ | ⟨z, hz, he, rfl⟩, ho2⟩
  rotate_left
  · have HE : Hid (nextAt bs p ⟨qa, qv⟩ = .error z) := Lib.hid (by unfold nextAt; rw [HN.out]; simp only; rw [if_neg (by omega), he])
    have hq : w2.heap[w.heap.size + 1]? = some (.cells #[.int .i64 0, .int .i64 0] 42 (0, 0)) := (ho2.block _ (lt_of_block HQ.out) (by omega)).trans HQ.out
    obtain ⟨c0, c1, f0, f1⟩ := cells2 hq
    have HO2 := Lib.hid (HO.out.trans ho2 (fun _ _ h => h))
    have HQ2 := Lib.hid hq
    have t2 : (z != 0) = true := by simpa using hz
    clear he ho2 hq d0 d1
    go_wp2
    (try simp only [Exit.inBlock, Exit.then])
    refine bodyPost_ret (ret_pt rfl rfl (pt_set HQ2.out)) rfl ?_
    exact ⟨.inr ⟨z, hz, HE.out, rfl⟩, FIN.out _ 0 0 HO2.out⟩
  have hq : w2.heap[w.heap.size + 1]? = some (.cells #[.int .i64 0, .int .i64 0] 42 (0, 0)) := (ho2.block _ (lt_of_block HQ.out) (by omega)).trans HQ.out
  have hqp : w2.heap[w.heap.size]? = some (.cells #[.int .i64 qa, .int .i64 qv] 42 (0, 0)) := (ho2.block _ (lt_of_block HQP.out) (by omega)).trans HQP.out
  clear d0 d1
  obtain ⟨c0, c1, f0, f1⟩ := cells2 hq
  obtain ⟨d0, d1, _, _⟩ := cells2 hqp
  have HO2 := Lib.hid (HO.out.trans ho2 (fun _ _ h => h))
  have HQ2 := Lib.hid hq
  have HR2 := Lib.hid hr2
  obtain ⟨na, hna⟩ : ∃ na : Int, na = qa + 1 + s := ⟨_, rfl⟩
  obtain ⟨nv, hnv⟩ : ∃ nv : Int, IntKind.i64.wrap (qv + unfoldZ c) = nv := ⟨_, rfl⟩
  have hnv' := hnv
  rw [wrapS_eq] at hnv'
  have hnvr := wrapS_in (qv + unfoldZ c)
  rw [hnv'] at hnvr
  have HE : Hid (nextAt bs p ⟨qa, qv⟩ = .ok (⟨na, nv⟩, p2)) := Lib.hid (by unfold nextAt; rw [HN.out]; simp only; rw [if_neg (by omega), hn2]; simp only; rw [hnv', ← hna])
  have w1e : IntKind.i64.wrap (s : Int) = s := by rw [wrapS_eq, wrapS_of] <;> omega
  have w2e : IntKind.i64.wrap (qa + (s : Int)) = qa + s := by rw [wrapS_eq, wrapS_of] <;> omega
  have w3e : IntKind.i64.wrap (qa + (s : Int) + 1) = na := by rw [wrapS_eq, wrapS_of] <;> omega
  have HNR2 := Lib.hid hnvr
  have HNA := Lib.hid hna
  obtain ⟨w3, hw3⟩ : ∃ w3, w3 = w2.drew := ⟨_, rfl⟩
  have hq3 : w3.heap[w.heap.size + 1]? = some (.cells #[.int .i64 0, .int .i64 0] 42 (0, 0)) := by rw [hw3]; exact hq
  have HQ3 := Lib.hid hq3
  have HO3 : Hid (Only (fun j => j = R) wa w3) := Lib.hid (by rw [hw3]; exact HO2.out.trans (Only.drew (fun _ => False) w2) (fun _ _ h => h.elim))
  have HR3 : Hid (ReaderAt B w3 R bs p2) := Lib.hid (by rw [hw3]; exact hr2.beyond ((Below.refl _ _).drew))
  obtain ⟨g0, g1, g2, g3⟩ := cells2 hq3
  clear ho2 hq hqp hr2 hn2 hnv' hnvr hna hq3 c0 c1 f0 f1
  go_wp2_with fail
  go_still_tail 12, (by kernel_rfl)
  still_call ((unfoldN_any hx2 _).mono fun _ _ h => ⟨h.1, h.2.symm⟩)
  repeat still_step
  refine wpStill_nil ?_
  change wpList _ _ _ _ _ w2.drew
  rw [← hw3]
  clear d0 d1 hw3
  go_wp2
  (try simp only [Exit.inBlock, Exit.then])
  refine bodyPost_ret (ret_pt rfl rfl (pt_set HQ3.out)) rfl ?_
  exact ⟨.inl ⟨⟨na, nv⟩, p2, HE.out, rfl, HR3.out.beside HQ3.out (only_set2 rfl), hp2, ⟨by have := HNA.out; simp only; omega, by have := HNA.out; simp only; omega⟩, ⟨by have := HNA.out; simp only; omega, by have := HNA.out; simp only; omega, HNR2.out.1, HNR2.out.2⟩⟩, FIN.out _ _ _ HO3.out⟩
end Go.Proofs.YtdfefhoihpbldaaDoor
