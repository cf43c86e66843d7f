/- A chunk unpacked: what the package does. -/
import Derived.Test.YtdfefhoihpbldaaDoorChGet
import Derived.Test.YtdfefhoihpbldaaDoorChPack
import Derived.Test.YtdfefhoihpbldaaDoorChMerge
namespace Go.Proofs.YtdfefhoihpbldaaDoor
open Go.RowKit

/-- what is told behind so many points -/
def finS (bs : List Nat) (r : Except Int (List Pt × Nat)) : Int × List Pt :=
  match r with
  | .error e => (e, [])
  | .ok (l, p) => if cleanB bs p then (0, l) else (2, [])
theorem unpackS_get {bs : List Nat} {n : Nat} (h : getAt bs 0 16 = .ok n) : unpackS bs = finS bs (unp bs n 16 []) := by unfold unpackS finS; rw [h]; rfl
theorem finS_step {bs : List Nat} {k p p' : Nat} {acc : List Pt} {t : Pt} (h : itemAt bs p acc = .ok (t, p')) : finS bs (unp bs (k + 1) p acc) = finS bs (unp bs k p' (acc ++ [t])) := by rw [unp, h]
theorem finS_err {bs : List Nat} {k p : Nat} {acc : List Pt} {e : Int} (h : itemAt bs p acc = .error e) : finS bs (unp bs (k + 1) p acc) = (e, []) := by rw [unp, h]; rfl
theorem read_lt {B R : Nat} {w : World} {bs : List Nat} {p : Nat} (hr : ReaderAt B w R bs p) : R < w.heap.size := by
  obtain ⟨_, u, hh, _⟩ := hr
  exact lt_of_block hh
/-- the points read so far, as they lie beside the reader, and the last one of them at Q -/
def UnpRel (B Q : Nat) (bs : List Nat) (n R : Nat) (w : World) (k : Nat) (v : Value) (wr : World) : Prop :=
  ∃ acc p x y, acc.length = k ∧ ReaderAt B wr R bs p ∧ p ≤ 8 * bs.length ∧ wr.ownsRow (Q + 1) 42 2 v k (acc.flatMap Pt.cells) ∧ wr.heap[Q]? = some (.cells #[.int .i64 x, .int .i64 y] 42 (0, 0)) ∧ (∀ q, acc[k - 1]? = some q → x = q.a ∧ y = q.v) ∧
    unpackS bs = finS bs (unp bs (n - k) p acc) ∧ (∀ t ∈ acc, 0 ≤ t.a ∧ t.a ≤ 1099511627776) ∧ (∀ t ∈ acc, t.fits) ∧ Below B w wr ∧ B ≤ wr.heap.size

/-- one point more is read -/
theorem nextrel {B Q R n p p' k : Nat} {bs : List Nat} {w W4 W5 : World} {acc : List Pt} {t : Pt} {v v' : Value} {o : Obj} (hRQ : R < Q) (hBQ : B ≤ Q) (hr : ReaderAt B W4 R bs p') (hown : W4.ownsRow (Q + 1) 42 2 v k (acc.flatMap Pt.cells)) (hq : W4.heap[Q]? = some (.cells #[.int .i64 t.a, .int .i64 t.v] 42 (0, 0))) (hgrow : (W4.alloc o).grownBy W5 v.ownBlock)
    (hown5 : W5.ownsRow (Q + 1) 42 2 v' (k + 1) (acc.flatMap Pt.cells ++ t.cells)) (hitem : itemAt bs p acc = .ok (t, p')) (hun : unpackS bs = finS bs (unp bs (n - (k + 1) + 1) p acc)) (hin : ∀ u ∈ acc, 0 ≤ u.a ∧ u.a ≤ 1099511627776) (hfit : ∀ u ∈ acc, u.fits)
    (hti : 0 ≤ t.a ∧ t.a ≤ 1099511627776) (htf : t.fits) (hb : Below B w W4) (hp : p' ≤ 8 * bs.length) (hk : acc.length = k) : UnpRel B Q bs n R w (k + 1) v' W5 := by
  have hmem : ∀ u, u ∈ acc ++ [t] → u ∈ acc ∨ u = t := fun u hu => by
    rcases List.mem_append.1 hu with h | h
    · exact .inl h
    · exact .inr (by simpa using h)
  have hQlt := lt_of_block hq
  have hapart : ∀ j, v.ownBlock = some j → Q + 1 ≤ j := fun j hj => (hown.lt j hj).1
  have hb5 : Below B W4 W5 := ((Below.refl B W4).alloc (by omega) o).grown hgrow (by simp; omega) (fun j hj => by have := hapart j hj; omega)
  have hstay : ∀ j, j ≤ Q → W5.heap[j]? = W4.heap[j]? := fun j hj => by
    rw [hgrow.block j (by simp; omega) (fun e => by have := hapart j e.symm; omega), Below.heap_alloc _ _ _ (by omega)]
  refine ⟨acc ++ [t], p', t.a, t.v, by rw [List.length_append, hk]; rfl, ?_, hp, ?_, ?_, fun q hq2 => ?_, ?_, fun u hu => ?_, fun u hu => ?_, hb.trans hb5, by have := hb5.size; omega⟩
  · obtain ⟨hRB, u, hh, hr2⟩ := hr
    refine ⟨hRB, u, (hstay R (by omega)).trans hh, ?_⟩
    exact row_only (row_only hr2 (Only.alloc (fun _ => False) W4 o) (fun _ _ h => h)) (Only.grown hgrow) (fun j hj hs => rows_apart hr2 (row_base hown (show B ≤ Q + 1 by omega)) (by decide) j hj hs)
  · rw [List.flatMap_append]; simpa using hown5
  · exact (hstay Q (by omega)).trans hq
  · have hq3 : t = q := by simpa [hk] using hq2
    rw [hq3]; exact ⟨rfl, rfl⟩
  · rw [hun, finS_step hitem]
  · rcases hmem u hu with h | rfl
    · exact hin u h
    · exact hti
  · rcases hmem u hu with h | rfl
    · exact hfit u h
    · exact htf

set_option maxHeartbeats 8000000 in
set_option maxRecDepth 100000 in
theorem cunpack_any {w : World} {v0 : Value} {bs : List Nat} (hv : Lies w v0 bs) (hb : ∀ x ∈ bs, x < 256) (hbig : bs.length ≤ 1000000) (hl : StepsLaid w) :
    Calls Tryd.prog 12 #[v0] w fun e w' => ∃ v', e = .returned (.tuple #[v', .int .i64 (unpackS bs).1]) ∧ w'.ownsRow w.heap.size 42 2 v' (unpackS bs).2.length ((unpackS bs).2.flatMap Pt.cells) ∧ Below w.heap.size w w' := by
  obtain ⟨i0, hi, hz0, hz1, hz2⟩ := info_parts infoPt
  have HV := Lib.hid hv
  have HB := Lib.hid hb
  have HL := Lib.hid hl
  have hs0 := hl.lt
  clear hv hb hl
  go_enter Tryd.func12, Tryd.ntmps12
  go_wp2_with fail
  refine (read_any HV.out (by omega)).mono ?_
  rintro e W1 ⟨R, rfl, hr1, hb1⟩
  have HR1 := Lib.hid hr1
  have HB1 := Lib.hid hb1
  have hz1' := hb1.size
  clear hr1 hb1
  go_wp2_with fail
  refine (get_at (n := 16) HR1.out HB.out hbig (by omega) (by omega)).mono ?_
  rintro e W2 ⟨⟨n, hn, rfl, hr2, hp2, hx2⟩ | ⟨he, rfl⟩, ho2⟩
  rotate_left
  · have HU : Hid (unpackS bs = (4, [])) := Lib.hid (by unfold unpackS; rw [he])
    have HB2 : Hid (Below w.heap.size w W2) := Lib.hid (HB1.out.trans (ho2.below (B := w.heap.size) hz1' (fun k hk => by have := HR1.out.1; omega)))
    clear he ho2
    go_wp2
    go_ret2
    exact ⟨.slice none 0 0, by rw [HU.out]; rfl, by rw [HU.out]; exact World.ownsRow_nil _ _ _ _, HB2.out⟩
  have hn16 : n < 65536 := by
    have h1 := (getAt_ok hn).2
    have h2 := valOf_lt bs 0 16
    omega
  have HU := Lib.hid (unpackS_get hn)
  obtain ⟨Q, hQ⟩ : ∃ Q, Q = W2.heap.size := ⟨_, rfl⟩
  have hRQ : R < Q := by rw [hQ]; exact read_lt hr2
  have hal : Below W2.heap.size W2 (W2.alloc (.cells #[.int .i64 0, .int .i64 0] 42)) := (Below.refl _ _).alloc (Nat.le_refl _) _
  have HR2 := Lib.hid (hr2.beyond hal)
  have hb2 : Below w.heap.size w W2 := HB1.out.trans (ho2.below (B := w.heap.size) hz1' (fun k hk => by have := HR1.out.1; omega))
  have hzw2 := hb2.size
  have HB2 := Lib.hid (hb2.alloc hzw2 (.cells #[.int .i64 0, .int .i64 0] 42))
  have hBQ : w.heap.size ≤ Q := by omega
  have HQN : Hid ((W2.alloc (.cells #[.int .i64 0, .int .i64 0] 42)).heap[Q]? = some (.cells #[.int .i64 0, .int .i64 0] 42 (0, 0))) := Lib.hid (by rw [hQ]; exact heap_alloc_new W2 _)
  have hzw := HB2.out.size
  clear hn hr2 ho2 HR1 HB1 hx2 hal hb2
  obtain ⟨B, hBe⟩ : ∃ B, B = w.heap.size := ⟨_, rfl⟩
  have HBE := Lib.hid hBe
  rw [← hBe] at HR2 HB2 hzw hs0 hBQ
  clear hBe
  go_wp2_with fail
  rw [← hQ]
  clear hQ
  go_loopw [7, 22] (fun v c wr => ∃ k : Nat, k ≤ n ∧ c = .int .u64 k ∧ UnpRel B Q bs n R w k v wr) (fun _ c _ => n - (intOf c).toNat)
  case atStart => exact ⟨0, by omega, rfl, [], 16, 0, 0, rfl, by simpa using HR2.out, by omega, World.ownsRow_nil _ _ _ _, HQN.out, fun q hq => by simp at hq, HU.out, fun t ht => by simp at ht, fun t ht => by simp at ht, HB2.out, hzw⟩
  case round =>
    obtain ⟨k, hk, rfl, acc, p, x, y, hacc, hrd, hp, hown, hqb, hxy, hun, hin, hfit, hbw, hBw⟩ := hrel
    have HRD := Lib.hid hrd
    have HO := Lib.hid hown
    have HUN := Lib.hid hun
    have HIN := Lib.hid hin
    have HFIT := Lib.hid hfit
    have HBW := Lib.hid hbw
    have HACC := Lib.hid hacc
    have HQB := Lib.hid hqb
    have HXY := Lib.hid hxy
    have HLW := Lib.hid (HL.out.keep hbw hs0)
    have hRB := hrd.1
    have hRlt := read_lt hrd
    have hQlt := lt_of_block hqb
    clear hrd hown hun hin hfit hbw hqb hxy
    by_cases hlt : k < n
    · have hstep : n - k = n - (k + 1) + 1 := by omega
      rw [hstep] at HUN
      clear hstep
      rcases Nat.eq_zero_or_pos k with h0 | h0
      · subst h0
        obtain rfl : acc = [] := List.length_eq_zero_iff.1 HACC.out
        have HITEM0 : Hid (itemAt bs p [] = headAt bs p) := Lib.hid rfl
        clear hacc HXY
        go_wp2_with fail
        refine (cgetFirst_any HRD.out HB.out hbig hp).mono ?_
        rintro e W3 ⟨⟨t, p1, ha, rfl, hr3, hp3, hta, htf⟩ | ⟨z, hz, he, rfl⟩, ho3⟩
        rotate_left
        · have HE := Lib.hid (finS_err (bs := bs) (k := n - (0 + 1)) (p := p) (acc := []) (e := z) (by rw [HITEM0.out, he]))
          have hq3 : W3.heap[Q]? = some (.cells #[.int .i64 x, .int .i64 y] 42 (0, 0)) := (ho3.block _ (lt_of_block HQB.out) (by omega)).trans HQB.out
          obtain ⟨c0, c1, f0, f1⟩ := cells2 hq3
          have HB3 : Hid (Below B w W3) := Lib.hid (HBW.out.trans (ho3.below hBw (fun j hj => by omega)))
          have t1 : (z != 0) = true := by simpa using hz
          clear he ho3 hz hq3
          go_wp2
          go_ret2
          exact ⟨.slice none 0 0, by rw [HUN.out, HE.out]; rfl, by rw [HUN.out, HE.out]; exact World.ownsRow_nil _ _ _ _, by rw [← HBE.out]; exact (HB3.out.setCell (p := ⟨Q, 0, none⟩) hBQ _).setCell (p := ⟨Q, 1, none⟩) hBQ _⟩
        have hq3 : W3.heap[Q]? = some (.cells #[.int .i64 x, .int .i64 y] 42 (0, 0)) := (ho3.block _ (lt_of_block HQB.out) (by omega)).trans HQB.out
        obtain ⟨c0, c1, f0, f1⟩ := cells2 hq3
        have hq4 := pt_set (x := .int .i64 t.a) (y := .int .i64 t.v) hq3
        obtain ⟨d0, d1, _, _⟩ := cells2 hq4
        have HQ4 := Lib.hid hq4
        have HITEM : Hid (itemAt bs p [] = .ok (t, p1)) := Lib.hid (by rw [HITEM0.out, ha])
        have HB4 : Hid (Below B w ((W3.setCell ⟨Q, 0, none⟩ (.int .i64 t.a)).setCell ⟨Q, 1, none⟩ (.int .i64 t.v))) := Lib.hid (((HBW.out.trans (ho3.below hBw (fun j hj => by omega))).setCell (p := ⟨Q, 0, none⟩) hBQ _).setCell (p := ⟨Q, 1, none⟩) hBQ _)
        have HR4 := Lib.hid (hr3.beside hq3 (only_set2 (x := .int .i64 t.a) (y := .int .i64 t.v) rfl))
        have hown3 := row_only HO.out ho3 (fun j hj hs => by have h1 := (HO.out.lt j hj).1; have h2 : j = R := hs; omega)
        have hown4 := row_only hown3 (only_set2 (S := fun j => j = Q) (x := .int .i64 t.a) (y := .int .i64 t.v) rfl) (fun j hj hs => by have h1 := (hown3.lt j hj).1; have h2 : j = Q := hs; omega)
        have HO4 := Lib.hid hown4
        have hz4 : ((W3.setCell ⟨Q, 0, none⟩ (.int .i64 t.a)).setCell ⟨Q, 1, none⟩ (.int .i64 t.v)).heap.size = W3.heap.size := by simp
        have hz3 := ho3.size
        have hn5 : (((W3.setCell ⟨Q, 0, none⟩ (.int .i64 t.a)).setCell ⟨Q, 1, none⟩ (.int .i64 t.v)).alloc (.cells #[.int .i64 t.a, .int .i64 t.v] 42)).heap[W3.heap.size]? = some (.cells #[.int .i64 t.a, .int .i64 t.v] 42 (0, 0)) := by
          have := heap_alloc_new ((W3.setCell ⟨Q, 0, none⟩ (.int .i64 t.a)).setCell ⟨Q, 1, none⟩ (.int .i64 t.v)) (.cells #[.int .i64 t.a, .int .i64 t.v] 42 (0, 0))
          rw [hz4] at this; exact this
        have HN5 := Lib.hid hn5
        have HTA := Lib.hid hta
        have HTF := Lib.hid htf
        clear ha hr3 ho3 hq3 hq4 hown3 hown4 hn5 hta htf
        go_wp2_with (at_builtin; refine wpList_append_own _ rfl (.tmp 41) (.tmp 43) 22 rfl (Q + 1) 42 i0 (.agg #[.int .i64 0, .int .i64 0]) 2 16 Tryd.underlying22 hi hz0 hz1 hz2 rfl (by decide) _ _ _ rfl (HO4.out.alloc _) ⟨W3.heap.size, 0, none⟩ 1 1 [.int .i64 t.a, .int .i64 t.v] rfl rfl (World.news_of_block HN5.out) (by simp [Value.oneCell']) (by unfold maxLen; omega) (by omega) (by simp; omega) ?_; intro v5 W5 hown5 hgrow5 _; have HO5 := Lib.hid hown5; have HG5 := Lib.hid hgrow5; clear hown5 hgrow5)
        go_roundw
        case rel => exact ⟨0 + 1, by omega, by go_num, nextrel hRQ hBQ HR4.out HO4.out HQ4.out HG5.out (by simpa [Pt.cells] using HO5.out) HITEM.out (by rw [HUN.out]) HIN.out HFIT.out HTA.out HTF.out HB4.out hp3 HACC.out⟩
        case measure => simp [intOf]; omega
      · obtain ⟨m, hm⟩ : ∃ m, m + 1 = k := ⟨k - 1, by omega⟩
        have hal := HACC.out
        obtain ⟨q, hq⟩ : ∃ q, acc[m]? = some q := ⟨acc[m]'(by omega), List.getElem?_eq_getElem (by omega)⟩
        have hlast : acc.getD (acc.length - 1) default = q := by rw [show acc.length - 1 = m by omega]; exact getD_at hq
        have hne : acc ≠ [] := fun h => by rw [h] at hal; simp at hal; omega
        have HITEM0 : Hid (itemAt bs p acc = nextAt bs p q) := Lib.hid (by rw [itemAt, if_neg hne, hlast])
        have hqin := HIN.out q (List.mem_of_getElem? hq)
        have hqf := HFIT.out q (List.mem_of_getElem? hq)
        obtain ⟨rfl, rfl⟩ := HXY.out q (by rw [show k - 1 = m by omega]; exact hq)
        have k0 : ((k : Int) == 0) = false := by simp; omega
        obtain ⟨c0, c1, f0, f1⟩ := cells2 HQB.out
        have HQF := Lib.hid hqf
        have HQI := Lib.hid hqin
        clear hal hlast hne hq hm h0 hacc HXY hqf hqin f0 f1
        go_wp2_with fail
        refine (cgetNext_any HRD.out HB.out hbig hp HLW.out hs0 HQI.out HQF.out).mono ?_
        rintro e W3 ⟨⟨t, p1, ha, rfl, hr3, hp3, hta, htf⟩ | ⟨z, hz, he, rfl⟩, ho3⟩
        all_goals clear c0 c1
        rotate_left
        · have HE := Lib.hid (finS_err (bs := bs) (k := n - (k + 1)) (p := p) (acc := acc) (e := z) (by rw [HITEM0.out, he]))
          have hq3 : W3.heap[Q]? = some (.cells #[.int .i64 q.a, .int .i64 q.v] 42 (0, 0)) := (ho3.block _ (lt_of_block HQB.out) (by omega)).trans HQB.out
          obtain ⟨c0, c1, f0, f1⟩ := cells2 hq3
          have HB3 : Hid (Below B w W3) := Lib.hid (HBW.out.trans (ho3.below hBw (fun j hj => by omega)))
          have t1 : (z != 0) = true := by simpa using hz
          clear he ho3 hz hq3
          go_wp2
          go_ret2
          exact ⟨.slice none 0 0, by rw [HUN.out, HE.out]; rfl, by rw [HUN.out, HE.out]; exact World.ownsRow_nil _ _ _ _, by rw [← HBE.out]; exact (HB3.out.setCell (p := ⟨Q, 0, none⟩) hBQ _).setCell (p := ⟨Q, 1, none⟩) hBQ _⟩
        have hq3 : W3.heap[Q]? = some (.cells #[.int .i64 q.a, .int .i64 q.v] 42 (0, 0)) := (ho3.block _ (lt_of_block HQB.out) (by omega)).trans HQB.out
        obtain ⟨c0, c1, f0, f1⟩ := cells2 hq3
        have hq4 := pt_set (x := .int .i64 t.a) (y := .int .i64 t.v) hq3
        obtain ⟨d0, d1, _, _⟩ := cells2 hq4
        have HQ4 := Lib.hid hq4
        have HITEM : Hid (itemAt bs p acc = .ok (t, p1)) := Lib.hid (by rw [HITEM0.out, ha])
        have HB4 : Hid (Below B w ((W3.setCell ⟨Q, 0, none⟩ (.int .i64 t.a)).setCell ⟨Q, 1, none⟩ (.int .i64 t.v))) := Lib.hid (((HBW.out.trans (ho3.below hBw (fun j hj => by omega))).setCell (p := ⟨Q, 0, none⟩) hBQ _).setCell (p := ⟨Q, 1, none⟩) hBQ _)
        have HR4 := Lib.hid (hr3.beside hq3 (only_set2 (x := .int .i64 t.a) (y := .int .i64 t.v) rfl))
        have hown3 := row_only HO.out ho3 (fun j hj hs => by have h1 := (HO.out.lt j hj).1; have h2 : j = R := hs; omega)
        have hown4 := row_only hown3 (only_set2 (S := fun j => j = Q) (x := .int .i64 t.a) (y := .int .i64 t.v) rfl) (fun j hj hs => by have h1 := (hown3.lt j hj).1; have h2 : j = Q := hs; omega)
        have HO4 := Lib.hid hown4
        have hz4 : ((W3.setCell ⟨Q, 0, none⟩ (.int .i64 t.a)).setCell ⟨Q, 1, none⟩ (.int .i64 t.v)).heap.size = W3.heap.size := by simp
        have hz3 := ho3.size
        have hn5 : (((W3.setCell ⟨Q, 0, none⟩ (.int .i64 t.a)).setCell ⟨Q, 1, none⟩ (.int .i64 t.v)).alloc (.cells #[.int .i64 t.a, .int .i64 t.v] 42)).heap[W3.heap.size]? = some (.cells #[.int .i64 t.a, .int .i64 t.v] 42 (0, 0)) := by
          have := heap_alloc_new ((W3.setCell ⟨Q, 0, none⟩ (.int .i64 t.a)).setCell ⟨Q, 1, none⟩ (.int .i64 t.v)) (.cells #[.int .i64 t.a, .int .i64 t.v] 42 (0, 0))
          rw [hz4] at this; exact this
        have HN5 := Lib.hid hn5
        have HTA := Lib.hid hta
        have HTF := Lib.hid htf
        clear ha hr3 ho3 hq3 hq4 hown3 hown4 hn5 hta htf
        go_wp2_with (at_builtin; refine wpList_append_own _ rfl (.tmp 41) (.tmp 43) 22 rfl (Q + 1) 42 i0 (.agg #[.int .i64 0, .int .i64 0]) 2 16 Tryd.underlying22 hi hz0 hz1 hz2 rfl (by decide) _ _ _ rfl (HO4.out.alloc _) ⟨W3.heap.size, 0, none⟩ 1 1 [.int .i64 t.a, .int .i64 t.v] rfl rfl (World.news_of_block HN5.out) (by simp [Value.oneCell']) (by unfold maxLen; omega) (by omega) (by simp; omega) ?_; intro v5 W5 hown5 hgrow5 _; have HO5 := Lib.hid hown5; have HG5 := Lib.hid hgrow5; clear hown5 hgrow5)
        go_roundw
        case rel => exact ⟨k + 1, by omega, by go_num, nextrel hRQ hBQ HR4.out HO4.out HQ4.out HG5.out (by simpa [Pt.cells] using HO5.out) HITEM.out (by rw [HUN.out]) HIN.out HFIT.out HTA.out HTF.out HB4.out hp3 HACC.out⟩
        case measure => simp [intOf]; omega
    · obtain rfl : k = n := by omega
      have hun2 := HUN.out
      rw [Nat.sub_self] at hun2
      simp only [unp, finS] at hun2
      have hle : 8 * bs.length - p ≤ 8 * bs.length := Nat.sub_le _ _
      have hQown := row_base HO.out (show B ≤ Q + 1 by omega)
      have HOB := Lib.hid hQown
      clear hQown
      by_cases hc : 8 * bs.length - p < 8 ∧ ∀ j, j < 8 * bs.length - p → bitIn bs (p + j) = 0
      · have hcl : cleanB bs p = true := by
          simp only [cleanB, Bool.and_eq_true, decide_eq_true_eq, List.all_eq_true, List.mem_range, beq_iff_eq]
          exact hc
        rw [hcl] at hun2
        have HUE := Lib.hid hun2
        have HCC := Lib.hid hc
        clear hun2 hcl hc
        go_wp2_with fail
        refine (rest_yes HRD.out HB.out (by omega) hp HCC.out.1 HCC.out.2).mono ?_
        rintro e W4 ⟨rfl, m4, rfl⟩
        go_wp2
        go_ret2
        have hbe : Below B w (wr.drewN m4) := HBW.out.trans ((only_drewN (fun _ => False) wr _).below hBw (fun _ h => h.elim))
        have hoe : (wr.drewN m4).ownsRow B 42 2 u7 acc.length (acc.flatMap Pt.cells) := by rw [HACC.out]; exact row_only HOB.out (only_drewN (fun _ => False) wr _) (fun _ _ h => h)
        exact ⟨u7, by rw [HUE.out]; rfl, by rw [HUE.out, ← HBE.out]; exact hoe, by rw [← HBE.out]; exact hbe⟩
      · have hcl : cleanB bs p = false := by
          rw [← Bool.not_eq_true]
          simp only [cleanB, Bool.and_eq_true, decide_eq_true_eq, List.all_eq_true, List.mem_range, beq_iff_eq]
          exact hc
        rw [hcl] at hun2
        have HUE := Lib.hid hun2
        have HCC : Hid (¬ clean bs p) := Lib.hid fun h => hc h
        clear hun2 hcl hc
        go_wp2_with fail
        refine (rest_no HRD.out HB.out (by omega) hp HCC.out).mono ?_
        rintro e W4 ⟨rfl, m4, rfl⟩
        go_wp2
        go_ret2
        have hbe : Below B w (wr.drewN m4) := HBW.out.trans ((only_drewN (fun _ => False) wr _).below hBw (fun _ h => h.elim))
        exact ⟨.slice none 0 0, by rw [HUE.out]; rfl, by rw [HUE.out]; exact World.ownsRow_nil _ _ _ _, by rw [← HBE.out]; exact hbe⟩
end Go.Proofs.YtdfefhoihpbldaaDoor
