/- OctetWrites: what holds behind k rounds of writing; facts of its rounds. -/
import Derived.Test.YtcomdobmkmbmeaaDoorOctItems
namespace Go.Proofs.YtcomdobmkmbmeaaDoor
open Go.RowKit

theorem infoOt : (Tryd.prog.info? 30).map (fun i => (i.zero, i.size, i.bytes)) = some (some (.agg #[.int .u8 0, .int .u64 0, .int .i64 0, .string ⟨#[]⟩]), 4, 40) := by kernel_rfl

/-- what was kept stays while the writer is written to -/
theorem kept_owrote {B : Nat} {w w' : World} {P : Nat} {g : Option Nat} {l l' : List Nat} {v : Value} {n s : Nat} {xs : List Value} {e : TypeId} (hk : w.ownsRow B e s v n xs) (he5 : e ≠ 5) (he27 : 27 ≠ e) (hw : OWriterAt B w P g l) (h : OWrote B w P g l' w') : w'.ownsRow B e s v n xs := by
  obtain ⟨_, v', hv', hP, hown⟩ := hw
  refine row_only hk h.2.2.1 (fun k hk1 hs => ?_)
  rcases hs with rfl | hs
  · exact row_ne hP hk he27 hk1
  · exact rows_apart hk hown he5 k hk1 (hv'.trans hs)
/-- a block made behind the writer stays as it is while the writer is written to -/
theorem onew_stays {wr wa w2 : World} {P : Nat} {g : Option Nat} {bs bs' : List Nat} {cs : Array Value} {t : TypeId} {fr : Nat × Nat} (hw : OWriterAt P wr P g bs) (h2 : OWrote P wa P g bs' w2) (h : wa.heap[wr.heap.size]? = some (.cells cs t fr)) : w2.heap[wr.heap.size]? = some (.cells cs t fr) := by
  obtain ⟨_, v, hv, hh, hown⟩ := hw
  refine (h2.2.2.1.block _ (lt_of_block h) (fun hs => ?_)).trans h
  rcases hs with hs | hs
  · have := lt_of_block hh; omega
  · have := (hown.lt _ (hv.trans hs)).2; omega

/-- what holds behind k rounds -/
def ORel (W1 : World) (P b off : Nat) (l : List Ot) (k : Nat) (v : Value) (wr : World) : Prop :=
  (∃ g, OWriterAt P wr P g (allB (l.take k))) ∧ wr.ownsRow P 30 4 v (keptO (l.take k)).length (allC (l.take k)) ∧ Below P W1 wr ∧ StepsLaid wr ∧ OtsAt wr b off l ∧ P ≤ wr.heap.size ∧ ∀ t ∈ l.take k, t.s.size ≤ 200

theorem ORel.of_below {W1 w w' : World} {P b off : Nat} {l : List Ot} {k k' : Nat} {v v' : Value} (h : ORel W1 P b off l k v w) (hb : Below P w w') (hs : 0 < P) (hbP : b < P)
    (h1 : ∃ g, OWriterAt P w' P g (allB (l.take k'))) (h2 : w'.ownsRow P 30 4 v' (keptO (l.take k')).length (allC (l.take k'))) (h7 : ∀ t ∈ l.take k', t.s.size ≤ 200) : ORel W1 P b off l k' v' w' := by
  obtain ⟨_, _, h3, h4, h5, h6, _⟩ := h
  exact ⟨h1, h2, h3.trans hb, h4.keep hb hs, h5.below hb hbP, Nat.le_trans h6 hb.size, h7⟩
theorem ORel.beyond {W1 w w' : World} {P b off : Nat} {l : List Ot} {k : Nat} {v : Value} (h : ORel W1 P b off l k v w) (hb : Below w.heap.size w w') (hs : 0 < P) (hbP : b < P) : ORel W1 P b off l k v w' := by
  obtain ⟨⟨g, hw⟩, hown, _, _, _, h6, h7⟩ := id h
  exact h.of_below (hb.mono h6) hs hbP ⟨g, hw.only (only_beyond (S := fun _ => False) hb) (fun h => h) (fun _ _ h => h)⟩ (ownsRow_beyond hown hb) h7
theorem sizes_next {l : List Ot} {k : Nat} {t : Ot} (h : ∀ t ∈ l.take k, t.s.size ≤ 200) (ht : l[k]? = some t) (hs : t.s.size ≤ 200) : ∀ t ∈ l.take (k + 1), t.s.size ≤ 200 := by
  rw [takeO ht]
  intro u hu
  rcases List.mem_append.1 hu with hu | hu
  · exact h u hu
  · obtain rfl : u = t := by simpa using hu
    exact hs
theorem ORel.bad {W1 w : World} {P b off : Nat} {l : List Ot} {k : Nat} {v : Value} {t : Ot} (h : ORel W1 P b off l k v w) (ht : l[k]? = some t) (hg : t.good = false) (hs : t.s.size ≤ 200) :
    allB (l.take k) = allB (l.take (k + 1)) ∧ ORel W1 P b off l (k + 1) v w := by
  have e := keptO_bad ht hg
  obtain ⟨h1, h2, h3, h4, h5, h6, h7⟩ := h
  unfold ORel allB allC at *
  rw [e]
  exact ⟨rfl, h1, h2, h3, h4, h5, h6, sizes_next h7 ht hs⟩

/-- a good item is written: the writer has its bytes, it is kept -/
theorem ORel.good {W1 wr wa w2 w3 w4 : World} {P b off : Nat} {l : List Ot} {k : Nat} {v v' : Value} {t : Ot} {g : Option Nat} (h : ORel W1 P b off l k v wr) (ht : l[k]? = some t) (hg : t.good = true) (hsz : t.s.size ≤ 200)
    (hs : 0 < P) (hbP : b < P) (ha : Below wr.heap.size wr wa) (hwa : OWriterAt P wa P g (allB (l.take k))) (h2 : OWrote P wa P g (allB (l.take k) ++ t.bytes) w2) (h3 : Below w2.heap.size w2 w3) {o : Obj} (hgrow : (w3.alloc o).grownBy w4 v.ownBlock)
    (hown' : w4.ownsRow P 30 4 v' ((keptO (l.take k)).length + 1) (allC (l.take k) ++ t.cells)) : ORel W1 P b off l (k + 1) v' w4 := by
  obtain ⟨_, hown, _, _, _, h6, h7⟩ := id h
  have hPa : P ≤ wa.heap.size := Nat.le_trans h6 ha.size
  have hb2 := h2.below hPa
  have hk2 := kept_owrote (ownsRow_beyond hown ha) (by decide) (by decide) hwa h2
  have hk3 := ownsRow_beyond (ownsRow_beyond hk2 h3) ((Below.refl w3.heap.size w3).alloc (Nat.le_refl _) o)
  obtain ⟨g2, hw2⟩ := OWriterAt.of h2
  have hw3 := (hw2.only (only_beyond (S := fun _ => False) h3) (fun h => h) (fun _ _ h => h)).only (Only.alloc (fun _ => False) w3 o) (fun h => h) (fun _ _ h => h)
  have hP3' : P ≤ w3.heap.size := by have := hb2.size; have := h3.size; omega
  have hP3 : P ≤ (w3.alloc o).heap.size := by simp; omega
  have hb4 : Below P w3 w4 := ((Below.refl P w3).alloc hP3' o).grown hgrow hP3 (fun k hk => (hk3.lt k hk).1)
  have e := keptO_good ht hg
  refine h.of_below (((ha.mono h6).trans hb2).trans ((h3.mono (by have := hb2.size; omega)).trans hb4)) hs hbP ⟨g2, ?_⟩ ?_ (sizes_next h7 ht hsz)
  · obtain ⟨_, vb, hvb, hh, howb⟩ := id hw3
    rw [bytes_good ht hg]
    refine hw3.only (Only.grown hgrow) ?_ (fun j hj => ?_)
    · exact row_ne hh hk3 (by decide)
    · intro hv
      exact rows_apart hk3 howb (by decide) j hv (hvb.trans hj)
  · rw [cells_good ht hg, e, List.length_append]
    exact hown'

/-- []byte of a text, walked -/
theorem bytes_of_text (w : World) (s : ByteArray) : ∃ W v, (convert 9 25 (.string s)).run Tryd.prog w = .ok v W ∧ Below w.heap.size w W ∧ Lies W v (ordsOf s) := by
  refine ⟨Lib.bytesWorld w 5 s, _, Lib.run_convert_string_bytes w 9 25 5 s Tryd.underlying9 Tryd.underlying25 Tryd.underlying5, ⟨rfl, rfl, rfl, by rw [Lib.bytesWorld_size]; omega, fun k hk => Lib.bytesWorld_at_old w _ s k hk⟩, ?_⟩
  refine .inr (.inr ⟨w.heap.size, 0, _, by rw [ordsOf_length], fun j hj => ?_⟩)
  rw [ordsOf_length] at hj
  rw [Nat.zero_add, Lib.bytesWorld_cell w _ s j hj]
  congr 3
  have h2 : j < s.data.toList.length := by rw [Array.length_toList]; exact hj
  unfold ordsOf
  simp [List.getD, List.getElem?_map, List.getElem?_eq_getElem h2]
theorem wpList_bytes {ops : Array Oper} {rest : List Oper} {o : Oper} {a : Act} {w V : World} {Q : Exit → Act → World → Prop} {s : ByteArray} {v : Value} (hgd : o.guard = none) (x : Operand) (ho : o.op = .convert 9 25 x)
    (hx : a.eval x = .string s) (hrun : (convert 9 25 (.string s)).run Tryd.prog w = .ok v V) (hk : wpList Tryd.prog ops Q rest (a.put o.dst v) V) : wpList Tryd.prog ops Q (o :: rest) a w :=
  wpList_plain hgd fun K hK => by
    unfold Oper.wp execOp
    simp only [ho, hx, Sem.run_bind, Sem.run_pure, Result.andThen_ok, hrun]
    exact hK _ _ hk
/-- a number told as a signed one, and back -/
theorem wrap_back {x : Nat} (hx : x < 18446744073709551616) : IntKind.i64.wrap (x : Int) % 18446744073709551616 = x := by
  rw [IntKind.wrap_i64]
  omega

theorem small_pow {x n : Nat} (h : wid x ≤ 8 * n) : x < 256 ^ n := by
  rw [show 256 ^ n = 2 ^ (8 * n) by rw [Nat.pow_mul]]
  rcases Nat.lt_or_ge x (2 ^ (8 * n)) with h1 | h1
  · exact h1
  · have h2 := wid_shift (8 * n) (x := x) (Nat.div_pos h1 (Nat.two_pow_pos _))
    have h3 : 0 < wid (x / 2 ^ (8 * n)) := by
      have h4 : x / 2 ^ (8 * n) ≠ 0 := by have := Nat.div_pos h1 (Nat.two_pow_pos (8 * n)); omega
      unfold wid; rw [if_neg h4]; omega
    omega
theorem shift_pos {x m : Nat} (h : m < wid x) : 0 < x / 2 ^ m := by
  rcases Nat.eq_zero_or_pos (x / 2 ^ m) with h1 | h1
  · have := wid_le m ((Nat.div_eq_zero_iff_lt (Nat.two_pow_pos _)).1 h1); omega
  · exact h1
theorem shift_zero {x m : Nat} (h : wid x ≤ m) : x / 2 ^ m = 0 := by
  rcases Nat.eq_zero_or_pos (x / 2 ^ m) with h1 | h1
  · exact h1
  · have h2 := wid_shift m h1
    have h3 : 0 < wid (x / 2 ^ m) := by unfold wid; rw [if_neg (by omega)]; omega
    omega
theorem drop_cons {K : List Ot} {j : Nat} {t : Ot} (h : K[j]? = some t) : (K.drop j).flatMap Ot.bytes = t.bytes ++ (K.drop (j + 1)).flatMap Ot.bytes := by
  obtain ⟨hj, e⟩ := List.getElem?_eq_some_iff.1 h
  rw [List.drop_eq_getElem_cons hj, e, List.flatMap_cons]
theorem take_of {a r : List Nat} {n : Nat} (h : a.length = n) : (a ++ r).take n = a ∧ (a ++ r).drop n = r := by
  subst h; exact ⟨by simp, by simp⟩

/-! ### What was put is got -/
theorem small_app {a r : List Nat} (ha : ∀ b ∈ a, b < 256) (hr : ∀ b ∈ r, b < 256) : ∀ b ∈ a ++ r, b < 256 := fun b hb => by
  rcases List.mem_append.1 hb with h | h
  · exact ha b h
  · exact hr b h
theorem get_num {B : Nat} {w : World} {R x n : Nat} {r : List Nat} (h : OReaderAt B w R (numB x n ++ r)) (hw : Wide n) (hx : wid x ≤ 8 * n) (hb : ∀ b ∈ r, b < 256) (hbig : r.length ≤ 1000000) :
    Calls Tryd.prog 14 #[.pointer (some ⟨R, 0, none⟩), .int .i64 (n : Int)] w fun e w' => e = .returned (.int .u64 (x : Int)) ∧ OReaderAt B w' R r ∧ Only (fun k => k = R) w w' := by
  have hn8 : n ≤ 8 := by unfold Wide at hw; omega
  obtain ⟨e1, e2⟩ := take_of (a := numB x n) (r := r) (numB_length x n)
  have h1 := onum_ok h hw (by rw [List.length_append, numB_length]; omega) (small_app (numB_small x n) hb) (by rw [List.length_append, numB_length]; omega)
  rw [e1, e2, valB_numB (small_pow hx)] at h1
  exact h1
theorem get_int {B : Nat} {w : World} {R x : Nat} {z : Int} {r : List Nat} (h : OReaderAt B w R (numB x 8 ++ r)) (hx : x < 18446744073709551616) (hz : IntKind.i64.wrap (x : Int) = z) (hb : ∀ b ∈ r, b < 256) (hbig : r.length ≤ 1000000) :
    Calls Tryd.prog 15 #[.pointer (some ⟨R, 0, none⟩)] w fun e w' => e = .returned (.int .i64 z) ∧ OReaderAt B w' R r ∧ Only (fun k => k = R) w w' := by
  obtain ⟨e1, e2⟩ := take_of (a := numB x 8) (r := r) (numB_length x 8)
  have h1 := oint_ok (z := z) h (by rw [List.length_append, numB_length]; omega) (small_app (numB_small x 8) hb) (by rw [List.length_append, numB_length]; omega) (by rw [e1, valB_numB (small_pow (n := 8) (wid_le 64 hx))]; exact hz)
  rw [e2] at h1
  exact h1
theorem get_text {B : Nat} {w : World} {R : Nat} {s : ByteArray} {r : List Nat} (h : OReaderAt B w R (numB s.size 2 ++ ordsOf s ++ r)) (hs : s.size ≤ 200) (hb : ∀ b ∈ r, b < 256) (hbig : r.length ≤ 1000000) :
    Calls Tryd.prog 16 #[.pointer (some ⟨R, 0, none⟩), .int .i64 200] w fun e w' => e = .returned (.string s) ∧ OReaderAt B w' R r ∧ Only (fun k => k = R) w w' := by
  rw [List.append_assoc] at h
  obtain ⟨e1, e2⟩ := take_of (a := numB s.size 2) (r := ordsOf s ++ r) (numB_length s.size 2)
  obtain ⟨e3, e4⟩ := take_of (a := ordsOf s) (r := r) (ordsOf_length s)
  have h1 := otext_ok (most := 200) (n := s.size) h (by rw [List.length_append, List.length_append, numB_length, ordsOf_length]; omega) (small_app (numB_small s.size 2) (small_app (ordsOf_lt s) hb)) (by rw [List.length_append, List.length_append, numB_length, ordsOf_length]; omega)
    (by rw [e1, valB_numB (by omega)]) hs (by omega)
  rw [e2, e3, e4, strOf_ords] at h1
  exact h1
theorem get_raw {B : Nat} {w : World} {R : Nat} {s : ByteArray} {r : List Nat} (h : OReaderAt B w R (ordsOf s ++ r)) (hs : s.size ≤ 200) (hbig : r.length ≤ 1000000) :
    Calls Tryd.prog 17 #[.pointer (some ⟨R, 0, none⟩), .int .i64 (s.size : Int)] w fun e w' => ∃ v', e = .returned v' ∧ (∀ W', Below w'.heap.size w' W' → ∀ dst, Tryd.prog.underlying dst = some .string → (convert 25 dst v').run Tryd.prog W' = .ok (.string s) W') ∧ OReaderAt B w' R r ∧ Only (fun k => k = R) w w' := by
  obtain ⟨e3, e4⟩ := take_of (a := ordsOf s) (r := r) (ordsOf_length s)
  have h1 := oraw_ok (n := s.size) h (by rw [List.length_append, ordsOf_length]; omega) (by rw [List.length_append, ordsOf_length]; omega)
  rw [e3, e4] at h1
  refine h1.mono fun e w' ⟨v', he, hown, hr, ho⟩ => ⟨v', he, fun W' hW dst hd => ?_, hr, ho⟩
  have h2 := text_of (ownsRow_lies (ownsRow_beyond hown hW)) dst hd
  rw [strOf_ords] at h2
  exact h2
theorem drop_le (l : List Ot) (j : Nat) : (((keptO l).drop j).flatMap Ot.bytes).length ≤ (allB l).length := by
  have h : allB l = ((keptO l).take j).flatMap Ot.bytes ++ ((keptO l).drop j).flatMap Ot.bytes := by rw [← List.flatMap_append, List.take_append_drop]; rfl
  rw [h, List.length_append]; omega
theorem drop_small2 (l : List Ot) (j : Nat) : ∀ b ∈ ((keptO l).drop j).flatMap Ot.bytes, b < 256 := fun b hb => by
  refine allB_small l b ?_
  obtain ⟨t, ht, hb⟩ := List.mem_flatMap.1 hb
  exact List.mem_flatMap.2 ⟨t, List.mem_of_mem_drop ht, hb⟩
end Go.Proofs.YtcomdobmkmbmeaaDoor
