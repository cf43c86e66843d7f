/- Package series: First, Last, Copy. -/
import Derived.Test.YtpgbeebpeldjdaaSePut
import Derived.Laws.ResultCell
namespace Go.Proofs.Ytpgbeebpeldjdaa
open Go.RowKit

theorem ret_ptv {fn : Func} {p u : Tmp} (h : fn.results = #[.cell p 26, .tmp u]) {tmps : Array Value} {w : World} {Q : Nat} {x : Pt} (hp : tmps.getD p undef = .pointer (some ⟨Q, 0, none⟩)) (hq : PtAt w Q x) :
    (results fn tmps).run Try.prog w = .ok (.tuple #[.agg #[.int .i64 x.a, .int .i64 x.v], tmps.getD u undef]) w := by
  obtain ⟨c0, c1, _, _⟩ := hq.cells
  rw [results_cell_tmp h, hp]
  go_simp
theorem setPt_at {w : World} {Q : Nat} {x : Pt} (h : PtAt w Q x) (y : Pt) : PtAt (setPt w Q 0 y) Q y := by
  unfold PtAt at h ⊢
  have h1 := heap_setCell_same w Q 0 _ _ (.int .i64 y.a) h
  have h2 := heap_setCell_same _ Q 1 _ _ (.int .i64 y.v) h1
  show ((w.setCell ⟨Q, 0, none⟩ (.int .i64 y.a)).setCell ⟨Q, 0 + 1, none⟩ (.int .i64 y.v)).heap[Q]? = _
  rw [Nat.zero_add, h2]; simp
/-- what Len tells of a series, wherever it is asked -/
def LenIs (w : World) (sp : Value) (n : Nat) : Prop := ∀ W, Below w.heap.size w W → Calls Try.prog 12 #[sp] W fun e w' => e = .returned (.int .i64 (n : Nat)) ∧ w' = W
theorem SerV.lenIs {w : World} {s : Nat} {v : Value} {l : List Pt} (h : SerV w s v l) : LenIs w (.pointer (some ⟨s, 0, none⟩)) l.length := fun _ hb => selen_any (h.keep hb)
theorem len_none (w : World) : LenIs w (.pointer none) 0 := fun W _ => selen_none W
def noPt : Pt := ⟨0, 0⟩
set_option maxHeartbeats 4000000 in
set_option maxRecDepth 100000 in
theorem sefirst_no {w : World} {sp : Value} (h : LenIs w sp 0) : Calls Try.prog 9 #[sp] w fun e w' => e = .returned (.tuple #[.agg #[.int .i64 0, .int .i64 0], .bool false]) ∧ Below w.heap.size w w' := by
  have H := Lib.hid h
  clear h
  go_enter Try.func9, Try.ntmps9
  repeat (first | go_values | go_skip | go_guarded | go_step)
  refine calls_name ?_
  intro W1 hW1
  obtain ⟨Q, hQ⟩ : ∃ Q, Q = w.heap.size := ⟨_, rfl⟩
  have hb1 : Below w.heap.size w W1 := by rw [hW1.out]; exact (Below.refl _ _).alloc (Nat.le_refl _) _
  have HP1 : Hid (PtAt W1 Q noPt) := Lib.hid (by rw [hW1.out, hQ]; exact PtAt.new w noPt)
  have HB1 := Lib.hid hb1
  have HQ := Lib.hid hQ
  have H1 := Lib.hid (H.out W1 hb1)
  rw [← hQ]
  clear hW1 hb1 hQ
  refine H1.out.mono ?_
  rintro e w' ⟨rfl, hw⟩
  replace hw := hw.symm
  subst hw
  obtain ⟨c0, c1, f0, f1⟩ := HP1.out.cells
  dsimp only [noPt] at c0 c1
  dsimp only
  repeat (first | go_values | go_skip | go_guarded | go_step | go_upon)
  refine bodyPost_ret (ret_ptv (Q := Q) (x := noPt) rfl rfl (setPt_at HP1.out noPt)) rfl ?_
  exact ⟨rfl, HB1.out.trans ((setPt_only W1 Q 0 noPt).below HB1.out.size (fun k hk => by rw [hk, HQ.out]; exact Nat.le_refl _))⟩
set_option maxHeartbeats 4000000 in
set_option maxRecDepth 100000 in
theorem selast_no {w : World} {sp : Value} (h : LenIs w sp 0) : Calls Try.prog 10 #[sp] w fun e w' => e = .returned (.tuple #[.agg #[.int .i64 0, .int .i64 0], .bool false]) ∧ Below w.heap.size w w' := by
  have H := Lib.hid h
  clear h
  go_enter Try.func10, Try.ntmps10
  repeat (first | go_values | go_skip | go_guarded | go_step)
  refine calls_name ?_
  intro W1 hW1
  obtain ⟨Q, hQ⟩ : ∃ Q, Q = w.heap.size := ⟨_, rfl⟩
  have hb1 : Below w.heap.size w W1 := by rw [hW1.out]; exact (Below.refl _ _).alloc (Nat.le_refl _) _
  have HP1 : Hid (PtAt W1 Q noPt) := Lib.hid (by rw [hW1.out, hQ]; exact PtAt.new w noPt)
  have HB1 := Lib.hid hb1
  have HQ := Lib.hid hQ
  have H1 := Lib.hid (H.out W1 hb1)
  rw [← hQ]
  clear hW1 hb1 hQ
  refine H1.out.mono ?_
  rintro e w' ⟨rfl, hw⟩
  replace hw := hw.symm
  subst hw
  obtain ⟨c0, c1, f0, f1⟩ := HP1.out.cells
  dsimp only [noPt] at c0 c1
  dsimp only
  repeat (first | go_values | go_skip | go_guarded | go_step | go_upon)
  refine bodyPost_ret (ret_ptv (Q := Q) (x := noPt) rfl rfl (setPt_at HP1.out noPt)) rfl ?_
  exact ⟨rfl, HB1.out.trans ((setPt_only W1 Q 0 noPt).below HB1.out.size (fun k hk => by rw [hk, HQ.out]; exact Nat.le_refl _))⟩
set_option maxHeartbeats 4000000 in
set_option maxRecDepth 100000 in
theorem sefirst_yes {w : World} {s : Nat} {v : Value} {p : Pt} {l : List Pt} (h : SerV w s v (p :: l)) : Calls Try.prog 9 #[.pointer (some ⟨s, 0, none⟩)] w fun e w' => e = .returned (.tuple #[.agg #[.int .i64 p.a, .int .i64 p.v], .bool true]) ∧ Below w.heap.size w w' := by
  have H := Lib.hid h.lenIs
  have HS := Lib.hid h
  have hlen : (p :: l).length ≤ 256 := h.good.len
  obtain ⟨n, hn⟩ : ∃ n, n = (p :: l).length := ⟨_, rfl⟩
  have hn0 : 0 < n := by rw [hn]; simp
  rw [← hn] at H hlen
  have HN := Lib.hid hn
  clear h hn
  go_enter Try.func9, Try.ntmps9
  repeat (first | go_values | go_skip | go_guarded | go_step)
  refine calls_name ?_
  intro W1 hW1
  obtain ⟨Q, hQ⟩ : ∃ Q, Q = w.heap.size := ⟨_, rfl⟩
  have hb1 : Below w.heap.size w W1 := by rw [hW1.out]; exact (Below.refl _ _).alloc (Nat.le_refl _) _
  have HP1 : Hid (PtAt W1 Q noPt) := Lib.hid (by rw [hW1.out, hQ]; exact PtAt.new w noPt)
  have HB1 := Lib.hid hb1
  have HQ := Lib.hid hQ
  have H1 := Lib.hid (H.out W1 hb1)
  have HS1 := Lib.hid (HS.out.keep hb1)
  rw [← hQ]
  clear hW1 hb1 hQ
  refine H1.out.mono ?_
  rintro e w' ⟨rfl, hw⟩
  replace hw := hw.symm
  subst hw
  obtain ⟨c0, c1, f0, f1⟩ := HP1.out.cells
  dsimp only [noPt] at c0 c1
  obtain ⟨d0, -⟩ := HS1.out.cell
  have hpl := HS1.out.plies
  obtain ⟨a3, c3, e3⟩ := hpl.len
  rw [← HN.out] at e3
  rw [e3] at d0 hpl
  obtain ⟨b, off, ea, g0, g1⟩ := hpl.get (i := 0) (p := p) rfl
  subst ea
  simp only [Nat.zero_mul, Nat.add_zero] at g0 g1
  have tn : ((n : Int) == 0) = false := by simp; omega
  clear hpl e3
  dsimp only
  repeat (first | go_values | go_skip | go_guarded | go_step | go_upon)
  refine bodyPost_ret (ret_ptv (Q := Q) (x := p) rfl rfl (setPt_at HP1.out p)) rfl ?_
  exact ⟨rfl, HB1.out.trans ((setPt_only W1 Q 0 p).below HB1.out.size (fun k hk => by rw [hk, HQ.out]; exact Nat.le_refl _))⟩
theorem secopy_none (w : World) : Calls Try.prog 17 #[.pointer none] w fun e w' => e = .returned (.pointer none) ∧ w' = w := by
  go_enter Try.func17, Try.ntmps17
  go_wp2
  go_ret
  exact ⟨rfl, rfl⟩
set_option maxHeartbeats 4000000 in
set_option maxRecDepth 100000 in
theorem secopy_any {w : World} {s : Nat} {v : Value} {l : List Pt} (h : SerV w s v l) : Calls Try.prog 17 #[.pointer (some ⟨s, 0, none⟩)] w fun e w' => ∃ s' v', e = .returned (.pointer (some ⟨s', 0, none⟩)) ∧ SerV w' s' v' l ∧ (∀ k, SBlk s' v' k → w.heap.size ≤ k) ∧ Below w.heap.size w w' := by
  have HS := Lib.hid h
  obtain ⟨c0, -⟩ := h.cell
  clear h
  go_enter Try.func17, Try.ntmps17
  go_wp2_with fail
  refine (seclo_any HS.out.plies (by have := HS.out.good.len; omega)).mono ?_
  rintro e W2 ⟨v2, rfl, hr, hb⟩
  have HR := Lib.hid hr
  have HB := Lib.hid hb
  obtain ⟨a2, c2, e2⟩ := own_slice hr
  obtain ⟨n, hn⟩ : ∃ n, n = l.length := ⟨_, rfl⟩
  rw [← hn] at e2
  subst e2
  clear hr hb c0 hn
  go_wp2_with fail
  go_ret
  refine ⟨W2.heap.size, .slice a2 n c2, rfl, ⟨heap_alloc_new W2 _, (HR.out.base (Nat.zero_le _)).keep ((Below.refl _ W2).alloc (Nat.le_refl _) _), HS.out.good⟩, ?_, HB.out.trans (((Below.refl _ W2).alloc (Nat.le_refl _) _).mono HB.out.size)⟩
  rintro k (rfl | hk)
  · exact HB.out.size
  · exact (HR.out.lt _ hk).1
end Go.Proofs.Ytpgbeebpeldjdaa
