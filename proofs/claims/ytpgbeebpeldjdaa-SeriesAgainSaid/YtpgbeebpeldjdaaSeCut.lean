/- Package series: Cut. -/
import Derived.Test.YtpgbeebpeldjdaaSeGet
import Derived.Test.YtpgbeebpeldjdaaSeDel
namespace Go.Proofs.Ytpgbeebpeldjdaa
open Go.RowKit

theorem GoodS.cut {l : List Pt} (h : GoodS l) (a b : Int) : GoodS (cutL l a b) :=
  ⟨cutL_srt h.srt a b, fun p hp => h.tick p (List.mem_filter.1 hp).1, fun p hp => h.fits p (List.mem_filter.1 hp).1, Nat.le_trans (List.length_filter_le _ _) h.len⟩
theorem GoodS.get {l : List Pt} (h : GoodS l) (a b : Int) : GoodS (getL l a b) :=
  ⟨getL_srt h.srt a b, fun p hp => h.tick p (List.mem_filter.1 hp).1, fun p hp => h.fits p (List.mem_filter.1 hp).1, Nat.le_trans (List.length_filter_le _ _) h.len⟩
theorem secut_none (w : World) (x : Value) {cs : Array Value} (hx : x = .agg cs) : Calls Try.prog 13 #[.pointer none, x] w fun e w' => e = .returned (.int .i64 0) ∧ Below w.heap.size w w' := by
  subst hx
  go_enter Try.func13, Try.ntmps13
  go_wp2
  go_ret
  exact ⟨rfl, (Below.refl _ _).alloc (Nat.le_refl _) _⟩
set_option maxHeartbeats 8000000 in
set_option maxRecDepth 100000 in
theorem secut_any {w : World} {s : Nat} {v : Value} {l : List Pt} (h : SerV w s v l) (a b : Int) :
    Calls Try.prog 13 #[.pointer (some ⟨s, 0, none⟩), .agg #[.int .i64 a, .int .i64 b]] w fun e w' => e = .returned (.int .i64 ((getL l a b).length : Nat)) ∧ (∃ v', SerV w' s v' (cutL l a b) ∧ v'.ownBlock = v.ownBlock) ∧ Only (SBlk s v) w w' := by
  have HS := Lib.hid h
  have HSP : Hid (∀ W, PLies W v l → Calls Try.prog 25 #[v, .agg #[.int .i64 a, .int .i64 b]] W fun e w' => e = .returned (.tuple #[.int .i64 (cntP l a : Nat), .int .i64 (endP l a b : Nat)]) ∧ Below W.heap.size W w') := Lib.hid fun W hW => sespan_any hW h.good.srt (by have := h.good.len; omega) a b
  have HLE := Lib.hid (span_len h.good.srt a b)
  have HCE := Lib.hid (cut_span h.good.srt a b)
  have HGC := Lib.hid (h.good.cut a b)
  have hge := end_ge l a b
  have hle := end_le l a b
  have hl := h.good.len
  obtain ⟨N, hN⟩ : ∃ N, N = (getL l a b).length := ⟨_, rfl⟩
  obtain ⟨C, hC⟩ : ∃ C, C = cutL l a b := ⟨_, rfl⟩
  obtain ⟨F, hF⟩ : ∃ F, F = cntP l a := ⟨_, rfl⟩
  obtain ⟨T, hT⟩ : ∃ T, T = endP l a b := ⟨_, rfl⟩
  rw [← hN] at HLE ⊢
  rw [← hC] at HCE HGC ⊢
  rw [← hF] at HLE HCE HSP hge
  rw [← hT] at HLE HCE HSP hge hle
  clear h hN hF hT hC
  go_enter Try.func13, Try.ntmps13
  go_upto_region 3 with fail
  refine wp_name fun W1 hW1 => ?_
  obtain ⟨P, hP⟩ : ∃ P, P = w.heap.size := ⟨_, rfl⟩
  have hb1 : Below w.heap.size w W1 := by rw [hW1.out]; exact (Below.refl _ _).alloc (Nat.le_refl _) _
  have HR1 : Hid (RgAt W1 P a b) := Lib.hid (by rw [hW1.out, hP]; exact RgAt.new w a b)
  have HS1 := Lib.hid (HS.out.keep hb1)
  have HB1 := Lib.hid hb1
  have HP1 := Lib.hid (HSP.out _ HS1.out.drew.plies)
  rw [← hP]
  clear hW1 hb1 hP HSP
  obtain ⟨c0, c1, -, -⟩ := HR1.out.cells
  have hc1 : W1.cell? ⟨P, 0, none⟩ = some (.int .i64 a) ∧ W1.cell? ⟨P, 1, none⟩ = some (.int .i64 b) ∧ W1.cell? ⟨s, 0, none⟩ = some v := ⟨c0, c1, HS1.out.cell.1⟩
  have HC := Lib.hid hc1
  clear hc1 c0 c1
  go_region_held3 (fun w' => w'.cell? ⟨P, 0, none⟩ = some (.int .i64 a) ∧ w'.cell? ⟨P, 1, none⟩ = some (.int .i64 b) ∧ w'.cell? ⟨s, 0, none⟩ = some v) (first | exact HC.out | exact HC2.out) ((go_at_call 25; refine (HP1.out).mono ?_; rintro e W2 ⟨rfl, hb2⟩; have hc2 : W2.cell? ⟨P, 0, none⟩ = some (.int .i64 a) ∧ W2.cell? ⟨P, 1, none⟩ = some (.int .i64 b) ∧ W2.cell? ⟨s, 0, none⟩ = some v := ⟨(hb2.cell (p := ⟨P, 0, none⟩) (cell_lt HC.out.1)).trans HC.out.1, (hb2.cell (p := ⟨P, 1, none⟩) (cell_lt HC.out.2.1)).trans HC.out.2.1, (hb2.cell (p := ⟨s, 0, none⟩) (cell_lt HC.out.2.2)).trans HC.out.2.2⟩; have HC2 := Lib.hid hc2; have HB2 : Hid (Below w.heap.size w W2) := Lib.hid (HB1.out.trans ((below_drew (Below.refl w.heap.size W1)).trans (hb2.mono HB1.out.size))); clear hb2 hc2))
  have HS2 := Lib.hid (HS.out.keep HB2.out)
  clear HS1 HB1 HR1 HP1 HC HC2
  obtain ⟨c0, f0⟩ := HS2.out.cell
  have hw : IntKind.i64.wrap ((T : Int) - (F : Int)) = (T : Int) - (F : Int) := by rw [IntKind.wrap_i64]; omega
  go_wp2_with fail
  refine (sedel_any HS2.out.row hge hle (by omega)).mono ?_
  rintro e W3 ⟨v3, rfl, hr3, hv3, ho3⟩
  obtain ⟨a3, c3, e3⟩ := own_slice hr3
  obtain ⟨n3, hn3⟩ : ∃ n3, n3 = (l.take F ++ l.drop T).length := ⟨_, rfl⟩
  rw [← hn3] at e3
  subst e3
  clear hn3
  have HR3 := Lib.hid hr3
  have HV3 := Lib.hid hv3
  have HO3 := Lib.hid ho3
  have HNE := Lib.hid HS2.out.ne
  have hh3 : W3.heap[s]? = some (.cells #[v] 48 (0, 0)) := (ho3.block s HS2.out.lt (fun e => HS2.out.ne e)).trans HS2.out.at_
  have HH3 := Lib.hid hh3
  clear hr3 hv3 ho3 c0 f0
  obtain ⟨c0, f0⟩ := cells1 HH3.out
  clear hh3
  dsimp only
  go_wp2_with fail
  go_ret
  refine ⟨by rw [HLE.out]; exact ret_i64 (by omega), ⟨_, ⟨?_, ?_, HGC.out⟩, HV3.out⟩, ?_⟩
  · have h1 := heap_setCell_same W3 s 0 _ _ (.slice a3 n3 c3) HH3.out
    rw [h1]; simp
  · have h2 : PtRowB 0 W3 (.slice a3 n3 c3) C := by rw [HCE.out]; exact HR3.out
    exact row_only h2 (Only.setCell (S := fun b => b = s) W3 rfl _) (fun k hk e => HNE.out (by rw [← HV3.out, hk, e]))
  · exact ((only_beyond HB2.out).trans HO3.out (fun k _ hk => .inr hk)).trans (Only.setCell (S := SBlk s v) W3 (.inl rfl) _) (fun _ _ h => h)
end Go.Proofs.Ytpgbeebpeldjdaa
