/- Package series: Get and Count. -/
import Derived.Test.YtpgbeebpeldjdaaSePut
import Derived.Test.YtpgbeebpeldjdaaSeSpan
import Derived.Test.YtpgbeebpeldjdaaRgAt
namespace Go.Proofs.Ytpgbeebpeldjdaa
open Go.RowKit

/-- what held tells of a series, wherever it is asked -/
def HeldIs (w : World) (sp v : Value) : Prop := ∀ W, Below w.heap.size w W → Calls Try.prog 23 #[sp] W fun e w' => e = .returned v ∧ w' = W
theorem SerV.held {w : World} {s : Nat} {v : Value} {l : List Pt} (h : SerV w s v l) : HeldIs w (.pointer (some ⟨s, 0, none⟩)) v := fun _ hb => seheld_any (h.keep hb)
theorem held_none (w : World) : HeldIs w (.pointer none) (.slice none 0 0) := fun W _ => seheld_none W
set_option maxHeartbeats 8000000 in
set_option maxRecDepth 100000 in
theorem secount_of {w : World} {sp v : Value} {l : List Pt} (hh : HeldIs w sp v) (hr : PtRowB 0 w v l) (hg : GoodS l) (a b : Int) :
    Calls Try.prog 14 #[sp, .agg #[.int .i64 a, .int .i64 b]] w fun e w' => e = .returned (.int .i64 ((getL l a b).length : Nat)) ∧ Below w.heap.size w w' := by
  have HHE := Lib.hid hh
  have HRW := Lib.hid hr
  have HSP : Hid (∀ W, PLies W v l → Calls Try.prog 25 #[v, .agg #[.int .i64 a, .int .i64 b]] W fun e w' => e = .returned (.tuple #[.int .i64 (cntP l a : Nat), .int .i64 (endP l a b : Nat)]) ∧ Below W.heap.size W w') := Lib.hid fun W hW => sespan_any hW hg.srt (by have := hg.len; omega) a b
  have HLE := Lib.hid (span_len hg.srt a b)
  have hge := end_ge l a b
  have hle := end_le l a b
  have hl := hg.len
  obtain ⟨N, hN⟩ : ∃ N, N = (getL l a b).length := ⟨_, rfl⟩
  obtain ⟨F, hF⟩ : ∃ F, F = cntP l a := ⟨_, rfl⟩
  obtain ⟨T, hT⟩ : ∃ T, T = endP l a b := ⟨_, rfl⟩
  rw [← hN] at HLE ⊢
  rw [← hF] at HLE HSP hge
  rw [← hT] at HLE HSP hge hle
  clear hh hr hg hN hF hT
  go_enter Try.func14, Try.ntmps14
  go_upto_region 1 with fail
  refine wp_name fun W1 hW1 => ?_
  obtain ⟨P, hP⟩ : ∃ P, P = w.heap.size := ⟨_, rfl⟩
  have hb1 : Below w.heap.size w W1 := by rw [hW1.out]; exact (Below.refl _ _).alloc (Nat.le_refl _) _
  have HR1 : Hid (RgAt W1 P a b) := Lib.hid (by rw [hW1.out, hP]; exact RgAt.new w a b)
  have HB1 := Lib.hid hb1
  have HH1 := Lib.hid (HHE.out _ (below_drew hb1))
  have HP1 := Lib.hid (HSP.out _ (HRW.out.keep (below_drew hb1)).plies)
  rw [← hP]
  clear hW1 hb1 hP HHE HSP
  obtain ⟨c0, c1, -, -⟩ := HR1.out.cells
  have hc1 : W1.cell? ⟨P, 0, none⟩ = some (.int .i64 a) ∧ W1.cell? ⟨P, 1, none⟩ = some (.int .i64 b) := ⟨c0, c1⟩
  have HC := Lib.hid hc1
  clear hc1 c0 c1
  go_region_held3 (fun w' => w'.cell? ⟨P, 0, none⟩ = some (.int .i64 a) ∧ w'.cell? ⟨P, 1, none⟩ = some (.int .i64 b)) (first | exact HC.out | exact HC2.out) ((first | (go_at_call 23; refine (HH1.out).mono ?_; rintro e w' ⟨rfl, hw⟩; replace hw := hw.symm; subst hw) | (go_at_call 25; refine (HP1.out).mono ?_; rintro e W2 ⟨rfl, hb2⟩; have hc2 : W2.cell? ⟨P, 0, none⟩ = some (.int .i64 a) ∧ W2.cell? ⟨P, 1, none⟩ = some (.int .i64 b) := ⟨(hb2.cell (p := ⟨P, 0, none⟩) (cell_lt HC.out.1)).trans HC.out.1, (hb2.cell (p := ⟨P, 1, none⟩) (cell_lt HC.out.2)).trans HC.out.2⟩; have HC2 := Lib.hid hc2; have HB2 : Hid (Below w.heap.size w W2) := Lib.hid (HB1.out.trans ((below_drew (Below.refl w.heap.size W1)).trans (hb2.mono HB1.out.size))); clear hb2 hc2)))
  have hw : IntKind.i64.wrap ((T : Int) - (F : Int)) = (T : Int) - (F : Int) := by rw [IntKind.wrap_i64]; omega
  go_wp2_with fail
  go_ret
  exact ⟨by rw [HLE.out]; exact ret_i64 (by omega), HB2.out⟩
theorem secount_any {w : World} {s : Nat} {v : Value} {l : List Pt} (h : SerV w s v l) (a b : Int) :
    Calls Try.prog 14 #[.pointer (some ⟨s, 0, none⟩), .agg #[.int .i64 a, .int .i64 b]] w fun e w' => e = .returned (.int .i64 ((getL l a b).length : Nat)) ∧ Below w.heap.size w w' := secount_of h.held h.row h.good a b
theorem secount_none (w : World) (a b : Int) : Calls Try.prog 14 #[.pointer none, .agg #[.int .i64 a, .int .i64 b]] w fun e w' => e = .returned (.int .i64 0) ∧ Below w.heap.size w w' := secount_of (held_none w) (PtRowB.nil 0 w) GoodS.nil a b
/-- a part of a row of points, as a slice of it lies -/
theorem part_lies {w : World} {g : Nat} {l : List Pt} {R : List Value} (h : Arr w g 26 (l.flatMap Pt.cells ++ R)) {F T c : Nat} (hFT : F ≤ T) (hT : T ≤ l.length) : PLies w (.slice (some ⟨g, F * 2, none⟩) (T - F) c) ((l.drop F).take (T - F)) := by
  have hlen : ((l.drop F).take (T - F)).length = T - F := by rw [List.length_take, List.length_drop]; omega
  refine ⟨some ⟨g, F * 2, none⟩, g, F * 2, c, by rw [hlen], fun _ => rfl, fun i t ht => ?_⟩
  have hi := (List.getElem?_eq_some_iff.1 ht).1
  rw [hlen] at hi
  rw [List.getElem?_take, if_pos (by omega), List.getElem?_drop] at ht
  have h0 := flatP_get ht 0 (by omega)
  have h1 := flatP_get ht 1 (by omega)
  have hf := flatP_length l
  have hlt := (List.getElem?_eq_some_iff.1 ht).1
  have e : (F + i) * 2 = F * 2 + i * 2 := by omega
  rw [e] at h0 h1
  exact ⟨h.cell (by rw [List.getElem?_append_left (by omega)]; exact h0), h.cell (by rw [List.getElem?_append_left (by omega)]; exact h1)⟩
theorem part_none (w : World) (a : Option Addr) (c : Nat) : PLies w (.slice a 0 c) [] := ⟨a, 0, 0, c, rfl, fun h => absurd rfl h, fun i t h => by simp at h⟩
set_option maxHeartbeats 8000000 in
set_option maxRecDepth 100000 in
theorem seget_of {w : World} {sp v : Value} {l : List Pt} (hh : HeldIs w sp v) (hr : PtRowB 0 w v l) (hg : GoodS l) (a b : Int) :
    Calls Try.prog 15 #[sp, .agg #[.int .i64 a, .int .i64 b]] w fun e w' => ∃ v', e = .returned v' ∧ PtRowB w.heap.size w' v' (getL l a b) ∧ Below w.heap.size w w' := by
  have HHE := Lib.hid hh
  have HRW := Lib.hid hr
  have HSP : Hid (∀ W, PLies W v l → Calls Try.prog 25 #[v, .agg #[.int .i64 a, .int .i64 b]] W fun e w' => e = .returned (.tuple #[.int .i64 (cntP l a : Nat), .int .i64 (endP l a b : Nat)]) ∧ Below W.heap.size W w') := Lib.hid fun W hW => sespan_any hW hg.srt (by have := hg.len; omega) a b
  have HGE := Lib.hid (get_span hg.srt a b)
  have hge := end_ge l a b
  have hle := end_le l a b
  have hl := hg.len
  obtain ⟨L, hL⟩ : ∃ L, L = getL l a b := ⟨_, rfl⟩
  obtain ⟨F, hF⟩ : ∃ F, F = cntP l a := ⟨_, rfl⟩
  obtain ⟨T, hT⟩ : ∃ T, T = endP l a b := ⟨_, rfl⟩
  rw [← hL] at HGE ⊢
  rw [← hF] at HGE HSP hge
  rw [← hT] at HGE HSP hge hle
  clear hh hr hg hL hF hT
  go_enter Try.func15, Try.ntmps15
  go_upto_region 1 with fail
  refine wp_name fun W1 hW1 => ?_
  obtain ⟨P, hP⟩ : ∃ P, P = w.heap.size := ⟨_, rfl⟩
  have hb1 : Below w.heap.size w W1 := by rw [hW1.out]; exact (Below.refl _ _).alloc (Nat.le_refl _) _
  have HR1 : Hid (RgAt W1 P a b) := Lib.hid (by rw [hW1.out, hP]; exact RgAt.new w a b)
  have HB1 := Lib.hid hb1
  have HH1 := Lib.hid (HHE.out _ (below_drew hb1))
  have HP1 := Lib.hid (HSP.out _ (HRW.out.keep (below_drew hb1)).plies)
  rw [← hP]
  clear hW1 hb1 hP HSP
  obtain ⟨c0, c1, -, -⟩ := HR1.out.cells
  have hc1 : W1.cell? ⟨P, 0, none⟩ = some (.int .i64 a) ∧ W1.cell? ⟨P, 1, none⟩ = some (.int .i64 b) := ⟨c0, c1⟩
  have HC := Lib.hid hc1
  clear hc1 c0 c1
  go_region_held3 (fun w' => w'.cell? ⟨P, 0, none⟩ = some (.int .i64 a) ∧ w'.cell? ⟨P, 1, none⟩ = some (.int .i64 b)) (first | exact HC.out | exact HC2.out) ((first | (go_at_call 23; refine (HH1.out).mono ?_; rintro e w' ⟨rfl, hw⟩; replace hw := hw.symm; subst hw) | (go_at_call 25; refine (HP1.out).mono ?_; rintro e W2 ⟨rfl, hb2⟩; have hc2 : W2.cell? ⟨P, 0, none⟩ = some (.int .i64 a) ∧ W2.cell? ⟨P, 1, none⟩ = some (.int .i64 b) := ⟨(hb2.cell (p := ⟨P, 0, none⟩) (cell_lt HC.out.1)).trans HC.out.1, (hb2.cell (p := ⟨P, 1, none⟩) (cell_lt HC.out.2)).trans HC.out.2⟩; have HC2 := Lib.hid hc2; have HB2 : Hid (Below w.heap.size w W2) := Lib.hid (HB1.out.trans ((below_drew (Below.refl w.heap.size W1)).trans (hb2.mono HB1.out.size))); clear hb2 hc2)))
  go_wp2_with fail
  refine (HHE.out W2 HB2.out).mono ?_
  rintro e w' ⟨rfl, hw⟩
  replace hw := hw.symm
  subst hw
  have HR2 := Lib.hid (HRW.out.keep HB2.out)
  have HCL : Hid (∀ u L', PLies W2 u L' → L'.length ≤ 256 → Calls Try.prog 21 #[u] W2 fun e w' => ∃ v', e = .returned v' ∧ PtRowB W2.heap.size w' v' L' ∧ Below W2.heap.size W2 w') := Lib.hid fun u L' h1 h2 => seclo_any h1 (by omega)
  clear HRW HHE HH1 HP1 HC HR1 HC2
  rcases HR2.out.opened with ⟨rfl, rfl⟩ | ⟨g, cap, R, rfl, hbg, hgr, hR, hnc, hcm⟩
  · obtain rfl : T = 0 := by simpa using hle
    obtain rfl : F = 0 := by omega
    have HLN : Hid (L = []) := Lib.hid (by rw [HGE.out]; rfl)
    go_wp2_with fail
    refine (HCL.out _ [] (part_none _ _ _) (by simp)).mono ?_
    rintro e W3 ⟨v3, rfl, hr3, hb3⟩
    have HR3 := Lib.hid hr3
    have HB3 := Lib.hid hb3
    clear hr3 hb3
    go_wp2_with fail
    go_ret
    exact ⟨_, rfl, by rw [HLN.out]; exact HR3.out.base HB2.out.size, HB2.out.trans (HB3.out.mono HB2.out.size)⟩
  · have HG := Lib.hid hgr
    have hTc : T ≤ cap := by omega
    have hFT : (F : Int) ≤ (T : Int) := by omega
    have hTc2 : (T : Int) ≤ (cap : Int) := by omega
    clear hgr
    by_cases hcF : cap = F
    · have hTF : T - F = 0 := by omega
      have HLN : Hid (L = []) := Lib.hid (by rw [HGE.out, hTF]; rfl)
      go_wp2_with fail
      refine (HCL.out _ [] (part_none _ _ _) (by simp)).mono ?_
      rintro e W3 ⟨v3, rfl, hr3, hb3⟩
      have HR3 := Lib.hid hr3
      have HB3 := Lib.hid hb3
      clear hr3 hb3
      go_wp2_with fail
      go_ret
      exact ⟨_, rfl, by rw [HLN.out]; exact HR3.out.base HB2.out.size, HB2.out.trans (HB3.out.mono HB2.out.size)⟩
    · have HLL : Hid (((l.drop F).take (T - F)).length ≤ 256) := Lib.hid (by rw [List.length_take, List.length_drop]; omega)
      go_wp2_with fail
      refine (HCL.out _ _ (part_lies HG.out hge hle) HLL.out).mono ?_
      rintro e W3 ⟨v3, rfl, hr3, hb3⟩
      have HR3 := Lib.hid hr3
      have HB3 := Lib.hid hb3
      clear hr3 hb3
      go_wp2_with fail
      go_ret
      exact ⟨_, rfl, by rw [HGE.out]; exact HR3.out.base HB2.out.size, HB2.out.trans (HB3.out.mono HB2.out.size)⟩
theorem seget_any {w : World} {s : Nat} {v : Value} {l : List Pt} (h : SerV w s v l) (a b : Int) :
    Calls Try.prog 15 #[.pointer (some ⟨s, 0, none⟩), .agg #[.int .i64 a, .int .i64 b]] w fun e w' => ∃ v', e = .returned v' ∧ PtRowB w.heap.size w' v' (getL l a b) ∧ Below w.heap.size w w' := seget_of h.held h.row h.good a b
theorem seget_none (w : World) (a b : Int) : Calls Try.prog 15 #[.pointer none, .agg #[.int .i64 a, .int .i64 b]] w fun e w' => ∃ v', e = .returned v' ∧ PtRowB w.heap.size w' v' [] ∧ Below w.heap.size w w' := seget_of (held_none w) (PtRowB.nil 0 w) GoodS.nil a b
end Go.Proofs.Ytpgbeebpeldjdaa
