/- Package series: a point inserted. -/
import Derived.Test.YtpgbeebpeldjdaaSePlace
import Derived.Test.YtpgbeebpeldjdaaRowK
import Derived.Lib.Overlaps
import Derived.Lib.SliceRun
namespace Go.Proofs.Ytpgbeebpeldjdaa
open Go.RowKit

theorem ptCells_len (p : Pt) : p.cells.length = 2 := rfl
theorem pt_one (p : Pt) : ∀ u ∈ p.cells, u.oneCell' = true := fun u hu => by simp [Pt.cells] at hu; rcases hu with rfl | rfl <;> rfl
theorem PtAt.news {w : World} {vb : Nat} {p : Pt} (h : PtAt w vb p) : ∀ j u, p.cells[j]? = some u → w.cell? ((⟨vb, 0, none⟩ : Addr).add j) = some u := by
  intro j u hu
  obtain ⟨c0, c1, _⟩ := h.cells
  rw [add_at, Nat.zero_add]
  match j with
  | 0 => rw [c0]; exact hu
  | 1 => rw [c1]; exact hu
  | j + 2 => simp [Pt.cells] at hu
theorem PtRowB.snoc {B : Nat} {w : World} {v : Value} {l : List Pt} {p : Pt} (h : w.ownsRow B 26 2 v (l.length + 1) (l.flatMap Pt.cells ++ p.cells)) : PtRowB B w v (l ++ [p]) := by
  unfold PtRowB
  exact flat_snoc h
set_option maxHeartbeats 4000000 in
set_option maxRecDepth 100000 in
theorem seins_end {B : Nat} {w : World} {v : Value} {l : List Pt} {p : Pt} {vb : Nat} (h : PtRowB B w v l) (hB : B ≤ w.heap.size) (hp : PtAt w vb p) (hn : l.length ≤ 1000000) :
    Calls Try.prog 31 #[v, .int .i64 (l.length : Nat), .slice (some ⟨vb, 0, none⟩) 1 1] w fun e w' => ∃ v', e = .returned v' ∧ PtRowB B w' v' (l ++ [p]) ∧ Below B w w' := by
  obtain ⟨i0, hi, hz0, hz1, hz2⟩ := info_parts infoPt
  have HR := Lib.hid h
  have HNW := Lib.hid hp.news
  have HBB := Lib.hid hB
  have HN := Lib.hid hn
  obtain ⟨a, c, rfl⟩ := own_slice h
  clear h hp hn hB
  go_enter Try.func31, Try.ntmps31
  go_wp2_with (at_builtin; refine wpList_append_own_at _ rfl (.tmp 23) (.tmp 24) 24 rfl B 26 i0 (.agg #[.int .i64 0, .int .i64 0]) 2 16 Try.underlying24 hi hz0 hz1 hz2 rfl (by decide) _ _ _ rfl HR.out ⟨vb, 0, none⟩ 1 1 p.cells rfl rfl HNW.out (pt_one p) (by have := HN.out; unfold maxLen; omega) (by have := HN.out; omega) HBB.out ?_; intro v7 W7 hown7 hgrow7 _ hwhere7; have HR7 := Lib.hid (PtRowB.snoc hown7); have HB7 : Hid (Below B w W7) := Lib.hid ((Below.refl B w).grown hgrow7 HBB.out (fun b hb => (HR.out.lt b hb).1)); clear hown7 hgrow7 hwhere7)
  all_goals (go_ret; exact ⟨_, rfl, HR7.out, HB7.out⟩)
theorem overlaps_apart {w : World} {vb g off lb cb : Nat} {p : Pt} {cur : List Value} (hp : PtAt w vb p) (hg : Arr w g 26 cur) (hne : vb ≠ g) (hc : cur.length ≠ 0) :
    (callFunc 37 #[.slice (some ⟨vb, 0, none⟩) 1 1, .slice (some ⟨g, off, none⟩) lb cb]).run Try.prog w = .ok (.value (.bool false)) w := by
  have hz : ∀ w, (Go.sizeOf 26).run Try.prog w = .ok 2 w := fun w => by
    obtain ⟨i0, hi, _, hz1, _⟩ := info_parts infoPt
    simp [sizeOf, typeInfo, hi, hz1]
  have s1 : w.shape? vb = some (26, 2) := by unfold PtAt at hp; simp [World.shape?, hp]
  have s2 : w.shape? g = some (26, cur.length) := by unfold Arr at hg; simp [World.shape?, hg]
  rw [run_callFunc_extern Try.func37 (by kernel_rfl) (by kernel_rfl) (by kernel_rfl) (e := Extern.SlicesOverlaps.overlaps #[24, 24] #[4]) (by kernel_rfl),
    Lib.run_overlaps_apart w 24 4 26 Try.underlying24 2 hz ⟨vb, 0, none⟩ ⟨g, off, none⟩ 1 1 lb cb hne 26 26 2 cur.length s1 s2 hc hp.cells.2.2.1 (by unfold PtAt at hp; simp [World.frozen?, hp])]
  rfl
set_option maxHeartbeats 8000000 in
set_option maxRecDepth 100000 in
theorem seins_shift {g n i cap : Nat} {w : World} {A D R : List Value} {p : Pt} {vb : Nat} (hg : Arr w g 26 (A ++ (D ++ R))) (hA : A.length = i * 2) (hD : D.length = (n - i) * 2) (hR : R.length = (cap - n) * 2) (hin : i < n) (hnc : n + 1 ≤ cap) (hcm : cap ≤ maxLen)
    (h1 : ∀ u ∈ D, u.oneCell' = true) (hp : PtAt w vb p) (hne : vb ≠ g) :
    Calls Try.prog 31 #[.slice (some ⟨g, 0, none⟩) n cap, .int .i64 i, .slice (some ⟨vb, 0, none⟩) 1 1] w fun e w' => e = .returned (.slice (some ⟨g, 0, none⟩) (n + 1 : Nat) cap) ∧ Arr w' g 26 (A ++ (p.cells ++ (D ++ R.drop 2))) ∧ Only (fun k => k = g) w w' := by
  have hcm' : cap ≤ 9223372036854775807 := by unfold maxLen at hcm; omega
  have hov : ∀ off lb cb, (callFunc 37 #[.slice (some ⟨vb, 0, none⟩) 1 1, .slice (some ⟨g, off, none⟩) lb cb]).run Try.prog w = .ok (.value (.bool false)) w := fun off lb cb => overlaps_apart hp hg hne (by rw [List.length_append, List.length_append, hA, hD, hR]; omega)
  have HG := Lib.hid hg
  have HP := Lib.hid hp
  have HA := Lib.hid hA
  have HD := Lib.hid hD
  have HR := Lib.hid hR
  have H1 := Lib.hid h1
  have hni : ¬ ((i : Int) = (n : Int)) := by omega
  have hroom : ¬ ((cap : Int) < (n : Int) + 1) := by omega
  have hw1 : IntKind.i64.wrap ((i : Int) + 1) = (i : Int) + 1 := by rw [IntKind.wrap_i64]; omega
  have hw2 : IntKind.i64.wrap ((n : Int) + 1) = (n : Int) + 1 := by rw [IntKind.wrap_i64]; omega
  have hci : ¬ (cap = i) := by omega
  have hci1 : ¬ (cap = i + 1) := by omega
  have hb1 : (0 : Int) ≤ (i : Int) + 1 := by omega
  have hb2 : i ≤ n := by omega
  have hb3 : (i : Int) ≤ (n : Int) + 1 := by omega
  have HSZ : Hid ((Try.prog.info? 26).map (·.size) = some 2) := Lib.hid (by obtain ⟨i0, hi, _, hz1, _⟩ := info_parts infoPt; rw [hi]; simp [hz1])
  have HDN : Hid (D.length = Nat.min (n + 1 - i) (n - i) * 2) := Lib.hid (by rw [hD, show Nat.min (n + 1 - i) (n - i) = n - i by simp only [Nat.min_def]; split <;> omega])
  have HDS : Hid (∀ j v, D[j]? = some v → w.drew.cell? ((⟨g, i * 2, none⟩ : Addr).add j) = some v) := Lib.hid (fun j u hu => by
    rw [add_at]
    refine hg.cell (i := i * 2 + j) ?_
    have hj := (List.getElem?_eq_some_iff.1 hu).1
    rw [List.getElem?_append_right (by omega), hA, show i * 2 + j - i * 2 = j by omega, List.getElem?_append_left hj]; exact hu)
  have HFIT : Hid ((i + 1) * 2 + D.length ≤ (A ++ (D ++ R)).length) := Lib.hid (by rw [List.length_append, List.length_append, hA, hD, hR]; omega)
  clear hg hp hA hD hR h1
  go_enter Try.func31, Try.ntmps31
  go_wp2_with (simp only [hov])
  go_region_law (refine step_copy_K rfl (.tmp 73) (.tmp 76) 24 24 rfl 26 2 Try.underlying24 HSZ.out g ((i + 1) * 2) (n - i) (cap - (i + 1)) ⟨g, i * 2, none⟩ (n + 1 - i) (cap - i) (by simp [Act.eval, Act.put]) (by simp [Act.eval, Act.put]) (A ++ (D ++ R)) 26 HG.out D HDN.out HDS.out HFIT.out H1.out ?_; intro W1 HG1 HO1)
  have HP1 : Hid (∀ j u, p.cells[j]? = some u → W1.cell? ((⟨vb, 0, none⟩ : Addr).add j) = some u) := Lib.hid (PtAt.news (HP.out.only (S := fun k => k = g) ((Only.drew _ w).trans HO1.out (fun _ _ h => h)) hne))
  have HFI1 : Hid (i * 2 + p.cells.length ≤ (splice (A ++ (D ++ R)) ((i + 1) * 2) D).length) := Lib.hid (by rw [length_splice _ _ _ HFIT.out, List.length_append, List.length_append, HA.out, HD.out, HR.out, ptCells_len]; omega)
  have HPN : Hid (p.cells.length = Nat.min 1 (n + 1 - i) * 2) := Lib.hid (by rw [show Nat.min 1 (n + 1 - i) = 1 by simp only [Nat.min_def]; split <;> omega]; rfl)
  repeat (first | ((with_reducible refine wpList_dst (some 82) rfl ?_); refine wpList_copy_K rfl (.tmp 80) (.tmp 81) 24 24 rfl 26 2 Try.underlying24 HSZ.out g (i * 2) (n + 1 - i) (cap - i) ⟨vb, 0, none⟩ 1 1 rfl rfl (splice (A ++ (D ++ R)) ((i + 1) * 2) D) 26 HG1.out p.cells HPN.out HP1.out HFI1.out (pt_one p) ?_; intro W2 HG2 HO2) | go_values | go_skip | go_guarded | go_step | go_upon)
  go_ret
  refine ⟨rfl, ?_, ((Only.drew _ w).trans HO1.out (fun _ _ h => h)).trans HO2.out (fun _ _ h => h)⟩
  have h2 := HG2.out
  rw [show (i + 1) * 2 = A.length + p.cells.length by rw [HA.out, ptCells_len]; omega, show i * 2 = A.length from HA.out.symm, shift_row A D R p.cells (by rw [ptCells_len, HR.out]; omega)] at h2
  exact h2
set_option maxHeartbeats 8000000 in
set_option maxRecDepth 100000 in
theorem seins_grow {g n i cap : Nat} {w : World} {A D R : List Value} {p : Pt} {vb : Nat} (hg : Arr w g 26 (A ++ (D ++ R))) (hA : A.length = i * 2) (hD : D.length = (n - i) * 2) (hin : i < n) (hnc : n ≤ cap) (hroom : cap < n + 1) (hn : n ≤ 1000000)
    (h1 : ∀ u ∈ D, u.oneCell' = true) (hp : PtAt w vb p) :
    Calls Try.prog 31 #[.slice (some ⟨g, 0, none⟩) n cap, .int .i64 i, .slice (some ⟨vb, 0, none⟩) 1 1] w fun e w' => ∃ G R', e = .returned (.slice (some ⟨w.heap.size, 0, none⟩) (n + 1 : Nat) G) ∧ Arr w' w.heap.size 26 (A ++ (p.cells ++ (D ++ R'))) ∧ R'.length = (G - (n + 1)) * 2 ∧ n + 1 ≤ G ∧ G ≤ maxLen ∧ Below w.heap.size w w' := by
  obtain ⟨i0, hi, hz0, hz1, hz2⟩ := info_parts infoPt
  have HG := Lib.hid hg
  have HP := Lib.hid hp
  have HA := Lib.hid hA
  have HD := Lib.hid hD
  have H1 := Lib.hid h1
  have hni : ¬ ((i : Int) = (n : Int)) := by omega
  have hroom1 : (cap : Int) < (n : Int) + 1 := by omega
  have hw1 : IntKind.i64.wrap ((i : Int) + 1) = (i : Int) + 1 := by rw [IntKind.wrap_i64]; omega
  have hw2 : IntKind.i64.wrap ((n : Int) + 1) = (n : Int) + 1 := by rw [IntKind.wrap_i64]; omega
  have hw3 : IntKind.i64.wrap ((n : Int) + 1 - (i : Int)) = (n : Int) + 1 - (i : Int) := by rw [IntKind.wrap_i64]; omega
  have hci : ¬ (cap = i) := by omega
  have hb1 : (0 : Int) ≤ (i : Int) + 1 := by omega
  have hb2 : i ≤ n := by omega
  have hb3 : (i : Int) ≤ (n : Int) + 1 := by omega
  have hb4 : i ≤ cap := by omega
  have HSZ : Hid ((Try.prog.info? 26).map (·.size) = some 2) := Lib.hid (by rw [hi]; simp [hz1])
  have HOL : Hid (∀ j u, A[j]? = some u → w.cell? ((⟨g, 0, none⟩ : Addr).add j) = some u) := Lib.hid (fun j u hu => by
    rw [add_at, Nat.zero_add]
    refine hg.cell (i := j) ?_
    have hj := (List.getElem?_eq_some_iff.1 hu).1
    rw [List.getElem?_append_left hj]; exact hu)
  have HDL : Hid (∀ j u, D[j]? = some u → w.cell? ((⟨g, i * 2, none⟩ : Addr).add j) = some u) := Lib.hid (fun j u hu => by
    rw [add_at]
    refine hg.cell (i := i * 2 + j) ?_
    have hj := (List.getElem?_eq_some_iff.1 hu).1
    rw [List.getElem?_append_right (by omega), hA, show i * 2 + j - i * 2 = j by omega, List.getElem?_append_left hj]; exact hu)
  have HGL : Hid (g < w.heap.size) := Lib.hid hg.lt
  have HPN : Hid (p.cells.length = Nat.min 1 (n + 1 - i) * 2) := Lib.hid (by rw [show Nat.min 1 (n + 1 - i) = 1 by simp only [Nat.min_def]; split <;> omega]; rfl)
  have HDN : Hid (D.length = Nat.min (n - i) (n - i) * 2) := Lib.hid (by rw [hD, show Nat.min (n - i) (n - i) = n - i by simp only [Nat.min_def]; split <;> omega])
  obtain ⟨B, hB⟩ : ∃ B, B = w.heap.size := ⟨_, rfl⟩
  have HB := Lib.hid hB
  rw [← hB]
  clear hg hp hA hD h1 hB
  go_enter Try.func31, Try.ntmps31
  repeat ((fail_if_success (with_reducible refine wpList_dst (some 41) rfl ?_)); first | ((with_reducible refine wpList_dst (some 40) rfl ?_); refine wpList_append_zeros rfl (.tmp 34) (.tmp 39) 24 3 rfl 26 i0 (.agg #[.int .i64 0, .int .i64 0]) 2 16 .i64 Try.underlying24 Try.underlying3 hi hz0 hz1 hz2 rfl (by decide) (by decide) ⟨g, 0, none⟩ i cap (n + 1 - i) (n + 1) B ((n : Int) + 1 - (i : Int)) rfl rfl (by omega) A HA.out HOL.out (by omega) (by omega) (by omega) (by omega) HB.out.symm ?_; intro G Z W1 HGG HZ HG1 HB1) | go_values | go_skip | go_guarded | go_step)
  have hGi : ¬ (G = i) := by have := HGG.out.1; omega
  have hGi1 : ¬ (G = i + 1) := by have := HGG.out.1; omega
  have hGm : G ≤ 9223372036854775807 := by have := HGG.out.2; unfold maxLen at this; omega
  have hGn : n + 1 ≤ G := HGG.out.1
  have HP1 := Lib.hid (PtAt.news (HP.out.keep HB1.out))
  have HFI1 : Hid (i * 2 + p.cells.length ≤ (A ++ Z).length) := Lib.hid (by rw [List.length_append, HA.out, HZ.out, ptCells_len]; omega)
  repeat (first | ((with_reducible refine wpList_dst (some 45) rfl ?_); refine wpList_copy_K rfl (.tmp 43) (.tmp 44) 24 24 rfl 26 2 Try.underlying24 HSZ.out B (i * 2) (n + 1 - i) (G - i) ⟨vb, 0, none⟩ 1 1 rfl rfl (A ++ Z) 26 HG1.out p.cells HPN.out HP1.out HFI1.out (pt_one p) ?_; intro W2 HG2 HO2) | go_values | go_skip | go_guarded | go_step)
  have hgB : ¬ g = B := by have h1 := HGL.out; have h2 := HB.out; omega
  have HD2 : Hid (∀ j u, D[j]? = some u → W2.drew.cell? ((⟨g, i * 2, none⟩ : Addr).add j) = some u) := Lib.hid (fun j u hu => by
    have h0 := HDL.out j u hu
    rw [add_at] at h0 ⊢
    have h1 : W1.cell? ⟨g, i * 2 + j, none⟩ = some u := by rw [← h0]; exact HB1.out.cell (p := ⟨g, i * 2 + j, none⟩) HGL.out
    rw [← h1]
    exact World.cell?_of_block (w := W1) (a := ⟨g, i * 2 + j, none⟩) (HO2.out.block g (by have := HB1.out.size; have := HGL.out; omega) hgB))
  have HFI2 : Hid ((i + 1) * 2 + D.length ≤ (splice (A ++ Z) (i * 2) p.cells).length) := Lib.hid (by rw [length_splice _ _ _ HFI1.out, List.length_append, HA.out, HD.out, HZ.out]; omega)
  go_region_law (refine step_copy_K rfl (.tmp 50) (.tmp 53) 24 24 rfl 26 2 Try.underlying24 HSZ.out B ((i + 1) * 2) (n - i) (G - (i + 1)) ⟨g, i * 2, none⟩ (n - i) (cap - i) (by simp [Act.eval, Act.put]) (by simp [Act.eval, Act.put]) (splice (A ++ Z) (i * 2) p.cells) 26 HG2.out D HDN.out HD2.out HFI2.out H1.out ?_; intro W3 HG3 HO3)
  go_wp2
  go_ret
  refine ⟨G, Z.drop (2 + D.length), rfl, ?_, ?_, HGG.out.1, HGG.out.2, ?_⟩
  · have h2 := HG3.out
    rw [show (i + 1) * 2 = A.length + p.cells.length by rw [HA.out, ptCells_len]; omega, show i * 2 = A.length from HA.out.symm, grow_row A D Z p.cells, ptCells_len] at h2
    exact h2
  · rw [List.length_drop, HZ.out, HD.out]; omega
  · rw [HB.out]
    refine HB1.out.trans ((HO2.out.trans ((Only.drew (fun k => k = B) W2).trans HO3.out (fun _ _ h => h)) (fun _ _ h => h)).below HB1.out.size (fun k hk => by rw [hk, HB.out]; exact Nat.le_refl _))
theorem PtRowB.opened {B : Nat} {w : World} {v : Value} {l : List Pt} (h : PtRowB B w v l) : (v = .slice none 0 0 ∧ l = []) ∨ ∃ g cap R, v = .slice (some ⟨g, 0, none⟩) l.length cap ∧ B ≤ g ∧ Arr w g 26 (l.flatMap Pt.cells ++ R) ∧ R.length = (cap - l.length) * 2 ∧ l.length ≤ cap ∧ cap ≤ maxLen := by
  rcases h.2 with ⟨rfl, h0⟩ | ⟨g, cap, cur, rfl, hb, hg, hnc, hcm, hcs, ht⟩
  · exact .inl ⟨rfl, List.length_eq_zero_iff.1 h0⟩
  · refine .inr ⟨g, cap, cur.toList.drop (l.length * 2), rfl, hb, ?_, ?_, hnc, hcm⟩
    · show _ = _
      rw [← ht, List.take_append_drop, Array.toArray_toList]; exact hg
    · rw [List.length_drop, Array.length_toList, hcs]; omega
theorem PtRowB.shut {B : Nat} {w : World} {g cap : Nat} {l : List Pt} {R : List Value} (hb : B ≤ g) (hg : Arr w g 26 (l.flatMap Pt.cells ++ R)) (hR : R.length = (cap - l.length) * 2) (hnc : l.length ≤ cap) (hcm : cap ≤ maxLen) : PtRowB B w (.slice (some ⟨g, 0, none⟩) l.length cap) l := by
  refine ⟨flatP_length l, .inr ⟨g, cap, _, rfl, hb, hg, hnc, hcm, ?_, ?_⟩⟩
  · rw [List.size_toArray, List.length_append, flatP_length, hR]; omega
  · rw [List.take_append, List.take_of_length_le (by rw [flatP_length]; omega), flatP_length, Nat.sub_self, List.take_zero, List.append_nil]
theorem PtRowB.far {B vb : Nat} {w : World} {v : Value} {l : List Pt} (h : PtRowB B w v l) (hvb : w.heap.size ≤ vb) : v.ownBlock ≠ some vb := fun e => by have := (h.lt _ e).2; omega
theorem ins_flat (l : List Pt) (i : Nat) (p : Pt) : (l.take i ++ p :: l.drop i).flatMap Pt.cells = (l.take i).flatMap Pt.cells ++ (p.cells ++ (l.drop i).flatMap Pt.cells) := by rw [List.flatMap_append, List.flatMap_cons]
theorem flat_split (l : List Pt) (i : Nat) : l.flatMap Pt.cells = (l.take i).flatMap Pt.cells ++ (l.drop i).flatMap Pt.cells := by rw [← List.flatMap_append, List.take_append_drop]
/-- a point inserted into a row of one's own -/
theorem seins_any {B : Nat} {w : World} {v : Value} {l : List Pt} {p : Pt} {vb i : Nat} (h : PtRowB B w v l) (hB : B ≤ w.heap.size) (hi : i ≤ l.length) (hp : PtAt w vb p) (hv : v.ownBlock ≠ some vb) (hn : l.length ≤ 1000000) :
    Calls Try.prog 31 #[v, .int .i64 (i : Nat), .slice (some ⟨vb, 0, none⟩) 1 1] w fun e w' => ∃ v', e = .returned v' ∧ PtRowB B w' v' (l.take i ++ p :: l.drop i) ∧ Below B w w' := by
  rcases Nat.lt_or_ge i l.length with hlt | hge
  · rcases h.opened with ⟨_, rfl⟩ | ⟨g, cap, R, rfl, hbg, hg, hR, hnc, hcm⟩
    · simp at hlt
    · have hA : ((l.take i).flatMap Pt.cells).length = i * 2 := by rw [flatP_length, List.length_take, Nat.min_eq_left hi]
      have hD : ((l.drop i).flatMap Pt.cells).length = (l.length - i) * 2 := by rw [flatP_length, List.length_drop]
      have hne : vb ≠ g := fun e => hv (by rw [e]; rfl)
      rw [flat_split l i, List.append_assoc] at hg
      by_cases hroom : cap < l.length + 1
      · refine (seins_grow hg hA hD hlt hnc hroom hn (flatP_one _) hp).mono ?_
        rintro e w' ⟨G, R', rfl, h1, h2, h3, h4, h5⟩
        have e1 : l.length + 1 = (l.take i ++ p :: l.drop i).length := (ins_len l i p).symm
        refine ⟨_, rfl, ?_, h5.mono hB⟩
        rw [e1]
        refine PtRowB.shut (R := R') hB ?_ (by rw [← e1]; exact h2) (by rw [← e1]; exact h3) h4
        rw [ins_flat, List.append_assoc, List.append_assoc]; exact h1
      · refine (seins_shift hg hA hD hR hlt (by omega) hcm (flatP_one _) hp hne).mono ?_
        rintro e w' ⟨rfl, h1, h2⟩
        have e1 : l.length + 1 = (l.take i ++ p :: l.drop i).length := (ins_len l i p).symm
        refine ⟨_, rfl, ?_, h2.below hB (fun k hk => by rw [hk]; exact hbg)⟩
        rw [e1]
        refine PtRowB.shut (R := R.drop 2) hbg ?_ (by rw [List.length_drop, hR, ← e1]; omega) (by rw [← e1]; omega) hcm
        rw [ins_flat, List.append_assoc, List.append_assoc]; exact h1
  · obtain rfl : i = l.length := by omega
    refine (seins_end h hB hp hn).mono ?_
    rintro e w' ⟨v', rfl, h1, h2⟩
    exact ⟨v', rfl, by rw [List.take_length, List.drop_length]; exact h1, h2⟩
end Go.Proofs.Ytpgbeebpeldjdaa
