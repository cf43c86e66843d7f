/- Package series: points taken out of a row. -/
import Derived.Test.YtpgbeebpeldjdaaSeIns
namespace Go.Proofs.Ytpgbeebpeldjdaa
open Go.RowKit

theorem del_row (A X D R Z : List Value) (hZ : Z.length ≤ (X ++ R).length) :
    ∃ R', splice (splice (A ++ (X ++ (D ++ R))) A.length D) (A.length + D.length) Z = A ++ (D ++ R') ∧ R'.length = (X ++ R).length := by
  rw [pull_row]
  refine ⟨Z ++ ((A ++ (X ++ (D ++ R))).drop (A.length + D.length)).drop Z.length, ?_, ?_⟩
  · rw [← List.append_assoc A D, ← List.append_assoc A D, ← List.length_append]
    unfold splice
    rw [take_app, drop_app]
  · rw [List.length_append] at hZ
    simp only [List.length_append, List.length_drop]; omega
set_option maxHeartbeats 8000000 in
set_option maxRecDepth 100000 in
theorem sedel_way {g n i j cap : Nat} {w : World} {A X D R : List Value} (hg : Arr w g 26 (A ++ (X ++ (D ++ R)))) (hA : A.length = i * 2) (hX : X.length = (j - i) * 2) (hD : D.length = (n - j) * 2) (hR : R.length = (cap - n) * 2) (hij : i < j) (hjn : j ≤ n) (hnc : n ≤ cap) (hn : n ≤ 1000000)
    (h1 : ∀ u ∈ D, u.oneCell' = true) :
    Calls Try.prog 26 #[.slice (some ⟨g, 0, none⟩) n cap, .int .i64 i, .int .i64 j] w fun e w' => ∃ R', e = .returned (.slice (some ⟨g, 0, none⟩) (i + (n - j)) cap) ∧ Arr w' g 26 (A ++ (D ++ R')) ∧ R'.length = (cap - (i + (n - j))) * 2 ∧ Only (fun k => k = g) w w' := by
  obtain ⟨i0, hi, hz0, hz1, hz2⟩ := info_parts infoPt
  have HSZ : Hid ((Try.prog.info? 26).map (·.size) = some 2) := Lib.hid (by rw [hi]; simp [hz1])
  have HZV : Hid (((Try.prog.info? 26).bind (·.zero)) = some (.agg #[.int .i64 0, .int .i64 0])) := Lib.hid (by rw [hi]; exact hz0)
  obtain ⟨ad, had, hsrc⟩ : ∃ ad : Addr, (if cap = j then (some ⟨g, 0, none⟩ : Option Addr) else some ⟨g, j * 2, none⟩) = some ad ∧ Hid (∀ t u, D[t]? = some u → w.drew.cell? (ad.add t) = some u) := by
    by_cases hcj : cap = j
    · refine ⟨⟨g, 0, none⟩, by simp [hcj], fun t u hu => ?_⟩
      have h0 : D.length = 0 := by rw [hD]; omega
      rw [List.length_eq_zero_iff.1 h0] at hu
      simp at hu
    · refine ⟨⟨g, j * 2, none⟩, by simp [hcj], fun t u hu => ?_⟩
      have ht := (List.getElem?_eq_some_iff.1 hu).1
      rw [add_at]
      refine hg.cell (i := j * 2 + t) ?_
      rw [List.getElem?_append_right (by omega), List.getElem?_append_right (by omega), hA, hX, show j * 2 + t - i * 2 - (j - i) * 2 = t by omega, List.getElem?_append_left ht]; exact hu
  have HG := Lib.hid hg
  have HA := Lib.hid hA
  have HX := Lib.hid hX
  have HD := Lib.hid hD
  have HR := Lib.hid hR
  have H1 := Lib.hid h1
  have HFI : Hid (i * 2 + D.length ≤ (A ++ (X ++ (D ++ R))).length) := Lib.hid (by rw [List.length_append, List.length_append, List.length_append]; omega)
  have HLEN : Hid ((A ++ (X ++ (D ++ R))).length = cap * 2) := Lib.hid (by rw [List.length_append, List.length_append, List.length_append]; omega)
  have hne : ¬ ((i : Int) = (j : Int)) := by omega
  have hij2 : (i : Int) ≤ (j : Int) := by omega
  have hjn2 : (j : Int) ≤ (n : Int) := by omega
  have hic : i ≤ cap := by omega
  have hjc : j ≤ cap := by omega
  have hci : ¬ (cap = i) := by omega
  have hmn : i + (n - j) ≤ n := by omega
  have hcm : ¬ (cap = i + (n - j)) := by omega
  clear hg hA hX hD hR h1
  go_enter Try.func26, Try.ntmps26
  go_wp2_with fail
  go_region_law (refine step_append_in rfl (.tmp 22) (.tmp 25) 24 rfl 26 i0 2 Try.underlying24 hi hz1 g i cap (A ++ (X ++ (D ++ R))) HG.out (by simp [Act.eval, Act.put]) ad (n - j) (cap - j) (by simp [Act.eval, Act.put]) D HD.out hsrc.out H1.out (by omega) HFI.out ?_; intro W1 HG1 HO1)
  simp only [List.getElem_toArray, List.getElem_cons_succ, List.getElem_cons_zero, Act.put, List.setIfInBounds_toArray, List.set_cons_zero]
  have HFC : Hid ((i + (n - j)) * 2 + (n - (i + (n - j))) * (Value.agg #[.int .i64 0, .int .i64 0]).cells.size ≤ (splice (A ++ (X ++ (D ++ R))) (i * 2) D).length) := Lib.hid (by
    rw [length_splice _ _ _ HFI.out, HLEN.out, show (Value.agg #[.int .i64 0, .int .i64 0]).cells.size = 2 from rfl]; omega)
  repeat (first | ((with_reducible refine wpList_dst none rfl ?_); refine wpList_clear_K rfl (.tmp 31) 24 rfl 26 (.agg #[.int .i64 0, .int .i64 0]) Try.underlying24 HZV.out (fun u hu => by simp [Value.cells] at hu; rcases hu with rfl | rfl <;> rfl) g ((i + (n - j)) * 2) (n - (i + (n - j))) (cap - (i + (n - j))) rfl (splice (A ++ (X ++ (D ++ R))) (i * 2) D) 26 HG1.out HFC.out (by omega) ?_; intro W2 HG2 HO2) | go_values | go_skip | go_guarded | go_step)
  go_ret
  have h2 := HG2.out
  have hz : (Builtin.zeroCells (Value.agg #[.int .i64 0, .int .i64 0]).cells (n - (i + (n - j)))).toList.length = (n - (i + (n - j))) * 2 := zero_len _ _
  have hs := HA.out
  have hd := HD.out
  have hx := HX.out
  have hr := HR.out
  obtain ⟨R', h3, h4⟩ := del_row A X D R (Builtin.zeroCells (Value.agg #[.int .i64 0, .int .i64 0]).cells (n - (i + (n - j)))).toList (by rw [hz, List.length_append]; omega)
  rw [show (i + (n - j)) * 2 = A.length + D.length by omega, show i * 2 = A.length from hs.symm, h3] at h2
  exact ⟨R', rfl, h2, by rw [h4, List.length_append]; omega, ((Only.drew _ w).trans HO1.out (fun _ _ h => h)).trans HO2.out (fun _ _ h => h)⟩
set_option maxHeartbeats 4000000 in
set_option maxRecDepth 100000 in
theorem sedel_same {w : World} {a : Option Addr} {n c i : Nat} (hi : i ≤ n) (hnc : n ≤ c) :
    Calls Try.prog 26 #[.slice a n c, .int .i64 i, .int .i64 i] w fun e w' => e = .returned (.slice a n c) ∧ w' = w := by
  have hi2 : (i : Int) ≤ (n : Int) := by omega
  have hn2 : (n : Int) ≤ (c : Int) := by omega
  by_cases hin : n = i
  · subst hin
    go_enter Try.func26, Try.ntmps26
    go_wp2
    all_goals (go_ret; exact ⟨rfl, rfl⟩)
  · go_enter Try.func26, Try.ntmps26
    go_wp2
    all_goals (go_ret; exact ⟨rfl, rfl⟩)
theorem flat_three (l : List Pt) {i j : Nat} (hij : i ≤ j) : l.flatMap Pt.cells = (l.take i).flatMap Pt.cells ++ (((l.take j).drop i).flatMap Pt.cells ++ (l.drop j).flatMap Pt.cells) := by
  rw [← List.flatMap_append, ← List.flatMap_append]
  congr 1
  conv => lhs; rw [← List.take_append_drop j l]
  rw [← List.append_assoc]
  congr 1
  conv => lhs; rw [← List.take_append_drop i (l.take j)]
  rw [List.take_take, Nat.min_eq_left hij]
/-- points taken out of a row of one's own -/
theorem sedel_any {B : Nat} {w : World} {v : Value} {l : List Pt} {i j : Nat} (h : PtRowB B w v l) (hij : i ≤ j) (hj : j ≤ l.length) (hn : l.length ≤ 1000000) :
    Calls Try.prog 26 #[v, .int .i64 (i : Nat), .int .i64 (j : Nat)] w fun e w' => ∃ v', e = .returned v' ∧ PtRowB B w' v' (l.take i ++ l.drop j) ∧ v'.ownBlock = v.ownBlock ∧ Only (fun k => v.ownBlock = some k) w w' := by
  rcases Nat.lt_or_ge i j with hlt | hge
  · rcases h.opened with ⟨_, rfl⟩ | ⟨g, cap, R, rfl, hbg, hg, hR, hnc, hcm⟩
    · simp at hj; omega
    · have hA : ((l.take i).flatMap Pt.cells).length = i * 2 := by rw [flatP_length, List.length_take, Nat.min_eq_left (by omega)]
      have hX : (((l.take j).drop i).flatMap Pt.cells).length = (j - i) * 2 := by rw [flatP_length, List.length_drop, List.length_take, Nat.min_eq_left hj]
      have hD : ((l.drop j).flatMap Pt.cells).length = (l.length - j) * 2 := by rw [flatP_length, List.length_drop]
      rw [flat_three l hij, List.append_assoc, List.append_assoc] at hg
      refine (sedel_way hg hA hX hD hR hlt hj hnc hn (flatP_one _)).mono ?_
      rintro e w' ⟨R', rfl, h1, h2, h3⟩
      have e1 : i + (l.length - j) = (l.take i ++ l.drop j).length := by rw [List.length_append, List.length_take, List.length_drop]; omega
      refine ⟨_, rfl, ?_, rfl, h3.mono (fun k _ hk => by rw [hk]; rfl)⟩
      rw [e1]
      refine PtRowB.shut (R := R') hbg ?_ (by rw [← e1]; exact h2) (by rw [← e1]; omega) hcm
      rw [List.flatMap_append, List.append_assoc]; exact h1
  · obtain rfl : i = j := by omega
    obtain ⟨a, c, rfl, hc⟩ : ∃ a c, v = .slice a l.length c ∧ l.length ≤ c := by
      rcases h.opened with ⟨rfl, rfl⟩ | ⟨g, cap, R, rfl, _, _, _, hnc, _⟩
      · exact ⟨none, 0, rfl, Nat.le_refl _⟩
      · exact ⟨_, _, rfl, hnc⟩
    refine (sedel_same hj hc).mono ?_
    rintro e w' ⟨rfl, rfl⟩
    exact ⟨_, rfl, by rw [List.take_append_drop]; exact h, rfl, Only.refl _ _⟩
end Go.Proofs.Ytpgbeebpeldjdaa
