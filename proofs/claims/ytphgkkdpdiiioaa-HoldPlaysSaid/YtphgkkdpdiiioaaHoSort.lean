/- Holds sorted by their names. -/
import Derived.Test.YtphgkkdpdiiioaaHoLays
import Derived.Test.YtphgkkdpdiiioaaHoApps
import Derived.Test.YtphgkkdpdiiioaaNmCmp
namespace Go.Proofs.Ytphgkkdpdiiioaa
open Go.RowKit Go.Shelf Go.Sort Go.Lib

set_option maxHeartbeats 4000000 in
/-- two holds held against each other: both are boxed -/
theorem hocmp_any (x y : Hld) (W : World) : Calls Try.prog 33 #[.agg x.cells.toArray, .agg y.cells.toArray] W fun e w' => e = .returned (.int .i64 (cfH x y)) ∧ ∃ q os', w' = grow (W.drewN q) os' := by
  obtain ⟨n, s, a, b⟩ := x
  obtain ⟨n', s', a', b'⟩ := y
  unfold Hld.cells cfH
  dsimp only
  have HC : Hid (∀ W, Calls Try.prog 34 #[.string n, .string n'] W fun e w' => e = .returned (.int .i64 (cmpT n n')) ∧ w' = W) := Lib.hid fun W => nmcmp_any W n n'
  obtain ⟨r, hr⟩ : ∃ r, r = cmpT n n' := ⟨_, rfl⟩
  rw [← hr] at HC ⊢
  clear hr
  go_enter Try.func33, Try.ntmps33
  go_wp2_with (go_at_call 34; refine (HC.out _).mono ?_; rintro e w' ⟨rfl, rfl⟩)
  go_ret
  exact ⟨rfl, 0, _, by rw [alloc_eq_grow, alloc_eq_grow, grow_grow]; rfl⟩
theorem swoHo : SWO (ltOf cfH) where
  irrefl x := by unfold ltOf cfH; rw [cmpT_zero.2 rfl]; rfl
  trans x y z h1 h2 := by
    unfold ltOf cfH at *
    simp only [decide_eq_true_eq] at *
    have h := cmpT_trans (a := x.name) (b := y.name) (c := z.name) (by omega) (by omega)
    rcases Int.lt_or_eq_of_le h.1 with h3 | h3
    · exact h3
    · have := (h.2 h3).1; omega
  ntrans x y z h1 h2 := by
    unfold ltOf cfH at *
    simp only [decide_eq_false_iff_not] at *
    have e1 := cmpT_neg x.name y.name
    have e2 := cmpT_neg y.name z.name
    have e3 := cmpT_neg x.name z.name
    have h := cmpT_trans (a := z.name) (b := y.name) (c := x.name) (by omega) (by omega)
    omega
/-- holds, wherever they lie -/
def HLies (w : World) (v : Value) (l : List Hld) : Prop := ∃ a b off c, v = .slice a l.length c ∧ (l ≠ [] → a = some ⟨b, off, none⟩) ∧ ∀ i x, l[i]? = some x → ∀ j u, x.cells[j]? = some u → w.cell? ⟨b, off + i * 4 + j, none⟩ = some u
theorem flat_four : ∀ {l : List Hld} {i j : Nat} {x : Hld}, l[i]? = some x → j < 4 → (l.flatMap Hld.cells)[i * 4 + j]? = x.cells[j]?
  | [], _, _, _, h, _ => by simp at h
  | y :: l, 0, j, x, h, hj => by
    simp at h
    subst h
    rw [List.flatMap_cons, List.getElem?_append_left (by simp [Hld.cells]; omega)]
    simp
  | y :: l, i + 1, j, x, h, hj => by
    rw [List.flatMap_cons, List.getElem?_append_right (by simp [Hld.cells]; omega)]
    have e : (i + 1) * 4 + j - y.cells.length = i * 4 + j := by simp [Hld.cells]; omega
    rw [e]
    exact flat_four (by simpa using h) hj
theorem HoRow.holds {B : Nat} {w : World} {v : Value} {l : List Hld} (h : HoRow B w v l) : (v = .slice none 0 0 ∧ l = []) ∨ ∃ g cap, v = .slice (some ⟨g, 0, none⟩) l.length cap ∧ B ≤ g ∧ g < w.heap.size ∧ HoldsK Hld.cells 4 w g 0 l.toArray := by
  rcases h.2 with ⟨rfl, h0⟩ | ⟨g, cap, cur, rfl, hb, hg, hnc, _, hcs, ht⟩
  · exact .inl ⟨rfl, List.length_eq_zero_iff.1 h0⟩
  · refine .inr ⟨g, cap, rfl, hb, lt_of_block hg, fun j hj => ?_⟩
    rw [size_flatK] at hj
    have hj' : j < l.length * 4 := by simpa using hj
    refine ⟨?_, by simp [World.frozen?, hg]⟩
    have hi : l[j / 4]? = some l[j / 4]! := by
      have : j / 4 < l.length := by omega
      rw [List.getElem?_eq_getElem this, getElem!_pos l (j / 4) this]
    rw [Nat.zero_add, h.cellAt j (by omega)]
    have hj2 : j = j / 4 * 4 + j % 4 := by omega
    have hget := flat_four hi (j := j % 4) (by omega)
    rw [← hj2] at hget
    rw [hget, get_flatK Hld.cells 4 l.toArray j (by simpa using hj')]
    have hc : (l.toArray[j / 4]! : Hld) = l[j / 4]! := by simp
    rw [hc]
    have h4 : j % 4 < (l[j / 4]!).cells.length := by simp [Hld.cells]; omega
    rw [List.getElem?_eq_getElem h4, getElem!_pos (l[j / 4]!).cells (j % 4) h4]
    rfl
theorem only_sortedK {w : World} {g m : Nat} {d : Array Hld} {os : Array Obj} : Only (fun k => k = g) w (sortWorldK Hld.cells 4 w g 0 m d os) := by
  refine ⟨rfl, rfl, rfl, by simp [sortWorldK, putRowK], fun k hk hne => ?_⟩
  unfold sortWorldK putRowK
  rw [heap_grow_old _ _ (by simpa using hk)]
  show (mapBlock (Sort.ahead w m) g _).heap[k]? = _
  unfold mapBlock
  show (w.heap.modify g _)[k]? = _
  rw [Array.getElem?_modify, if_neg (fun e => hne e.symm)]
set_option maxHeartbeats 2000000 in
theorem hosort_any {B : Nat} {w : World} {v : Value} {l : List Hld} (h : HoRow B w v l) (hn : l.length < 4611686018427387904) :
    Calls Try.prog 42 #[v, .func (.func 33) #[] #[]] w fun e w' => e = .returned (.tuple #[]) ∧ ∃ xs, xs.Perm l ∧ xs.Pairwise (fun x y => cmpT x.name y.name ≤ 0) ∧ HLies w' v xs ∧ Only (fun k => v.ownBlock = some k) w w' := by
  rcases h.holds with ⟨rfl, rfl⟩ | ⟨g, cap, rfl, hB, hg, hH⟩
  · refine (AnyF.slices_SortFunc_none laysHo none 0 (.func (.func 33) #[] #[]) w).mono ?_
    rintro e w' ⟨rfl, rfl⟩
    exact ⟨rfl, [], .refl _, .nil, ⟨none, 0, 0, 0, rfl, fun h => absurd rfl h, fun i x h => by simp at h⟩, Only.refl _ _⟩
  · have hc := AnyQ.slices_SortFunc laysHo 4 Try.isAgg30 Try.sizeOf30 Hld.cells (fun _ => rfl) (fun x v hv => by simp [Hld.cells] at hv; rcases hv with rfl | rfl | rfl | rfl <;> rfl) cfH swoHo 33 #[] g 0 cap l.toArray w (enters_of Try.func33 (by kernel_rfl) rfl) (fun _ _ _ _ x y => hocmp_any x y _) hH hg (by simpa using hn)
    refine hc.mono ?_
    rintro e w' ⟨rfl, d', m, os, hp, hs, rfl⟩
    have hsz : d'.size = l.length := by have := hp.1; simpa using this
    have hperm : d'.toList.Perm l := by
      have h1 := hp.2.2
      rw [show d'.extract 0 l.toArray.size = d' by rw [← hp.1]; simp, show l.toArray.extract 0 l.toArray.size = l.toArray by simp] at h1
      simpa using h1
    have hlen : d'.toList.length = l.length := by rw [Array.length_toList]; exact hsz
    refine ⟨rfl, d'.toList, hperm, ?_, ?_, only_sortedK.mono (fun k _ hk => by rw [hk]; rfl)⟩
    · rw [List.pairwise_iff_getElem]
      intro i j hi hj hij
      have h2 := hs i j (Nat.zero_le _) hij (by simp only [List.size_toArray]; omega)
      unfold ltOf cfH at h2
      rw [getElem!_pos d' j (by simpa using hj), getElem!_pos d' i (by simpa using hi)] at h2
      simp only [decide_eq_false_iff_not] at h2
      have := cmpT_neg d'[i].name d'[j].name
      simp only [Array.getElem_toList]
      omega
    · refine ⟨some ⟨g, 0, none⟩, g, 0, cap, by rw [hlen], fun _ => rfl, fun i x hx j u hu => ?_⟩
      have hi : i < d'.size := by have := (List.getElem?_eq_some_iff.1 hx).1; simpa using this
      have hj : j < 4 := by have := (List.getElem?_eq_some_iff.1 hu).1; simpa [Hld.cells] using this
      have hw : HoldsK Hld.cells 4 (sortWorldK Hld.cells 4 w g 0 m d' os) g 0 d' := holdsK_grow _ _ _ _ _ _ _ (by simpa [putRowK] using hg) (holdsK_putRowK _ _ _ _ _ l.toArray _ (holdsK_ahead _ _ w m g 0 _ hH) (by simpa using hsz))
      have h3 := (hw.cell hi hj).1
      rw [h3]
      obtain ⟨hi', rfl⟩ := List.getElem?_eq_some_iff.1 hx
      obtain ⟨hj', rfl⟩ := List.getElem?_eq_some_iff.1 hu
      rw [getElem!_pos d' i hi]
      simp only [Array.getElem_toList] at hj' ⊢
      rw [getElem!_pos _ j hj']
end Go.Proofs.Ytphgkkdpdiiioaa
