/- HoSort, HoAll, HoSeq, HoMarks: laid into one. -/
import Derived.Test.YthbdchleppbidaaGreatZHoLays
import Derived.Test.YthbdchleppbidaaGreatMQ
import Derived.Test.YthbdchleppbidaaGreatZHoApps
import Derived.Test.YthbdchleppbidaaGreatZNmCmp
import Derived.Test.YthbdchleppbidaaGreatMH
import Derived.Test.YthbdchleppbidaaGreatMY
import Derived.RangeFuncLeaves
import Derived.Laws.ResultCell
/- Holds sorted by their names. -/
namespace Go.Proofs.YthbdchleppbidaaGreat
open Go.RowKit Go.Shelf Go.Sort Go.Lib

set_option maxHeartbeats 4000000 in
/-- two holds held against each other: both are boxed -/
theorem hocmp_any (x y : Hld) (W : World) : Calls Tryz.prog 84 #[.agg x.cells.toArray, .agg y.cells.toArray] W fun e w' => e = .returned (.int .i64 (cfH x y)) ∧ ∃ q os', w' = grow (W.drewN q) os' := by
  obtain ⟨n, s, a, b⟩ := x
  obtain ⟨n', s', a', b'⟩ := y
  unfold Hld.cells cfH
  dsimp only
  have HC : Hid (∀ W, Calls Tryz.prog 85 #[.string n, .string n'] W fun e w' => e = .returned (.int .i64 (cmpT n n')) ∧ w' = W) := Lib.hid fun W => nmcmp_any W n n'
  obtain ⟨r, hr⟩ : ∃ r, r = cmpT n n' := ⟨_, rfl⟩
  rw [← hr] at HC ⊢
  clear hr
  go_enter Tryz.func84, Tryz.ntmps84
  go_wp2_with (go_at_call 85; refine (HC.out _).mono ?_; rintro e w' ⟨rfl, rfl⟩)
  go_ret
  exact ⟨rfl, 0, _, by rw [alloc_eq_grow, alloc_eq_grow, grow_grow]; rfl⟩
theorem swoHo : SWO (ltOf cfH) where
  irrefl x := by unfold ltOf cfH; rw [cmpT_zero.2 rfl]; rfl
  trans x y z h1 h2 := by
    unfold ltOf cfH at *
    simp only [decide_eq_true_eq] at *
    have h := cmpT_trans (a := x.name) (b := y.name) (c := z.name) (by omega) (by omega)
    rcases Int.lt_or_eq_of_le h.1 with h3 | h3
    · exact h3
    · have := (h.2 h3).1; omega
  ntrans x y z h1 h2 := by
    unfold ltOf cfH at *
    simp only [decide_eq_false_iff_not] at *
    have e1 := cmpT_neg x.name y.name
    have e2 := cmpT_neg y.name z.name
    have e3 := cmpT_neg x.name z.name
    have h := cmpT_trans (a := z.name) (b := y.name) (c := x.name) (by omega) (by omega)
    omega
theorem flat_four : ∀ {l : List Hld} {i j : Nat} {x : Hld}, l[i]? = some x → j < 4 → (l.flatMap Hld.cells)[i * 4 + j]? = x.cells[j]?
  | [], _, _, _, h, _ => by simp at h
  | y :: l, 0, j, x, h, hj => by
    simp at h
    subst h
    rw [List.flatMap_cons, List.getElem?_append_left (by simp [Hld.cells]; omega)]
    simp
  | y :: l, i + 1, j, x, h, hj => by
    rw [List.flatMap_cons, List.getElem?_append_right (by simp [Hld.cells]; omega)]
    have e : (i + 1) * 4 + j - y.cells.length = i * 4 + j := by simp [Hld.cells]; omega
    rw [e]
    exact flat_four (by simpa using h) hj
theorem HoRow.holds {B : Nat} {w : World} {v : Value} {l : List Hld} (h : HoRow B w v l) : (v = .slice none 0 0 ∧ l = []) ∨ ∃ g cap, v = .slice (some ⟨g, 0, none⟩) l.length cap ∧ B ≤ g ∧ g < w.heap.size ∧ HoldsK Hld.cells 4 w g 0 l.toArray := by
  rcases h.2 with ⟨rfl, h0⟩ | ⟨g, cap, cur, rfl, hb, hg, hnc, _, hcs, ht⟩
  · exact .inl ⟨rfl, List.length_eq_zero_iff.1 h0⟩
  · refine .inr ⟨g, cap, rfl, hb, lt_of_block hg, fun j hj => ?_⟩
    rw [size_flatK] at hj
    have hj' : j < l.length * 4 := by simpa using hj
    refine ⟨?_, by simp [World.frozen?, hg]⟩
    have hi : l[j / 4]? = some l[j / 4]! := by
      have : j / 4 < l.length := by omega
      rw [List.getElem?_eq_getElem this, getElem!_pos l (j / 4) this]
    rw [Nat.zero_add, h.cellAt j (by omega)]
    have hj2 : j = j / 4 * 4 + j % 4 := by omega
    have hget := flat_four hi (j := j % 4) (by omega)
    rw [← hj2] at hget
    rw [hget, get_flatK Hld.cells 4 l.toArray j (by simpa using hj')]
    have hc : (l.toArray[j / 4]! : Hld) = l[j / 4]! := by simp
    rw [hc]
    have h4 : j % 4 < (l[j / 4]!).cells.length := by simp [Hld.cells]; omega
    rw [List.getElem?_eq_getElem h4, getElem!_pos (l[j / 4]!).cells (j % 4) h4]
    rfl
theorem only_sortedK {w : World} {g m : Nat} {d : Array Hld} {os : Array Obj} : Only (fun k => k = g) w (sortWorldK Hld.cells 4 w g 0 m d os) := by
  refine ⟨rfl, rfl, rfl, by simp [sortWorldK, putRowK], fun k hk hne => ?_⟩
  unfold sortWorldK putRowK
  rw [heap_grow_old _ _ (by simpa using hk)]
  show (mapBlock (Sort.ahead w m) g _).heap[k]? = _
  unfold mapBlock
  show (w.heap.modify g _)[k]? = _
  rw [Array.getElem?_modify, if_neg (fun e => hne e.symm)]
set_option maxHeartbeats 2000000 in
theorem hosort_any {B : Nat} {w : World} {v : Value} {l : List Hld} (h : HoRow B w v l) (hn : l.length < 4611686018427387904) :
    Calls Tryz.prog 113 #[v, .func (.func 84) #[] #[]] w fun e w' => e = .returned (.tuple #[]) ∧ ∃ xs, xs.Perm l ∧ xs.Pairwise (fun x y => cmpT x.name y.name ≤ 0) ∧ HLies w' v xs ∧ Only (fun k => v.ownBlock = some k) w w' := by
  rcases h.holds with ⟨rfl, rfl⟩ | ⟨g, cap, rfl, hB, hg, hH⟩
  · refine (AnyF.slices_SortFunc_none laysHo none 0 (.func (.func 84) #[] #[]) w).mono ?_
    rintro e w' ⟨rfl, rfl⟩
    exact ⟨rfl, [], .refl _, .nil, ⟨none, 0, 0, 0, rfl, fun h => absurd rfl h, fun i x h => by simp at h⟩, Only.refl _ _⟩
  · have hc := AnyQ.slices_SortFunc laysHo 4 Tryz.isAgg60 Tryz.sizeOf60 Hld.cells (fun _ => rfl) (fun x v hv => by simp [Hld.cells] at hv; rcases hv with rfl | rfl | rfl | rfl <;> rfl) cfH swoHo 84 #[] g 0 cap l.toArray w (enters_of Tryz.func84 (by kernel_rfl) rfl) (fun _ _ _ _ x y => hocmp_any x y _) hH hg (by simpa using hn)
    refine hc.mono ?_
    rintro e w' ⟨rfl, d', m, os, hp, hs, rfl⟩
    have hsz : d'.size = l.length := by have := hp.1; simpa using this
    have hperm : d'.toList.Perm l := by
      have h1 := hp.2.2
      rw [show d'.extract 0 l.toArray.size = d' by rw [← hp.1]; simp, show l.toArray.extract 0 l.toArray.size = l.toArray by simp] at h1
      simpa using h1
    have hlen : d'.toList.length = l.length := by rw [Array.length_toList]; exact hsz
    refine ⟨rfl, d'.toList, hperm, ?_, ?_, only_sortedK.mono (fun k _ hk => by rw [hk]; rfl)⟩
    · rw [List.pairwise_iff_getElem]
      intro i j hi hj hij
      have h2 := hs i j (Nat.zero_le _) hij (by simp only [List.size_toArray]; omega)
      unfold ltOf cfH at h2
      rw [getElem!_pos d' j (by simpa using hj), getElem!_pos d' i (by simpa using hi)] at h2
      simp only [decide_eq_false_iff_not] at h2
      have := cmpT_neg d'[i].name d'[j].name
      simp only [Array.getElem_toList]
      omega
    · refine ⟨some ⟨g, 0, none⟩, g, 0, cap, by rw [hlen], fun _ => rfl, fun i x hx j u hu => ?_⟩
      have hi : i < d'.size := by have := (List.getElem?_eq_some_iff.1 hx).1; simpa using this
      have hj : j < 4 := by have := (List.getElem?_eq_some_iff.1 hu).1; simpa [Hld.cells] using this
      have hw : HoldsK Hld.cells 4 (sortWorldK Hld.cells 4 w g 0 m d' os) g 0 d' := holdsK_grow _ _ _ _ _ _ _ (by simpa [putRowK] using hg) (holdsK_putRowK _ _ _ _ _ l.toArray _ (holdsK_ahead _ _ w m g 0 _ hH) (by simpa using hsz))
      have h3 := (hw.cell hi hj).1
      rw [h3]
      obtain ⟨hi', rfl⟩ := List.getElem?_eq_some_iff.1 hx
      obtain ⟨hj', rfl⟩ := List.getElem?_eq_some_iff.1 hu
      rw [getElem!_pos d' i hi]
      simp only [Array.getElem_toList] at hj' ⊢
      rw [getElem!_pos _ j hj']
end Go.Proofs.YthbdchleppbidaaGreat
/- Package hold: All: the holds of a table, rising by their names. -/
namespace Go.Proofs.YthbdchleppbidaaGreat
open Go.RowKit Go.Maps Go.Shelf

attribute [local go_sem] Oper.semAt_some

set_option maxRecDepth 1000000 in
set_option maxHeartbeats 8000000 in
theorem vals_none (n Bm : Nat) (w : World) (hB : w.heap[Bm]? = some (.cells #[.map none] 92 (0, 0))) :
    SeqStopsK Fence.wide n Tryz.prog 114 #[.pointer (some ⟨Bm, 0, none⟩)] (fun h : Hld => #[h.val]) KeepsWalks (fun xs => xs.Perm []) (fun _ => True) 0 w := fun id J Jx W hW hJ hJx hY h0 => by
  have hBW : W.cell? ⟨Bm, 0, none⟩ = some (.map none) := (cells1 ((hW.block Bm (lt_of_block hB)).trans hB)).1
  have hr := fun w => run_range_nilMap (P := Tryz.prog) w 92 _ _ mapT
  have hnx := run_next_nilMap (P := Tryz.prog) W
  have HJ1 : Hid (J [] (W.alloc (.mapIter none 0 #[] 0))) := Lib.hid (hJ [] W _ none h0 (World.grownBy_alloc _ _ _) (fun r e => by cases e))
  clear hB hJ hJx hY
  refine callsIn_of_wp Tryz.func114 rfl trivial ?_ rfl
  simp only [Tryz.ntmps114, List.size_toArray, List.length_cons, List.length_nil, Nat.reduceAdd, Nat.reduceSub, Array.replicate_succ, Array.replicate_zero, List.push_toArray, List.append_toArray, List.nil_append, List.cons_append]
  gi_wp2
  gi_loopw [4] (fun _ wr => wr = W.alloc (.mapIter none 0 #[] 0)) (fun _ _ => 0)
  case atStart => rfl
  case round =>
    subst hrel
    gi_wp2
    go_end0
    exact ⟨⟨_, rfl⟩, .inl ⟨[], .refl _, HJ1.out⟩⟩
/-- what comes of a map, there or not -/
theorem vals_any (n Bm : Nat) {w : World} {b : Option Nat} {m : List Hld} (hn : 1 ≤ n) (hB : w.heap[Bm]? = some (.cells #[.map b] 92 (0, 0))) (hi : ∀ g, b = some g → MapIs w g m) (h0 : b = none → m = []) (t : TabM m) :
    SeqStopsK Fence.wide n Tryz.prog 114 #[.pointer (some ⟨Bm, 0, none⟩)] (fun h : Hld => #[h.val]) KeepsWalks (fun xs => xs.Perm m) (fun _ => True) m.length w := by
  cases b with
  | some g => exact vals_some n Bm g w m hn hB (hi g rfl) t
  | none =>
    have hm := h0 rfl
    subst hm
    exact vals_none n Bm w hB
theorem horises_of {m xs : List Hld} (t : TabM m) (hp : xs.Perm m) (hs : xs.Pairwise fun x y => cmpT x.name y.name ≤ 0) : RisesH xs := by
  have hu : xs.Pairwise fun x y => x.name ≠ y.name := (hp.pairwise_iff (fun {x y} (hxy : x.name ≠ y.name) => Ne.symm hxy)).2 t.uniq
  refine (hs.and hu).imp fun {x y} ⟨h1, h2⟩ => ?_
  rcases Int.lt_or_eq_of_le h1 with h3 | h3
  · exact h3
  · exact absurd (cmpT_zero.1 h3) h2
set_option maxHeartbeats 4000000 in
theorem hosorted_any {w : World} {Bm : Nat} {b : Option Nat} {m : List Hld} (hB : w.heap[Bm]? = some (.cells #[.map b] 92 (0, 0))) (hi : ∀ g, b = some g → MapIs w g m) (h0 : b = none → m = []) (t : TabM m) :
    Calls Tryz.prog 81 #[.func (.func 114) #[] #[.pointer (some ⟨Bm, 0, none⟩)], .func (.func 84) #[] #[]] w fun e w' =>
      ∃ v xs, e = .returned v ∧ xs.Perm m ∧ RisesH xs ∧ HLies w' v xs ∧ (∀ k, v.ownBlock = some k → w.heap.size ≤ k ∧ k < w'.heap.size) ∧ Below w.heap.size w w' := by
  have HC := Lib.hid (hocollect_any (w := w) (m := m) (by have := t.few; omega) (vals_any 3 Bm (by omega) hB hi h0 t))
  have HS : Hid (∀ W v (l : List Hld), HoRow w.heap.size W v l → l.Perm m → Calls Tryz.prog 113 #[v, .func (.func 84) #[] #[]] W fun e w' => e = .returned (.tuple #[]) ∧ ∃ xs, xs.Perm l ∧ xs.Pairwise (fun x y => cmpT x.name y.name ≤ 0) ∧ HLies w' v xs ∧ Only (fun k => v.ownBlock = some k) W w') := Lib.hid fun W v l hr hp => hosort_any hr (by have := t.few; have := hp.length_eq; omega)
  have HT := Lib.hid t
  clear hB hi h0 t
  go_enter Tryz.func81, Tryz.ntmps81
  go_wp2_with fail
  refine HC.out.mono ?_
  rintro e W1 ⟨v, l, rfl, hr, hp, hb⟩
  have HR := Lib.hid hr
  have HP := Lib.hid hp
  have HB := Lib.hid hb
  have HS1 := Lib.hid (HS.out W1 v l hr hp)
  obtain ⟨a, c, ea⟩ := own_slice hr
  subst ea
  clear hr hp hb HC HS
  go_wp2_with fail
  refine HS1.out.mono ?_
  rintro e W2 ⟨rfl, xs, hp2, hs2, hl2, ho2⟩
  have HX : Hid (xs.Perm m ∧ RisesH xs) := Lib.hid ⟨hp2.trans HP.out, horises_of HT.out (hp2.trans HP.out) hs2⟩
  have HL2 := Lib.hid hl2
  have HO2 := Lib.hid ho2
  clear hp2 hs2 hl2 ho2
  go_wp2_with fail
  go_ret
  exact ⟨_, xs, rfl, HX.out.1, HX.out.2, HL2.out, fun k hk => ⟨(HR.out.lt k hk).1, Nat.lt_of_lt_of_le (HR.out.lt k hk).2 HO2.out.size⟩, HB.out.trans (HO2.out.below HB.out.size (fun k hk => (HR.out.lt k hk).1))⟩
theorem hovalues_any (w : World) (b : Option Nat) : Calls Tryz.prog 82 #[.map b] w fun e w' => e = .returned (.func (.func 114) #[] #[.pointer (some ⟨w.heap.size, 0, none⟩)]) ∧ w' = w.alloc (.cells #[.map b] 92) := by
  go_enter Tryz.func82, Tryz.ntmps82
  go_wp2_with fail
  go_ret
  exact ⟨rfl, rfl⟩
/-- what All hands back: a function over a list of its own -/
def AllAt (w w' : World) (m : List Hld) (v : Value) (B : Nat) (xs : List Hld) : Prop :=
  w'.heap[B]? = some (.cells #[v] 23 (0, 0)) ∧ w.heap.size ≤ B ∧ xs.Perm m ∧ RisesH xs ∧ HLies w' v xs ∧ (∀ k, v.ownBlock = some k → w.heap.size ≤ k ∧ k < w'.heap.size) ∧ Below w.heap.size w w'
set_option maxHeartbeats 4000000 in
theorem hoall_of {w : World} {rv : Value} {b : Option Nat} {m : List Hld} (hh : Calls Tryz.prog 83 #[rv] w fun e w' => e = .returned (.map b) ∧ w' = w) (hi : ∀ g, b = some g → MapIs w g m) (h0 : b = none → m = []) (t : TabM m) :
    Calls Tryz.prog 40 #[rv] w fun e w' => ∃ B v xs, e = .returned (.func (.func 86) #[] #[.pointer (some ⟨B, 0, none⟩)]) ∧ AllAt w w' m v B xs := by
  have HH := Lib.hid hh
  have HV := Lib.hid (hovalues_any w b)
  have hb0 : Below w.heap.size w (w.alloc (.cells #[.map b] 92)) := (Below.refl _ _).alloc (Nat.le_refl _) _
  have HS := Lib.hid (hosorted_any (w := w.alloc (.cells #[.map b] 92)) (Bm := w.heap.size) (b := b) (m := m) (heap_alloc_new w _) (fun g hg => (hi g hg).below hb0) h0 t)
  have HB0 := Lib.hid hb0
  clear hh hi h0 t hb0
  go_enter Tryz.func40, Tryz.ntmps40
  go_wp2_with (first | (go_at_call 83; refine (HH.out).mono ?_; rintro e W1 ⟨rfl, hw1⟩; replace hw1 := hw1.symm; subst hw1) | (go_at_call 82; refine (HV.out).mono ?_; rintro e W1 ⟨rfl, rfl⟩) | (go_at_call 81; refine (HS.out).mono ?_; rintro e W2 ⟨v, xs, rfl, hp, hs, hl, hk, hb⟩; have HP := Lib.hid hp; have HRI := Lib.hid hs; have HL := Lib.hid hl; have HK := Lib.hid hk; have HB := Lib.hid (HB0.out.trans (hb.mono HB0.out.size)); obtain ⟨a, c, ea⟩ := hl.slice; obtain ⟨n, hn⟩ : ∃ n, n = xs.length := ⟨_, rfl⟩; rw [← hn] at ea; subst ea; clear hp hs hl hk hb hn))
  go_ret
  refine ⟨W2.heap.size, _, xs, rfl, heap_alloc_new W2 _, HB.out.size, HP.out, HRI.out, HL.out.beyond ((Below.refl _ _).alloc (Nat.le_refl _) _), fun k hk => ?_, HB.out.alloc HB.out.size _⟩
  have h1 := HK.out k hk
  have h2 := HB0.out.size
  simp
  omega
theorem hoall_any {w : World} {p : Nat} {b : Option Nat} {m : List Hld} (h : TabAt w p b m) (t : TabM m) :
    Calls Tryz.prog 40 #[.pointer (some ⟨p, 0, none⟩)] w fun e w' => ∃ B v xs, e = .returned (.func (.func 86) #[] #[.pointer (some ⟨B, 0, none⟩)]) ∧ AllAt w w' m v B xs := hoall_of (hoheld_any h) h.own h.nil0 t
theorem hoall_none (w : World) :
    Calls Tryz.prog 40 #[.pointer none] w fun e w' => ∃ B v xs, e = .returned (.func (.func 86) #[] #[.pointer (some ⟨B, 0, none⟩)]) ∧ AllAt w w' [] v B xs := hoall_of (hoheld_none w) (fun g h => by cases h) (fun _ => rfl) TabM.nil
end Go.Proofs.YthbdchleppbidaaGreat
/- Package hold: All, as a range over a function is told it: the holds one by one. -/
namespace Go.Proofs.YthbdchleppbidaaGreat
open Go.RowKit Go.Maps Go.Shelf

attribute [local go_sem] Oper.semAt_some

theorem KeepV.beyond {v : Value} {W W' : World} {n : Nat} (hv : ∀ k, v.ownBlock = some k → k < n) (hb : Below n W W') : KeepV v W W' := fun k hk => hb.block k (hv k hk)
theorem KeepV.lt {v : Value} {W W' : World} (h : KeepV v W W') (hv : ∀ k, v.ownBlock = some k → k < W.heap.size) : ∀ k, v.ownBlock = some k → k < W'.heap.size := fun k hk => by
  have h1 := h k hk
  rw [Array.getElem?_eq_getElem (hv k hk)] at h1
  exact (Array.getElem?_eq_some_iff.1 h1).1
theorem KeepV.lies {v : Value} {W W' : World} {l : List Hld} (h : KeepV v W W') (hl : HLies W v l) : HLies W' v l := by
  obtain ⟨a, b, off, c, rfl, h2, h3⟩ := hl
  refine ⟨a, b, off, c, rfl, h2, fun i x hx j u hu => ?_⟩
  have hne : l ≠ [] := by rintro rfl; simp at hx
  have ea := h2 hne
  have hc := h3 i x hx j u hu
  rw [← hc]
  unfold World.cell?
  rw [h b (by rw [ea]; rfl)]
set_option maxRecDepth 1000000 in
set_option maxHeartbeats 8000000 in
theorem hoall_seq (n B : Nat) (w : World) (v : Value) (l : List Hld) (hn : 2 ≤ n) (hB : w.heap[B]? = some (.cells #[v] 23 (0, 0))) (hr : HLies w v l) (hv : ∀ k, v.ownBlock = some k → k < w.heap.size) (hl : l.length ≤ 1000000) (hsm : ∀ h ∈ l, h.name.size ≤ 16 ∧ h.ser.size ≤ 16) :
    SeqStopsK Fence.wide n Tryz.prog 86 #[.pointer (some ⟨B, 0, none⟩)] (fun i : Fin l.length => #[l[i].val]) (KeepV v) (fun xs => xs = List.finRange l.length) (fun pre => ∃ k, k ≤ l.length ∧ pre = uptoN l.length k) l.length w := fun id J Jx W hW hJ hJx hY h0 => by
  have hBW : W.cell? ⟨B, 0, none⟩ = some v := (cells1 ((hW.block B (lt_of_block hB)).trans hB)).1
  have HRW : Hid (HLies W v l) := Lib.hid (hr.beyond hW)
  have HVW : Hid (∀ k, v.ownBlock = some k → k < W.heap.size) := Lib.hid fun k hk => Nat.lt_of_lt_of_le (hv k hk) hW.size
  obtain ⟨a2, c2, e2⟩ := hr.slice
  have HV := Lib.hid e2
  rw [e2] at hBW
  have HJ := Lib.hid hJ
  have HY := Lib.hid hY
  have HSM := Lib.hid hsm
  clear hB hr hJ hY hJx e2 hv hsm hW
  refine callsIn_of_wp Tryz.func86 rfl trivial ?_ rfl
  simp only [Tryz.ntmps86, List.size_toArray, List.length_cons, List.length_nil, Nat.reduceAdd, Nat.reduceSub, Array.replicate_succ, Array.replicate_zero, List.push_toArray, List.append_toArray, List.nil_append, List.cons_append]
  gi_wp2
  gi_loopw [7] (fun i wr => ∃ k : Nat, k ≤ l.length ∧ i = .int .i64 (k : Int) ∧ J (uptoN l.length k) wr ∧ KeepV v W wr) (fun i _ => l.length - (intOf i).toNat)
  case atStart => exact ⟨0, Nat.zero_le _, rfl, by rw [uptoN_zero]; exact h0, fun _ _ => rfl⟩
  case round =>
    obtain ⟨k, hk, rfl, hJs, hnx⟩ := hrel
    have HNX := Lib.hid hnx
    have HJS := Lib.hid hJs
    have HVR : Hid (∀ j, v.ownBlock = some j → j < wr.heap.size) := Lib.hid (hnx.lt HVW.out)
    clear hnx hJs
    by_cases hlt : k < l.length
    · obtain ⟨a, b, off, c, ev, ea, hcells⟩ := HNX.out.lies HRW.out
      have e3 := HV.out
      rw [ev] at e3
      injection e3 with e3 _ e4
      have ea := ea (by intro e; rw [e] at hlt; simp at hlt)
      rw [e3] at ea
      subst ea
      obtain ⟨p, hp⟩ : ∃ p, p = l[k] := ⟨_, rfl⟩
      have hpk : l[k]? = some p := by rw [List.getElem?_eq_getElem hlt, hp]
      have x0 := hcells k p hpk 0 _ rfl
      rw [Nat.add_zero] at x0
      have x1 := hcells k p hpk 1 _ rfl
      have x2 := hcells k p hpk 2 _ rfl
      have x3 := hcells k p hpk 3 _ rfl
      have hps := HSM.out p (by rw [hp]; exact List.getElem_mem hlt)
      have HP := Lib.hid hp
      clear hcells ev e3 e4 hp hpk
      have hmax : k < 9223372036854775807 := by omega
      obtain ⟨W2, hW2⟩ : ∃ W2, W2 = wr.alloc (.cells #[.string p.name, .string p.ser, .int .i64 p.a, .int .i64 p.b] 60) := ⟨_, rfl⟩
      have hb2 : Below wr.heap.size wr W2 := by rw [hW2]; exact (Below.refl _ _).alloc (Nat.le_refl _) _
      have HAP := Lib.hid (hoapart_any W2 p.name p.ser p.a p.b (by omega) (by omega))
      have HB2 := Lib.hid hb2
      have HJ2 : Hid (J (uptoN l.length k) W2) := Lib.hid (HJ.out _ wr _ none HJS.out (grown_of hb2 (Nat.le_refl _)) (fun r e => by cases e))
      have HYK : Hid (∀ W3, Below W2.heap.size W2 W3 → YieldAt Fence.wide (n - 1) Tryz.prog id #[p.val] W3 fun e W' => (e = .returned (.bool true) ∧ J (uptoN l.length (k + 1)) W' ∧ KeepV v W3 W') ∨ (e = .returned (.bool false) ∧ Jx (uptoN l.length (k + 1)) W')) := Lib.hid fun W3 hb3 => by
        have := HY.out _ ⟨k, hlt⟩ W3 (HJ.out _ W2 W3 none HJ2.out (grown_of hb3 (Nat.le_refl _)) (fun r e => by cases e)) (by rw [uptoN_length hk]; exact hlt)
        rw [← uptoN_succ hlt] at this
        rw [HP.out]
        exact this
      rw [hW2] at HAP HYK HB2
      clear hb2 hW2 hps
      obtain ⟨nm, se, pa, pb⟩ := p
      unfold Hld.val at HYK
      dsimp only at *
      gi_wp2_with fail
      refine ⟨trivial, fun _ => by omega, ?_⟩
      refine (callsIn_wide.2 HAP.out).mono ?_
      rintro e W3 ⟨rfl, hb3⟩
      have HB3 := Lib.hid (HB2.out.trans (hb3.mono HB2.out.size))
      obtain ⟨fn, tmps, assign, body, hy, hR⟩ := HYK.out W3 hb3
      clear hb3
      dsimp only
      gi_wp2_with fail
      refine ⟨fun _ => by omega, hR.mono ?_⟩
      rintro e W4 (⟨rfl, hJ4, hk4⟩ | ⟨rfl, hJx4⟩)
      · have HJ4 := Lib.hid hJ4
        have HK4 : Hid (KeepV v W W4) := Lib.hid (HNX.out.trans ((KeepV.beyond (n := wr.heap.size) HVR.out HB3.out).trans hk4))
        clear hJ4 hk4
        dsimp only
        gi_wp2_with fail
        go_roundw
        case rel => exact ⟨k + 1, by omega, by go_num, HJ4.out, HK4.out⟩
        case measure => simp [intOf]; omega
      · dsimp only
        gi_wp2
        refine bodyPost_ret (results_none rfl _ _ _) rfl ?_
        exact ⟨⟨_, rfl⟩, .inr ⟨_, ⟨k + 1, by omega, rfl⟩, hJx4⟩⟩
    · obtain rfl : k = l.length := by omega
      gi_wp2
      go_end0
      exact ⟨⟨_, rfl⟩, .inl ⟨_, uptoN_all _, HJS.out⟩⟩
end Go.Proofs.YthbdchleppbidaaGreat
/- The marks that ranges over functions leave, taken at a function's end: however many. -/
namespace Go.Proofs.YthbdchleppbidaaGreat
open Go.RowKit Go.Shelf

theorem ret_markb {fn : Func} {p : Tmp} (h : fn.results = #[.cell p 4]) {tmps : Array Value} {w : World} {Q : Nat} {b : Bool} (hp : tmps.getD p undef = .pointer (some ⟨Q, 0, none⟩)) (hq : w.cell? ⟨Q, 0, none⟩ = some (.bool b)) :
    (results fn tmps).run Tryz.prog w = .ok (.bool b) w := by
  rw [results_cell h, hp]
  go_simp
def markOf (K : Nat) : Deferred := { target := .collected K, args := #[] }
/-- marks, each on a block of its own that holds nothing deferred -/
def MarksAt (n₀ : Nat) (ds : List Deferred) (W : World) : Prop := ∃ Ks : List Nat, ds = Ks.map markOf ∧ Ks.Nodup ∧ ∀ K ∈ Ks, n₀ ≤ K ∧ W.heap[K]? = some (.deferred (some []))
theorem MarksAt.nil (n₀ : Nat) (W : World) : MarksAt n₀ [] W := ⟨[], rfl, .nil, by simp⟩
theorem MarksAt.lt {n₀ : Nat} {ds : List Deferred} {W : World} (h : MarksAt n₀ ds W) : ∃ Ks : List Nat, ds = Ks.map markOf ∧ ∀ K ∈ Ks, K < W.heap.size := by
  obtain ⟨Ks, h1, _, h3⟩ := h
  exact ⟨Ks, h1, fun K hK => (Array.getElem?_eq_some_iff.1 (h3 K hK).2).1⟩
theorem MarksAt.only {S : Nat → Prop} {n₀ : Nat} {ds : List Deferred} {W W' : World} (h : MarksAt n₀ ds W) (ho : Only S W W') (hS : ∀ K o, W.heap[K]? = some (.deferred o) → ¬ S K) : MarksAt n₀ ds W' := by
  obtain ⟨Ks, h1, h2, h3⟩ := h
  exact ⟨Ks, h1, h2, fun K hK => ⟨(h3 K hK).1, (ho.block K (Array.getElem?_eq_some_iff.1 (h3 K hK).2).1 (hS K _ (h3 K hK).2)).trans (h3 K hK).2⟩⟩
theorem MarksAt.below {n₀ : Nat} {ds : List Deferred} {W W' : World} (h : MarksAt n₀ ds W) (hb : Below W.heap.size W W') : MarksAt n₀ ds W' := by
  obtain ⟨Ks, h1, h2, h3⟩ := h
  exact ⟨Ks, h1, h2, fun K hK => ⟨(h3 K hK).1, (hb.block K (Array.getElem?_eq_some_iff.1 (h3 K hK).2).1).trans (h3 K hK).2⟩⟩
theorem MarksAt.cons {n₀ K : Nat} {ds : List Deferred} {W W' : World} (h : MarksAt n₀ ds W) (hb : Below W.heap.size W W') (hK : W.heap.size ≤ K) (hn : n₀ ≤ W.heap.size) (hg : W'.heap[K]? = some (.deferred (some []))) : MarksAt n₀ (markOf K :: ds) W' := by
  obtain ⟨Ks, rfl, h2, h3⟩ := h
  refine ⟨K :: Ks, rfl, List.nodup_cons.2 ⟨fun hm => ?_, h2⟩, fun J hJ => ?_⟩
  · have := (Array.getElem?_eq_some_iff.1 (h3 K hm).2).1; omega
  · rcases List.mem_cons.1 hJ with rfl | hJ
    · exact ⟨by omega, hg⟩
    · exact ⟨(h3 J hJ).1, (hb.block J (Array.getElem?_eq_some_iff.1 (h3 J hJ).2).1).trans (h3 J hJ).2⟩
theorem marks_leave {fn : Func} {p : Tmp} (hf : fn.results = #[.cell p 4]) {tmps : Array Value} {Q : Nat} {b : Bool} (hp : tmps.getD p undef = .pointer (some ⟨Q, 0, none⟩)) {w : World} {n₀ : Nat} :
    ∀ (Ks : List Nat) (W : World), Ks.Nodup → (∀ K ∈ Ks, n₀ ≤ K ∧ W.heap[K]? = some (.deferred (some []))) → W.heap[Q]? = some (.cells #[.bool b] 4 (0, 0)) → Below n₀ w W → n₀ ≤ W.heap.size →
      LeavesInM Fence.wide 4 Tryz.prog fn tmps (fun e w' => e = .returned (.bool b) ∧ Below n₀ w w') (Ks.map markOf) .returning W
  | [], W, _, _, hq, hb, _ => ⟨_, ret_markb hf hp (cells1 hq).1, rfl, hb⟩
  | K :: Ks, W, hnd, hK, hq, hb, hn => by
    have h1 := hK K (by simp)
    have hnd2 := List.nodup_cons.1 hnd
    refine ⟨by simp, .inl ⟨K, _, rfl, run_takeDeferred h1.2, ?_⟩⟩
    have hlt := (Array.getElem?_eq_some_iff.1 h1.2).1
    have hsz : (W.putObj K (.deferred none)).heap.size = W.heap.size := by simp [World.putObj]
    refine marks_leave hf hp Ks _ hnd2.2 (fun J hJ => ⟨(hK J (by simp [hJ])).1, ?_⟩) ?_ (hb.grown (grownBy_putObj' W K _) hn (fun k e => by cases e; exact h1.1)) (by omega)
    · have hne : J ≠ K := fun e => hnd2.1 (e ▸ hJ)
      exact (World.putObj_heap_other hne).trans (hK J (by simp [hJ])).2
    · have hne : Q ≠ K := fun e => by rw [e, h1.2] at hq; cases hq
      exact (World.putObj_heap_other hne).trans hq
/-- the end of a function behind marks, which tells what a variable of its own holds -/
theorem marks_end {fn : Func} {p : Tmp} (hf : fn.results = #[.cell p 4]) {a : Act} {Q : Nat} {b : Bool} {w W : World} {n₀ : Nat} (hp : a.tmps.getD p undef = .pointer (some ⟨Q, 0, none⟩)) (hm : MarksAt n₀ a.defers W)
    (hq : W.heap[Q]? = some (.cells #[.bool b] 4 (0, 0))) (hb : Below n₀ w W) (hn : n₀ ≤ W.heap.size) :
    bodyPostM Fence.wide 4 Tryz.prog fn (fun e w' => e = .returned (.bool b) ∧ Below n₀ w w') Exit.ret a W := by
  obtain ⟨Ks, h1, h2, h3⟩ := hm
  show LeavesInM Fence.wide 4 Tryz.prog fn a.tmps _ a.defers .returning W
  rw [h1]
  exact marks_leave hf hp Ks W h2 h3 hq hb hn
end Go.Proofs.YthbdchleppbidaaGreat
