/- The records that sectors make, one behind the other. -/
import Derived.Test.YtngeilhdambgfaaDoorJoRows
import Derived.Test.YtngeilhdambgfaaDoorJoPlaced
import Derived.Test.YtngeilhdambgfaaDoorStJoin
namespace Go.Proofs.YtngeilhdambgfaaDoor
open Go.RowKit

/-- the records of sectors, these bytes of one of them ahead -/
def recsL : List Nat → List Sec → List (List Nat)
  | _, [] => []
  | acc, s :: l => if s.last = true then (acc ++ s.data) :: recsL [] l else recsL (acc ++ s.data) l
theorem readJ_recs (t : Nat) (L : List (List Nat)) : ∀ k acc, readJ t k acc L = recsL acc (placedL t k L) := by
  induction L with
  | nil => intro k acc; rfl
  | cons b L ih =>
    intro k acc
    rw [readJ_cons]
    unfold placedL
    by_cases h : accB t k b = true
    · rw [if_pos h, if_pos h]
      unfold recsL
      rw [ih, ih]
    · rw [if_neg h, if_neg h]; rfl
theorem stOf_data (b : List Nat) : (stOf b).data.length ≤ 47 := by
  unfold stOf
  split
  · simp only [stRowOf, List.length_take]; omega
  · simp [Sec.none]
theorem placedL_run (t : Nat) (L : List (List Nat)) : ∀ k i x, (placedL t k L)[i]? = some x → x.turn = t ∧ x.place = k + i ∧ x.data.length ≤ 47 := by
  induction L with
  | nil => intro k i x h; simp [placedL] at h
  | cons b L ih =>
    intro k i x h
    unfold placedL at h
    by_cases hb : accB t k b = true
    · rw [if_pos hb] at h
      cases i with
      | zero =>
        rw [List.getElem?_cons_zero] at h
        cases h
        unfold accB at hb
        simp only [Bool.and_eq_true, decide_eq_true_eq] at hb
        exact ⟨hb.1.2, by rw [hb.2]; rfl, stOf_data b⟩
      | succ i =>
        rw [List.getElem?_cons_succ] at h
        obtain ⟨h1, h2, h3⟩ := ih (k + 1) i x h
        exact ⟨h1, by omega, h3⟩
    · rw [if_neg hb] at h; simp at h
theorem dataL_len {l : List Sec} (h : ∀ s ∈ l, s.data.length ≤ 47) : (dataL l).length ≤ 47 * l.length := by
  induction l with
  | nil => simp [dataL]
  | cons s l ih =>
    have h1 := h s List.mem_cons_self
    have h2 := ih (fun x hx => h x (List.mem_cons_of_mem _ hx))
    unfold dataL at h2 ⊢
    rw [List.flatMap_cons, List.length_append, List.length_cons]
    omega
/-- the sectors since the last one that was marked -/
def sinceL (l : List Sec) (p i : Nat) : List Sec := (l.drop p).take (i - p)
theorem since_next {l : List Sec} {p i : Nat} {s : Sec} (hp : p ≤ i) (hs : l[i]? = some s) : sinceL l p (i + 1) = sinceL l p i ++ [s] := by
  unfold sinceL
  rw [show i + 1 - p = (i - p) + 1 by omega]
  exact take_more (by rw [List.getElem?_drop, show p + (i - p) = i by omega]; exact hs)
theorem since_get {l : List Sec} {p i j : Nat} (hj : j < i - p) : (sinceL l p i)[j]? = l[p + j]? := by
  unfold sinceL
  rw [List.getElem?_take_of_lt hj, List.getElem?_drop]
theorem since_length {l : List Sec} {p i : Nat} (hi : i ≤ l.length) : (sinceL l p i).length = i - p := by
  unfold sinceL
  rw [List.length_take, List.length_drop]
  omega
/-- they are a record's -/
theorem since_ok {l : List Sec} {t p i : Nat} {s : Sec} (hp : p ≤ i) (hi : i < l.length) (hl : l.length ≤ 8192) (hrun : ∀ (j : Nat) (x : Sec), l[j]? = some x → x.turn = t ∧ x.place = j ∧ x.data.length ≤ 47) (hno : ∀ (j : Nat) (x : Sec), p ≤ j → j < i → l[j]? = some x → x.last = false) (hs : l[i]? = some s) (hlast : s.last = true) : JoinOk (sinceL l p (i + 1)) := by
  have hlen := since_length (p := p) (show i + 1 ≤ l.length from hi)
  obtain ⟨s0, hs0⟩ : ∃ s0, l[p]? = some s0 := ⟨_, List.getElem?_eq_getElem (by omega)⟩
  have h0 := hrun p s0 hs0
  refine ⟨s0, by rw [since_get (by omega)]; exact hs0, by rw [hlen]; omega, fun j x hx => ?_⟩
  have hj : j < i + 1 - p := by have := (List.getElem?_eq_some_iff.1 hx).1; omega
  rw [since_get hj] at hx
  have h1 := hrun (p + j) x hx
  refine ⟨by rw [h1.1, h0.1], by rw [h1.2.1, h0.2.1], ?_⟩
  rw [hlen]
  by_cases he : p + j = i
  · rw [he, hs] at hx
    cases hx
    rw [hlast, decide_eq_true (by omega)]
  · rw [hno (p + j) x (by omega) (by omega) hx, decide_eq_false (by omega)]
theorem recs_more {l : List Sec} {p i : Nat} {s : Sec} (hp : p ≤ i) (hs : l[i]? = some s) (hl : s.last = false) : recsL (dataL (sinceL l p i)) (l.drop i) = recsL (dataL (sinceL l p (i + 1))) (l.drop (i + 1)) := by
  have hi := (List.getElem?_eq_some_iff.1 hs).1
  rw [List.drop_eq_getElem_cons hi, (List.getElem?_eq_some_iff.1 hs).2, since_next hp hs, dataL_append]
  conv => lhs; unfold recsL
  rw [if_neg (by rw [hl]; decide)]
  simp [dataL]
theorem recs_last {l : List Sec} {p i : Nat} {s : Sec} (hp : p ≤ i) (hs : l[i]? = some s) (hl : s.last = true) : recsL (dataL (sinceL l p i)) (l.drop i) = dataL (sinceL l p (i + 1)) :: recsL (dataL (sinceL l (i + 1) (i + 1))) (l.drop (i + 1)) := by
  have hi := (List.getElem?_eq_some_iff.1 hs).1
  rw [List.drop_eq_getElem_cons hi, (List.getElem?_eq_some_iff.1 hs).2, since_next hp hs, dataL_append]
  conv => lhs; unfold recsL
  rw [if_pos hl]
  simp [dataL, sinceL]
/-- a part of a row of sectors, as it lies -/
theorem part_secs {w : World} {g p i c : Nat} {r : List (Sec × Value)} (hc : ∀ j u, (rowC r)[j]? = some u → w.cell? ⟨g, j, none⟩ = some u) (hd : ∀ x ∈ r, Lies w x.2 x.1.data) (hp : p ≤ i) (hi : i ≤ r.length) : SecsAt w (.slice (some ⟨g, p * 4, none⟩) (i - p) c) ((r.drop p).take (i - p)) := by
  refine ⟨some ⟨g, p * 4, none⟩, c, by rw [List.length_take, List.length_drop]; congr 1; omega, fun _ => ⟨g, p * 4, rfl, fun j u hj => ?_⟩, fun x hx => hd x (List.mem_of_mem_drop (List.mem_of_mem_take hx))⟩
  have hjl : j < 4 * (i - p) := by
    have := (List.getElem?_eq_some_iff.1 hj).1
    rw [rowC_length, List.length_take, List.length_drop] at this
    omega
  have hj4 : j % 4 < 4 := Nat.mod_lt _ (by omega)
  obtain ⟨x, hx⟩ : ∃ x, ((r.drop p).take (i - p))[j / 4]? = some x := ⟨_, List.getElem?_eq_getElem (by rw [List.length_take, List.length_drop]; omega)⟩
  have h1 := rowC_get hx (j % 4) hj4
  rw [show 4 * (j / 4) + j % 4 = j by omega, hj] at h1
  rw [List.getElem?_take_of_lt (by omega), List.getElem?_drop] at hx
  have h2 := rowC_get hx (j % 4) hj4
  rw [← h1] at h2
  have := hc _ _ h2
  rwa [show 4 * (p + j / 4) + j % 4 = p * 4 + j by omega] at this
theorem part_fst (r : List (Sec × Value)) (p i : Nat) : ((r.drop p).take (i - p)).map Prod.fst = sinceL (r.map Prod.fst) p i := by unfold sinceL; rw [List.map_take, List.map_drop]

set_option maxRecDepth 1000000 in
set_option maxHeartbeats 8000000 in
theorem records_any {w : World} {B t : Nat} {v : Value} {r : List (Sec × Value)} (hrow : w.ownsRow B 77 4 v r.length (rowC r)) (hd : ∀ x ∈ r, Lies w x.2 x.1.data) (hrun : ∀ (i : Nat) (x : Sec), (r.map Prod.fst)[i]? = some x → x.turn = t ∧ x.place = i ∧ x.data.length ≤ 47) (hn : r.length ≤ 8192) :
    Calls Tryd.prog 29 #[v] w fun e w' => ∃ v' us, e = .returned v' ∧ RowsO w.heap.size w' v' us (recsL [] (r.map Prod.fst)) ∧ Below w.heap.size w w' := by
  obtain ⟨n, hnr⟩ : ∃ n, n = r.length := ⟨_, rfl⟩
  obtain ⟨l, hl⟩ : ∃ l, l = r.map Prod.fst := ⟨_, rfl⟩
  have hll : l.length = n := by rw [hl, List.length_map, hnr]
  rw [← hnr] at hn
  have hf : ∃ a c, v = .slice a n c ∧ n ≤ c ∧ c ≤ maxLen ∧ (n ≠ 0 → ∃ g, a = some ⟨g, 0, none⟩ ∧ g < w.heap.size ∧ ∀ j u, (rowC r)[j]? = some u → w.cell? ⟨g, j, none⟩ = some u) := by
    rcases hrow.2 with ⟨hv, h0⟩ | ⟨g, cap, cur, hv, hgb, hgg, hc1, hc2, _⟩
    · exact ⟨none, 0, by rw [hv, show n = 0 by omega], by omega, by unfold maxLen; omega, fun h => absurd (show n = 0 by omega) h⟩
    · refine ⟨_, cap, by rw [hv, hnr], by omega, hc2, fun _ => ⟨g, rfl, lt_of_block hgg, fun j u hj => ?_⟩⟩
      rw [hv] at hrow
      rw [hrow.cellAt j (by have := (List.getElem?_eq_some_iff.1 hj).1; rw [rowC_length] at this; omega), hj]
  obtain ⟨a, c, rfl, hnc, hcm, hfa⟩ := hf
  have HF := Lib.hid hfa
  have HD := Lib.hid hd
  have HR := Lib.hid hrun
  have HL := Lib.hid hl
  have HN := Lib.hid hnr
  have HC := Lib.hid hcm
  rw [← hl] at HR ⊢
  obtain ⟨i0, hi1, hi2, hi3, hi4⟩ := info_parts infoR
  have HIN := Lib.hid (And.intro hi1 (And.intro hi2 (And.intro hi3 hi4)))
  clear hrow hd hrun hl hnr hfa hi1 hi2 hi3 hi4 hcm
  go_enter Tryd.func29, Tryd.ntmps29
  go_wp2_with fail
  go_loopw [3, 4, 11] (fun va f x wr => ∃ (i p : Nat) (us : List Value) (Rd : List (List Nat)), i ≤ n ∧ p ≤ i ∧ f = .int .i64 (p : Int) ∧ x = .int .i64 (i : Int) ∧ RowsO w.heap.size wr va us Rd ∧ Rd.length ≤ i ∧ recsL [] l = Rd ++ recsL (dataL (sinceL l p i)) (l.drop i) ∧ (∀ (j : Nat) (s : Sec), p ≤ j → j < i → l[j]? = some s → s.last = false) ∧ Below w.heap.size w wr) (fun _ _ x _ => n - (intOf x).toNat)
  case atStart => exact ⟨0, 0, [], [], Nat.zero_le _, Nat.le_refl _, rfl, rfl, RowsO.nil _ _, Nat.le_refl _, by simp [sinceL, dataL], fun j s _ h => by omega, Below.refl _ _⟩
  case round =>
    obtain ⟨i, p, us, Rd, hi, hp, rfl, rfl, hro, hrl, hre, hno, hb⟩ := hrel
    have HRE := Lib.hid hre
    have HNO := Lib.hid hno
    have HB := Lib.hid hb
    obtain ⟨ma, ca, rfl⟩ := hro.slice
    obtain ⟨m, hm⟩ : ∃ m, m = Rd.length := ⟨_, rfl⟩
    rw [← hm] at hrl hro ⊢
    have HM := Lib.hid hm
    have HRO := Lib.hid hro
    clear hro hre hno hb hm
    by_cases hlt : i < n
    · obtain ⟨g, rfl, hgw, hcells⟩ := HF.out (by omega)
      obtain ⟨x, hx⟩ : ∃ x, r[i]? = some x := ⟨r[i]'(by have := HN.out; omega), List.getElem?_eq_getElem _⟩
      have hsl : l[i]? = some x.1 := by rw [HL.out, List.getElem?_map, hx]; rfl
      have HSL := Lib.hid hsl
      obtain ⟨y0, y1, y2, y3⟩ := strow_cells (w := wr) (off := 0) (fun j u hj => by rw [Nat.zero_add, ← hcells j u hj]; exact HB.out.cell (p := ⟨g, j, none⟩) hgw) hx
      have hlx := HD.out x (List.mem_of_getElem? hx)
      have hrn := HR.out i x.1 hsl
      obtain ⟨au, cu, hu⟩ := lies_len hlx
      obtain ⟨⟨tx, px, Lx, Dx⟩, ux⟩ := x
      obtain ⟨nx, hnx⟩ : ∃ q, q = Dx.length := ⟨_, rfl⟩
      simp only at y0 y1 y2 y3 hu
      rw [← hnx] at hu
      subst hu
      rw [Nat.zero_add] at y0 y1 y2 y3
      have HCE := Lib.hid hcells
      have HGW := Lib.hid hgw
      clear hx hsl hlx hrn hnx hcells
      cases Lx
      · go_wp2_with fail
        go_roundw
        case rel => exact ⟨i + 1, p, us, Rd, by omega, by omega, rfl, by simp, HRO.out.on ((Below.refl _ _).alloc (Nat.le_refl _) _), by rw [← HM.out]; omega, by rw [HRE.out, recs_more hp HSL.out rfl], fun j s h1 h2 h3 => by
          by_cases he : j = i
          · subst he; rw [HSL.out] at h3; cases h3; rfl
          · exact HNO.out j s h1 (by omega) h3, HB.out.trans (((Below.refl _ _).alloc (Nat.le_refl _) _).mono HB.out.size)⟩
        case measure => simp [intOf]; omega
      · have e1 : IntKind.i64.wrap ((i : Int) + 1) = ((i + 1 : Nat) : Int) := by rw [IntKind.wrap_i64]; omega
        have h1c : i + 1 ≤ c := by omega
        have hpi : p ≤ i + 1 := by omega
        go_wp2_with fail
        obtain ⟨W5, hW5⟩ : ∃ W, W = wr.alloc (.cells #[.int .u32 (tx : Int), .int .u32 (px : Int), .bool true, .slice au nx cu] 77) := ⟨_, rfl⟩
        rw [← hW5]
        have HB5 : Hid (Below wr.heap.size wr W5) := Lib.hid (by rw [hW5]; exact (Below.refl _ _).alloc (Nat.le_refl _) _)
        have HBW5 : Hid (Below w.heap.size w W5) := Lib.hid (HB.out.trans (HB5.out.mono HB.out.size))
        have hsecs : SecsAt W5 (.slice (some ⟨g, p * 4, none⟩) (i + 1 - p) (c - p)) ((r.drop p).take (i + 1 - p)) := part_secs (fun j u hj => by rw [← HCE.out j u hj]; exact HBW5.out.cell (p := ⟨g, j, none⟩) HGW.out) (fun x hx => lies_keep (HD.out x hx) HBW5.out) hpi (by rw [← HN.out]; omega)
        have hok : JoinOk (sinceL l p (i + 1)) := since_ok hp (by omega) (by omega) HR.out HNO.out HSL.out rfl
        have hpf := part_fst r p (i + 1)
        rw [← HL.out] at hpf
        have hmem : ∀ s ∈ sinceL l p (i + 1), s.data.length ≤ 47 ∧ s.place < 4294967296 := fun s hs => by
          obtain ⟨j, hj⟩ := List.mem_iff_getElem?.1 (List.mem_of_mem_drop (List.mem_of_mem_take hs))
          have := HR.out j s hj
          have := (List.getElem?_eq_some_iff.1 hj).1
          omega
        have hdl : (dataL (sinceL l p (i + 1))).length ≤ 1000000000 := by
          have h1 := dataL_len (fun s hs => (hmem s hs).1)
          rw [since_length (by omega)] at h1
          omega
        have hj := stjoin_any hsecs (fun x hx => (hmem x.1 (by rw [← hpf]; exact List.mem_map_of_mem hx)).2) (by rw [hpf]; exact hdl) (by rw [List.length_take, List.length_drop]; omega)
        rw [hpf] at hj
        have HJ := Lib.hid hj
        have HOK := Lib.hid hok
        have HDL := Lib.hid hdl
        obtain ⟨DL, hDL⟩ : ∃ D, D = dataL (sinceL l p (i + 1)) := ⟨_, rfl⟩
        have HDD := Lib.hid hDL
        clear hsecs hok hpf hmem hdl hj hW5 y0 y1 y2 y3 hDL
        refine HJ.out.mono ?_
        rintro e w6 (⟨_, vj, rfl, hown, hb6⟩ | ⟨hnot, _⟩)
        · rw [← HDD.out] at hown
          obtain ⟨aj, cj, rfl⟩ := own_slice hown
          obtain ⟨nj, hnj⟩ : ∃ q, q = DL.length := ⟨_, rfl⟩
          have HLJ : Hid (Lies w6 (.slice aj nj cj) DL) := Lib.hid (by rw [hnj]; exact ownsRow_lies hown)
          have HJB : Hid (∀ k, (Value.slice aj nj cj).ownBlock = some k → wr.heap.size ≤ k) := Lib.hid (fun k hk => Nat.le_trans HB5.out.size (hown.lt k (by rw [hnj] at hk; exact hk)).1)
          have HB6 : Hid (∀ o, Below wr.heap.size wr (w6.alloc o)) := Lib.hid (fun o => (HB5.out.trans (hb6.mono HB5.out.size)).alloc (Nat.le_trans HB5.out.size hb6.size) o)
          rw [← hnj]
          have HROW : Hid (wr.ownsRow w.heap.size 33 1 (.slice ma m ca) m us) := Lib.hid (by have := HRO.out.row; rwa [HRO.out.len, ← HM.out] at this)
          clear hown hb6 hnj
          dsimp only
          go_wp2_with (at_builtin; refine wpList_append_own_at _ rfl (.tmp 28) (.tmp 30) 32 rfl w.heap.size 33 i0 _ 1 24 Tryd.underlying32 HIN.out.1 HIN.out.2.1 HIN.out.2.2.1 HIN.out.2.2.2 rfl (by omega) _ m _ rfl (row_only HROW.out (only_beyond (S := fun _ => False) (HB6.out _)) (fun _ _ e => e)) ⟨w6.heap.size, 0, none⟩ 1 1 [.slice aj nj cj] rfl rfl (cell_one_new _ _ _) (by simp [Value.oneCell']) (by unfold maxLen; omega) (by omega) (Nat.le_trans HB.out.size (HB6.out _).size) ?_; intro v' w7 hown' hgrow _ hat; have HOWN := Lib.hid hown'; have HGR := Lib.hid hgrow; have HATT := Lib.hid hat; obtain ⟨g', cap', rfl⟩ := ownsRow_succ hown'; clear hown' hgrow hat)
          have hap := HRO.out.append (bs := DL) (m := m) (by rw [HRO.out.len, ← HM.out]) (HB6.out _) (lies_keep HLJ.out ((Below.refl _ _).alloc (Nat.le_refl _) _)) (fun k hk _ e => by have h1 := (HRO.out.lt e).2; have h2 := HJB.out k hk; omega) HGR.out HOWN.out HATT.out
          have HAP := Lib.hid hap
          have HB7 : Hid (Below w.heap.size w w7) := Lib.hid (by
            refine (HB.out.trans ((HB6.out _).mono HB.out.size)).grown HGR.out (Nat.le_trans HB.out.size (HB6.out _).size) (fun k hk => (HRO.out.lt hk).1))
          clear hap
          go_roundw
          case rel => exact ⟨i + 1, i + 1, us ++ [.slice aj nj cj], Rd ++ [DL], by omega, Nat.le_refl _, by simp, by simp, HAP.out, by rw [List.length_append, List.length_singleton, ← HM.out]; omega, by rw [HRE.out, recs_last hp HSL.out rfl, HDD.out, List.append_assoc]; rfl, fun j s h1 h2 => by omega, HB7.out⟩
          case measure => simp [intOf]; omega
        · exact absurd HOK.out hnot
    · obtain rfl : i = n := by omega
      go_wp2
      go_ret
      refine ⟨_, us, rfl, ?_, HB.out⟩
      have h1 := HRE.out
      rw [List.drop_of_length_le (show l.length ≤ i by omega)] at h1
      have h2 : recsL (dataL (sinceL l p i)) [] = [] := rfl
      rw [h2, List.append_nil] at h1
      rw [h1]
      exact HRO.out
end Go.Proofs.YtngeilhdambgfaaDoor
