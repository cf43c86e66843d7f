/- DelS, DelA, DelI: laid into one. -/
import Derived.Test.YthbdchleppbidaaGreatMA
import Derived.Test.YthbdchleppbidaaGreatMC
import Derived.Shelf.Abstract
import Derived.Deep.DeepCutAuto
import Derived.Handy
import Derived.Test.YthbdchleppbidaaGreatZIntRow
/- What a row holds between two rounds, while some are taken out of it. No function of the program. -/
namespace Go.Proofs.YthbdchleppbidaaGreat
open Go.RowKit

/-- what lies between two rounds: what stays in front, behind it whatever, and what isn't looked at yet -/
structure DelS {α : Type} (L M : List α) (p : α → Bool) (a b : Nat) : Prop where
  lt : a < b
  le : b ≤ L.length
  len : M.length = L.length
  front : M.take a = (L.take b).filter p
  rest : M.drop b = L.drop b
theorem DelS.get {α : Type} {L M : List α} {p : α → Bool} {a b : Nat} (h : DelS L M p a b) : M[b]? = L[b]? := by
  have e := congrArg (fun l => l[0]?) h.rest
  simpa using e
theorem drop_next {α : Type} {L M : List α} {b : Nat} (h : M.drop b = L.drop b) : M.drop (b + 1) = L.drop (b + 1) := by
  rw [← List.drop_drop, ← List.drop_drop, h]
theorem take_one {α : Type} {L : List α} {b : Nat} {x : α} (hx : L[b]? = some x) : L.take (b + 1) = L.take b ++ [x] := by rw [List.take_add_one, hx]; rfl
theorem DelS.gone {α : Type} {L M : List α} {p : α → Bool} {a b : Nat} {x : α} (h : DelS L M p a b) (hx : L[b]? = some x) (hp : p x = false) : DelS L M p a (b + 1) :=
  ⟨by have := h.lt; omega, by have := (List.getElem?_eq_some_iff.1 hx).1; omega, h.len, by rw [h.front, take_one hx, List.filter_append]; simp [hp], drop_next h.rest⟩
theorem DelS.stays {α : Type} {L M : List α} {p : α → Bool} {a b : Nat} {x : α} (h : DelS L M p a b) (hx : L[b]? = some x) (hp : p x = true) : DelS L (M.set a x) p (a + 1) (b + 1) := by
  have hb := (List.getElem?_eq_some_iff.1 hx).1
  have h1 := h.lt
  have h2 := h.len
  refine ⟨by omega, by omega, by rw [List.length_set]; exact h2, ?_, ?_⟩
  · rw [take_one (x := x) (by rw [List.getElem?_set_self (by omega)]), List.take_set_of_le (Nat.le_refl _), h.front, take_one hx, List.filter_append]
    simp [hp]
  · rw [List.drop_set_of_lt (by omega)]; exact drop_next h.rest
theorem DelS.start {α : Type} {L : List α} {p : α → Bool} {i : Nat} {x : α} (hx : L[i]? = some x) (hp : p x = false) (hb : ∀ y ∈ L.take i, p y = true) : DelS L L p i (i + 1) :=
  ⟨by omega, by have := (List.getElem?_eq_some_iff.1 hx).1; omega, rfl, by rw [take_one hx, List.filter_append, List.filter_eq_self.2 hb]; simp [hp], rfl⟩
theorem DelS.done {α : Type} {L M : List α} {p : α → Bool} {a : Nat} (h : DelS L M p a L.length) : M.take a = L.filter p := by rw [h.front, List.take_length]
/-- what stands in front stays, whatever is laid behind it -/
theorem front_splice {α : Type} {A X R Z : List α} (h : Z.length = X.length) : ∃ R', splice (A ++ (X ++ R)) A.length Z = A ++ R' ∧ R'.length = (X ++ R).length :=
  ⟨Z ++ R, by rw [splice_in A X R Z h.symm], by rw [List.length_append, List.length_append, h]⟩
end Go.Proofs.YthbdchleppbidaaGreat
/- slices.IndexFunc and DeleteFunc of aggregates, by a function that is handed in. Written by py/del-a.py. -/
namespace Go.Proofs.YthbdchleppbidaaGreat
open Go.RowKit

theorem AgRow.shut {B : Nat} {w : World} {g cap : Nat} {l : List Ag} {R : List Value} (hb : B ≤ g) (hg : Arr w g 55 (l.flatMap Ag.cells ++ R)) (hR : R.length = (cap - l.length) * 5) (hnc : l.length ≤ cap) (hcm : cap ≤ maxLen) : AgRow B w (.slice (some ⟨g, 0, none⟩) l.length cap) l := by
  refine ⟨flatA_length l, .inr ⟨g, cap, _, rfl, hb, hg, hnc, hcm, ?_, ?_⟩⟩
  · rw [List.size_toArray, List.length_append, flatA_length, hR]; omega
  · rw [List.take_append, List.take_of_length_le (by rw [flatA_length]; omega), flatA_length, Nat.sub_self, List.take_zero, List.append_nil]
/-- one of a row, as it is read -/
theorem arr_ag {w : World} {g : Nat} {l : List Ag} {R : List Value} (hg : Arr w g 55 (l.flatMap Ag.cells ++ R)) {k : Nat} {x : Ag} (hx : l[k]? = some x) :
    w.cell? ⟨g, k * 5, none⟩ = some (.int .i64 x.at_) ∧ w.cell? ⟨g, k * 5 + 1, none⟩ = some (.int .i64 x.n) ∧ w.cell? ⟨g, k * 5 + 2, none⟩ = some (.int .i64 x.s) ∧ w.cell? ⟨g, k * 5 + 3, none⟩ = some (.int .i64 x.lo) ∧ w.cell? ⟨g, k * 5 + 4, none⟩ = some (.int .i64 x.hi) := by
  have hk := (List.getElem?_eq_some_iff.1 hx).1
  have key : ∀ i u, i < 5 → x.cells[i]? = some u → w.cell? ⟨g, k * 5 + i, none⟩ = some u := fun i u hi hu => by
    refine hg.cell ?_
    rw [List.getElem?_append_left (by rw [flatA_length]; omega), flatA_get hx i hi]; exact hu
  exact ⟨key 0 _ (by omega) rfl, key 1 _ (by omega) rfl, key 2 _ (by omega) rfl, key 3 _ (by omega) rfl, key 4 _ (by omega) rfl⟩
theorem flatA_set {l : List Ag} {i : Nat} (hi : i < l.length) (p : Ag) : (((((l.flatMap Ag.cells).set (i * 5) (.int .i64 p.at_)).set (i * 5 + 1) (.int .i64 p.n)).set (i * 5 + 2) (.int .i64 p.s)).set (i * 5 + 3) (.int .i64 p.lo)).set (i * 5 + 4) (.int .i64 p.hi) = (l.set i p).flatMap Ag.cells := by
  induction l generalizing i with
  | nil => simp at hi
  | cons a r ih =>
    cases i with
    | zero => simp [Ag.cells]
    | succ i =>
      have h := ih (i := i) (by simpa using hi)
      rw [List.set_cons_succ, List.flatMap_cons, List.flatMap_cons, ← h]
      have hl : a.cells.length = 5 := rfl
      rw [List.set_append_right _ _ (by rw [hl]; omega), List.set_append_right _ _ (by rw [hl]; omega), List.set_append_right _ _ (by rw [hl]; omega), List.set_append_right _ _ (by rw [hl]; omega), List.set_append_right _ _ (by rw [hl]; omega), hl]
      rw [show (i + 1) * 5 - 5 = i * 5 by omega, show (i + 1) * 5 + 1 - 5 = i * 5 + 1 by omega, show (i + 1) * 5 + 2 - 5 = i * 5 + 2 by omega, show (i + 1) * 5 + 3 - 5 = i * 5 + 3 by omega, show (i + 1) * 5 + 4 - 5 = i * 5 + 4 by omega]
/-- an aggregate stored in a row -/
def setA (w : World) (g i : Nat) (p : Ag) : World := ((((w.setCell ⟨g, i * 5, none⟩ (.int .i64 p.at_)).setCell ⟨g, i * 5 + 1, none⟩ (.int .i64 p.n)).setCell ⟨g, i * 5 + 2, none⟩ (.int .i64 p.s)).setCell ⟨g, i * 5 + 3, none⟩ (.int .i64 p.lo)).setCell ⟨g, i * 5 + 4, none⟩ (.int .i64 p.hi)
theorem setA_only (w : World) (g i : Nat) (p : Ag) : Only (fun k => k = g) w (setA w g i p) :=
  have s := fun (v : World) (j : Nat) (u : Value) => Only.setCell (S := fun k => k = g) v (p := ⟨g, j, none⟩) rfl u
  (((((s w _ _).trans (s _ _ _) (fun _ _ h => h)).trans (s _ _ _) (fun _ _ h => h)).trans (s _ _ _) (fun _ _ h => h)).trans (s _ _ _) (fun _ _ h => h))
theorem setA_arr {w : World} {g i : Nat} {l : List Ag} {R : List Value} (hg : Arr w g 55 (l.flatMap Ag.cells ++ R)) (hi : i < l.length) (p : Ag) : Arr (setA w g i p) g 55 ((l.set i p).flatMap Ag.cells ++ R) := by
  have h := ((((hg.set (i * 5) (.int .i64 p.at_)).set (i * 5 + 1) (.int .i64 p.n)).set (i * 5 + 2) (.int .i64 p.s)).set (i * 5 + 3) (.int .i64 p.lo)).set (i * 5 + 4) (.int .i64 p.hi)
  have hl := flatA_length l
  rw [List.set_append_left _ _ (by omega), List.set_append_left _ _ (by simp only [List.length_set]; omega), List.set_append_left _ _ (by simp only [List.length_set]; omega), List.set_append_left _ _ (by simp only [List.length_set]; omega), List.set_append_left _ _ (by simp only [List.length_set]; omega), flatA_set hi] at h
  exact h
/-- where the first one is of which a function says yes, or -1 -/
def FirstA (L : List Ag) (F : Ag → Bool) (r : Int) : Prop := (r = -1 ∧ ∀ x ∈ L, F x = false) ∨ ∃ (i : Nat) (x : Ag), r = (i : Int) ∧ L[i]? = some x ∧ F x = true ∧ ∀ y ∈ L.take i, F y = false
set_option maxHeartbeats 8000000 in
set_option maxRecDepth 100000 in
theorem idxA_any {w : World} {g cap : Nat} {L : List Ag} {R : List Value} (hg : Arr w g 55 (L.flatMap Ag.cells ++ R)) (hn : L.length ≤ 1000000) {G : FuncId} {C : Array Value} {F : Ag → Bool} (eG : ∀ args W, (callFunc G args).run Tryz.prog W = .ok (.enter G args) W)
    (hO : ∀ W, Only (fun k => k = g) w W → ∀ x ∈ L, Calls Tryz.prog G (#[.agg #[.int .i64 x.at_, .int .i64 x.n, .int .i64 x.s, .int .i64 x.lo, .int .i64 x.hi]] ++ C) W fun e w' => e = .returned (.bool (F x)) ∧ Below W.heap.size W w') :
    Calls Tryz.prog 125 #[.slice (some ⟨g, 0, none⟩) L.length cap, .func (.func G) #[] C] w fun e w' => (∃ r : Int, e = .returned (.int .i64 r) ∧ FirstA L F r) ∧ Below w.heap.size w w' := by
  have HA := Lib.hid hg
  have HO := Lib.hid hO
  have HN := Lib.hid hn
  clear hg hO hn
  go_enter Tryz.func125, Tryz.ntmps125
  go_wp2_with fail
  go_loopw [8] (fun c wr => ∃ k : Nat, k ≤ L.length ∧ c = .int .i64 k ∧ (∀ y ∈ L.take k, F y = false) ∧ Below w.heap.size w wr) (fun c _ => L.length - (intOf c).toNat)
  case atStart => exact ⟨0, Nat.zero_le _, rfl, fun y hy => by simp at hy, Below.refl _ _⟩
  case round =>
    obtain ⟨k, hk, rfl, hnone, hb⟩ := hrel
    obtain ⟨W3, hW3⟩ : ∃ W3, W3 = wr := ⟨_, rfl⟩
    subst hW3
    have HB := Lib.hid hb
    have HNO := Lib.hid hnone
    have HA3 := Lib.hid (HA.out.only (only_beyond (S := fun _ => False) hb) (fun h => h))
    clear hb hnone
    by_cases hlt : k < L.length
    · obtain ⟨x, hx⟩ : ∃ x, L[k]? = some x := ⟨L[k], List.getElem?_eq_getElem hlt⟩
      obtain ⟨c0, c1, c2, c3, c4⟩ := arr_ag HA3.out hx
      have HXK := Lib.hid hx
      have HXM := Lib.hid (List.mem_of_getElem? hx)
      have hmax : k < 9223372036854775807 := by have := HN.out; omega
      clear hx
      go_wp2_with fail
      go_at_fn G
      refine (HO.out W3 (only_beyond HB.out) x HXM.out).mono ?_
      rintro e W4 ⟨rfl, hb4⟩
      have HB4 := Lib.hid (HB.out.trans (hb4.mono HB.out.size))
      clear hb4 c0 c1 c2 c3 c4
      dsimp only
      cases ho : F x with
      | true =>
        have HYES : Hid (FirstA L F k) := Lib.hid (.inr ⟨k, x, rfl, HXK.out, ho, HNO.out⟩)
        clear ho
        go_wp2
        go_ret
        exact ⟨⟨k, rfl, HYES.out⟩, HB4.out⟩
      | false =>
        have HNX : Hid (∀ y ∈ L.take (k + 1), F y = false) := Lib.hid fun y hy => by
          rw [List.take_add_one, HXK.out] at hy
          rcases List.mem_append.1 hy with h | h
          · exact HNO.out y h
          · rw [List.mem_singleton.1 h]; exact ho
        clear ho
        go_wp2_with fail
        go_roundw
        case rel => exact ⟨k + 1, by omega, by go_num, HNX.out, HB4.out⟩
        case measure => simp [intOf]; omega
    · have HZ : Hid (FirstA L F (-1)) := Lib.hid (.inl ⟨rfl, by have h := HNO.out; rwa [List.take_of_length_le (by omega)] at h⟩)
      go_wp2_with fail
      go_ret
      exact ⟨⟨-1, rfl, HZ.out⟩, HB.out⟩
theorem idxA_nil {w : World} {G : FuncId} {C : Array Value} : Calls Tryz.prog 125 #[.slice none 0 0, .func (.func G) #[] C] w fun e w' => e = .returned (.int .i64 (-1)) ∧ w' = w := by
  go_enter Tryz.func125, Tryz.ntmps125
  go_wp2_with fail
  go_rounds 1
  go_ret
  exact ⟨rfl, rfl⟩
def zAg : Value := .agg #[.int .i64 0, .int .i64 0, .int .i64 0, .int .i64 0, .int .i64 0]
set_option maxHeartbeats 8000000 in
set_option maxRecDepth 100000 in
theorem delA_way {w : World} {g cap : Nat} {L : List Ag} {R : List Value} (hg : Arr w g 55 (L.flatMap Ag.cells ++ R)) (hR : R.length = (cap - L.length) * 5) (hnc : L.length ≤ cap) (hn : L.length ≤ 1000000) {G : FuncId} {C : Array Value} {F : Ag → Bool} (eG : ∀ args W, (callFunc G args).run Tryz.prog W = .ok (.enter G args) W)
    (hO : ∀ W, Only (fun k => k = g) w W → ∀ x ∈ L, Calls Tryz.prog G (#[.agg #[.int .i64 x.at_, .int .i64 x.n, .int .i64 x.s, .int .i64 x.lo, .int .i64 x.hi]] ++ C) W fun e w' => e = .returned (.bool (F x)) ∧ Below W.heap.size W w') :
    Calls Tryz.prog 108 #[.slice (some ⟨g, 0, none⟩) L.length cap, .func (.func G) #[] C] w fun e w' => (∃ R' : List Value, e = .returned (.slice (some ⟨g, 0, none⟩) (L.filter fun x => !F x).length cap) ∧ Arr w' g 55 ((L.filter fun x => !F x).flatMap Ag.cells ++ R') ∧ R'.length = (cap - (L.filter fun x => !F x).length) * 5) ∧ Only (fun k => k = g) w w' := by
  have HI := Lib.hid (idxA_any (cap := cap) hg hn eG hO)
  have HA := Lib.hid hg
  have HO := Lib.hid hO
  have HN := Lib.hid hn
  have HNC := Lib.hid hnc
  have HRR := Lib.hid hR
  have HZV : Hid (((Tryz.prog.info? 55).bind (·.zero)) = some zAg) := Lib.hid (by
    obtain ⟨i0, hi, hz0, hz1, hz2⟩ := info_parts infoAg
    rw [hi]; exact hz0)
  clear hg hO hn hR hnc
  obtain ⟨N, hNN⟩ : ∃ N, N = L.length := ⟨_, rfl⟩
  obtain ⟨FL, hFL⟩ : ∃ FL, FL = L.filter fun x => !F x := ⟨_, rfl⟩
  rw [← hNN] at HI HN HNC HRR ⊢
  rw [← hFL]
  have HFL := Lib.hid hFL
  have HNN := Lib.hid hNN
  clear hFL hNN
  go_enter Tryz.func108, Tryz.ntmps108
  go_wp2_with fail
  refine HI.out.mono ?_
  rintro e W1 ⟨⟨r, rfl, hr⟩, hb⟩
  have HR1 := Lib.hid hr
  have HO1 := Lib.hid (only_beyond (S := fun k => k = g) hb)
  have HA1 := Lib.hid (HA.out.only (only_beyond (S := fun _ => False) hb) (fun h => h))
  clear hr hb HI
  dsimp only
  rcases HR1.out with ⟨rfl, hno⟩ | ⟨i, x, rfl, hx, hfx, hno⟩
  · have HE : Hid (FL = L) := Lib.hid (by rw [HFL.out]; exact List.filter_eq_self.2 (fun y hy => by rw [hno y hy]; rfl))
    clear hno HR1
    go_wp2
    go_ret
    refine ⟨⟨R, ?_, ?_, ?_⟩, HO1.out⟩
    · rw [HE.out, ← HNN.out]; rfl
    · rw [HE.out]; exact HA1.out
    · rw [HE.out, ← HNN.out]; exact HRR.out
  · have HS0 : Hid (DelS L L (fun x => !F x) i (i + 1)) := Lib.hid (DelS.start hx (by rw [hfx]; rfl) (fun y hy => by rw [hno y hy]; rfl))
    have hil : i < N := by rw [HNN.out]; exact (List.getElem?_eq_some_iff.1 hx).1
    have hmax : i < 9223372036854775807 := by have := HN.out; omega
    have ti : ((i : Int) == -1) = false := by simp
    clear hx hfx hno HR1
    go_wp2_with fail
    go_loopw [5, 6] (fun ci cj wr => ∃ (a b : Nat) (M : List Ag), ci = .int .i64 a ∧ cj = .int .i64 b ∧ Hid (DelS L M (fun x => !F x) a b) ∧ Arr wr g 55 (M.flatMap Ag.cells ++ R) ∧ Only (fun k => k = g) w wr) (fun _ cj _ => N - (intOf cj).toNat)
    case atStart => exact ⟨i, i + 1, L, rfl, by go_num, HS0, HA1.out, HO1.out⟩
    case round =>
      clear HA1 HO1 HS0 ti hmax hil
      obtain ⟨a, b, M, rfl, rfl, HS, hma, hmo⟩ := hrel
      obtain ⟨W3, hW3⟩ : ∃ W3, W3 = wr := ⟨_, rfl⟩
      subst hW3
      have HM := Lib.hid hma
      have HMO := Lib.hid hmo
      clear hma hmo
      by_cases hlt : b < N
      · obtain ⟨y, hy⟩ : ∃ y, L[b]? = some y := ⟨L[b]'(by rw [← HNN.out]; exact hlt), List.getElem?_eq_getElem _⟩
        obtain ⟨c0, c1, c2, c3, c4⟩ := arr_ag HM.out (HS.out.get.trans hy)
        have HYK := Lib.hid hy
        have HYM := Lib.hid (List.mem_of_getElem? hy)
        have hmax : b < 9223372036854775807 := by have := HN.out; omega
        clear hy
        go_upto_region 8 with fail
        refine wp_name fun W5 hW5 => ?_
        obtain ⟨Q, hQ⟩ : ∃ Q, Q = W3.heap.size := ⟨_, rfl⟩
        have hb5 : Below W3.heap.size W3 W5 := by rw [hW5.out]; exact (Below.refl _ _).alloc (Nat.le_refl _) _
        have HQ5 : Hid (AgAt W5 Q y) := Lib.hid (by rw [hW5.out, hQ]; exact AgAt.new W3 y)
        have HM5 := Lib.hid (HM.out.only (only_beyond (S := fun _ => False) hb5) (fun h => h))
        have HMO5 := Lib.hid (HMO.out.trans (only_beyond (S := fun k => k = g) hb5) (fun _ _ h => h))
        have HGQ : Hid (g ≠ Q) := Lib.hid (by have := HM.out.lt; omega)
        rw [← hQ]
        clear hb5 hW5 hQ HM HMO c0 c1 c2 c3 c4
        obtain ⟨c0, c1, c2, c3, c4, -, -, -, -, -⟩ := HQ5.out.cells
        go_wp2_with fail
        go_at_fn G
        refine (HO.out W5 HMO5.out y HYM.out).mono ?_
        rintro e W4 ⟨rfl, hb4⟩
        have HQ4 := Lib.hid (HQ5.out.keep hb4)
        have HM4 := Lib.hid (HM5.out.only (only_beyond (S := fun _ => False) hb4) (fun h => h))
        have HMO4 := Lib.hid (HMO5.out.trans (only_beyond (S := fun k => k = g) hb4) (fun _ _ h => h))
        clear hb4 c0 c1 c2 c3 c4 HQ5 HM5 HMO5
        dsimp only
        cases ho : F y with
        | true =>
          have HS1 := Lib.hid (HS.out.gone HYK.out (by rw [ho]; rfl))
          clear ho HS
          go_wp2_with fail
          go_roundw
          case rel => exact ⟨a, b + 1, M, rfl, by go_num, HS1.out, HM4.out, HMO4.out⟩
          case measure => simp [intOf]; omega
        | false =>
          have hab := HS.out.lt
          have HS1 := Lib.hid (HS.out.stays HYK.out (by rw [ho]; rfl))
          have haM : a < M.length := by have := HS.out.len; have := HNN.out; omega
          obtain ⟨z, hz⟩ : ∃ z, M[a]? = some z := ⟨_, List.getElem?_eq_getElem haM⟩
          obtain ⟨d0, d1, d2, d3, d4⟩ := arr_ag HM4.out hz
          have f0 := HM4.out.free (a * 5)
          have f1 := HM4.out.free (a * 5 + 1)
          have f2 := HM4.out.free (a * 5 + 2)
          have f3 := HM4.out.free (a * 5 + 3)
          have f4 := HM4.out.free (a * 5 + 4)
          obtain ⟨c0, c1, c2, c3, c4, -, -, -, -, -⟩ := HQ4.out.cells
          have HAM := Lib.hid haM
          have haN : a < N := by omega
          have hmaxa : a < 9223372036854775807 := by omega
          clear ho HS haM hz
          go_wp2_with fail
          go_roundw
          case rel => exact ⟨a + 1, b + 1, M.set a y, by go_num, by go_num, HS1, setA_arr HM4.out HAM.out y, HMO4.out.trans (setA_only W4 g a y) (fun _ _ h => h)⟩
          case measure => simp [intOf]; omega
      · have hbN : b = N := by have := HS.out.le; have := HNN.out; omega
        subst hbN
        have HD : Hid (M.take a = FL) := Lib.hid (by rw [HFL.out]; exact DelS.done (by rw [← HNN.out]; exact HS.out))
        have haN : a < b := HS.out.lt
        have hnc := HNC.out
        have HLM : Hid (M.length = b) := Lib.hid (by rw [HNN.out]; exact HS.out.len)
        have HFC : Hid (a * 5 + (b - a) * zAg.cells.size ≤ (M.flatMap Ag.cells ++ R).length) := Lib.hid (by
          rw [List.length_append, flatA_length, HLM.out, HRR.out, show zAg.cells.size = 5 from rfl]; omega)
        have hac : ¬ (cap = a) := by omega
        have haI : (a : Int) ≤ (b : Int) := by omega
        have hacI : a ≤ cap := by omega
        clear HS
        repeat (first | ((with_reducible refine wpList_dst none rfl ?_); refine wpList_clear_K rfl (.tmp 38) 52 rfl 55 zAg Tryz.underlying52 HZV.out (fun u hu => by simp [zAg, Value.cells] at hu; rw [hu]; rfl) g (a * 5) (b - a) (cap - a) rfl (M.flatMap Ag.cells ++ R) 55 HM.out HFC.out (by omega) ?_; intro W5 HG5 HO5) | go_values | go_skip | go_guarded | go_step)
        go_ret
        have hl : FL.length = a := by rw [← HD.out, List.length_take, HLM.out]; omega
        have hz : (Builtin.zeroCells zAg.cells (b - a)).toList.length = (b - a) * 5 := by rw [zero_len]; rfl
        obtain ⟨R', hs, hr⟩ := front_splice (A := FL.flatMap Ag.cells) (X := (M.drop a).flatMap Ag.cells) (R := R) (Z := (Builtin.zeroCells zAg.cells (b - a)).toList) (by rw [hz, flatA_length, List.length_drop, HLM.out])
        have hm : M.flatMap Ag.cells ++ R = FL.flatMap Ag.cells ++ ((M.drop a).flatMap Ag.cells ++ R) := by rw [← List.append_assoc, ← List.flatMap_append, ← HD.out, List.take_append_drop]
        refine ⟨⟨R', by rw [hl]; rfl, ?_, ?_⟩, HMO.out.trans HO5.out (fun _ _ h => h)⟩
        · have h := HG5.out
          rw [hm, show a * 5 = (FL.flatMap Ag.cells).length by rw [flatA_length, hl]] at h
          rw [← hs]; exact h
        · rw [hr, List.length_append, flatA_length, List.length_drop, HLM.out, HRR.out, hl]; omega
/-- aggregates taken out of a row of one's own -/
theorem delA_any {B : Nat} {w : World} {u : Value} {L : List Ag} (h : AgRow B w u L) (hn : L.length ≤ 1000000) {G : FuncId} {C : Array Value} {F : Ag → Bool} (eG : ∀ args W, (callFunc G args).run Tryz.prog W = .ok (.enter G args) W)
    (hO : ∀ W, Only (fun k => u.ownBlock = some k) w W → ∀ x ∈ L, Calls Tryz.prog G (#[.agg #[.int .i64 x.at_, .int .i64 x.n, .int .i64 x.s, .int .i64 x.lo, .int .i64 x.hi]] ++ C) W fun e w' => e = .returned (.bool (F x)) ∧ Below W.heap.size W w') :
    Calls Tryz.prog 108 #[u, .func (.func G) #[] C] w fun e w' => (∃ u', e = .returned u' ∧ AgRow B w' u' (L.filter fun x => !F x) ∧ u'.ownBlock = u.ownBlock) ∧ Only (fun k => u.ownBlock = some k) w w' := by
  rcases h.opened with ⟨rfl, rfl⟩ | ⟨g, cap, R, rfl, hbg, hg, hR, hnc, hcm⟩
  · have HI := Lib.hid (idxA_nil (w := w) (G := G) (C := C))
    clear hO h
    go_enter Tryz.func108, Tryz.ntmps108
    go_wp2_with fail
    refine HI.out.mono ?_
    rintro e W1 ⟨rfl, hw⟩; replace hw := hw.symm; subst hw
    dsimp only
    go_wp2
    go_ret
    exact ⟨⟨_, rfl, AgRow.nil _ _, rfl⟩, Only.refl _ _⟩
  · refine (delA_way hg hR hnc hn eG (fun W hW x hx => hO W (hW.mono fun k _ hk => by rw [hk]; rfl) x hx)).mono ?_
    rintro e w' ⟨⟨R', rfl, h1, h2⟩, h3⟩
    exact ⟨⟨_, rfl, AgRow.shut hbg h1 h2 (Nat.le_trans (List.length_filter_le _ _) hnc) hcm, rfl⟩, h3.mono fun k _ hk => by rw [hk]; rfl⟩
end Go.Proofs.YthbdchleppbidaaGreat
/- slices.IndexFunc and DeleteFunc of numbers, by a function that is handed in. -/
namespace Go.Proofs.YthbdchleppbidaaGreat
open Go.RowKit

theorem IntRow.shut {B : Nat} {w : World} {g cap : Nat} {l : List Int} {R : List Value} (hb : B ≤ g) (hg : Arr w g 2 (l.map (Value.int .i64) ++ R)) (hR : R.length = cap - l.length) (hnc : l.length ≤ cap) (hcm : cap ≤ maxLen) : IntRow B w (.slice (some ⟨g, 0, none⟩) l.length cap) l := by
  refine ⟨by simp, .inr ⟨g, cap, _, rfl, hb, hg, hnc, hcm, ?_, ?_⟩⟩
  · rw [List.size_toArray, List.length_append, List.length_map, hR]; omega
  · rw [List.take_append, List.take_of_length_le (by rw [List.length_map]; omega), List.length_map, Nat.mul_one, Nat.sub_self, List.take_zero, List.append_nil]
theorem arr_int {w : World} {g : Nat} {l : List Int} {R : List Value} (hg : Arr w g 2 (l.map (Value.int .i64) ++ R)) {k : Nat} {x : Int} (hx : l[k]? = some x) : w.cell? ⟨g, k, none⟩ = some (.int .i64 x) := by
  have hk := (List.getElem?_eq_some_iff.1 hx).1
  refine hg.cell ?_
  rw [List.getElem?_append_left (by simpa using hk), List.getElem?_map, hx]; rfl
/-- where the first one is of which a function says yes, or -1 -/
def FirstI (L : List Int) (F : Int → Bool) (r : Int) : Prop := (r = -1 ∧ ∀ x ∈ L, F x = false) ∨ ∃ (i : Nat) (x : Int), r = (i : Int) ∧ L[i]? = some x ∧ F x = true ∧ ∀ y ∈ L.take i, F y = false
set_option maxHeartbeats 8000000 in
set_option maxRecDepth 100000 in
theorem idxI_any {w : World} {g cap : Nat} {L : List Int} {R : List Value} (hg : Arr w g 2 (L.map (Value.int .i64) ++ R)) (hn : L.length ≤ 1000000) {G : FuncId} {C : Array Value} {F : Int → Bool} (eG : ∀ args W, (callFunc G args).run Tryz.prog W = .ok (.enter G args) W)
    (hO : ∀ W, Only (fun k => k = g) w W → ∀ x ∈ L, Calls Tryz.prog G (#[.int .i64 x] ++ C) W fun e w' => e = .returned (.bool (F x)) ∧ Below W.heap.size W w') :
    Calls Tryz.prog 106 #[.slice (some ⟨g, 0, none⟩) L.length cap, .func (.func G) #[] C] w fun e w' => (∃ r : Int, e = .returned (.int .i64 r) ∧ FirstI L F r) ∧ Below w.heap.size w w' := by
  have HA := Lib.hid hg
  have HO := Lib.hid hO
  have HN := Lib.hid hn
  clear hg hO hn
  go_enter Tryz.func106, Tryz.ntmps106
  go_wp2_with fail
  go_loopw [8] (fun c wr => ∃ k : Nat, k ≤ L.length ∧ c = .int .i64 k ∧ (∀ y ∈ L.take k, F y = false) ∧ Below w.heap.size w wr) (fun c _ => L.length - (intOf c).toNat)
  case atStart => exact ⟨0, Nat.zero_le _, rfl, fun y hy => by simp at hy, Below.refl _ _⟩
  case round =>
    obtain ⟨k, hk, rfl, hnone, hb⟩ := hrel
    obtain ⟨W3, hW3⟩ : ∃ W3, W3 = wr := ⟨_, rfl⟩
    subst hW3
    have HB := Lib.hid hb
    have HNO := Lib.hid hnone
    have HA3 := Lib.hid (HA.out.only (only_beyond (S := fun _ => False) hb) (fun h => h))
    clear hb hnone
    by_cases hlt : k < L.length
    · obtain ⟨x, hx⟩ : ∃ x, L[k]? = some x := ⟨L[k], List.getElem?_eq_getElem hlt⟩
      have c0 := arr_int HA3.out hx
      have HXK := Lib.hid hx
      have HXM := Lib.hid (List.mem_of_getElem? hx)
      have hmax : k < 9223372036854775807 := by have := HN.out; omega
      clear hx
      go_wp2_with fail
      go_at_fn G
      refine (HO.out W3 (only_beyond HB.out) x HXM.out).mono ?_
      rintro e W4 ⟨rfl, hb4⟩
      have HB4 := Lib.hid (HB.out.trans (hb4.mono HB.out.size))
      clear hb4 c0
      dsimp only
      cases ho : F x with
      | true =>
        have HYES : Hid (FirstI L F k) := Lib.hid (.inr ⟨k, x, rfl, HXK.out, ho, HNO.out⟩)
        clear ho
        go_wp2
        go_ret
        exact ⟨⟨k, rfl, HYES.out⟩, HB4.out⟩
      | false =>
        have HNX : Hid (∀ y ∈ L.take (k + 1), F y = false) := Lib.hid fun y hy => by
          rw [List.take_add_one, HXK.out] at hy
          rcases List.mem_append.1 hy with h | h
          · exact HNO.out y h
          · rw [List.mem_singleton.1 h]; exact ho
        clear ho
        go_wp2_with fail
        go_roundw
        case rel => exact ⟨k + 1, by omega, by go_num, HNX.out, HB4.out⟩
        case measure => simp [intOf]; omega
    · have HZ : Hid (FirstI L F (-1)) := Lib.hid (.inl ⟨rfl, by have h := HNO.out; rwa [List.take_of_length_le (by omega)] at h⟩)
      go_wp2_with fail
      go_ret
      exact ⟨⟨-1, rfl, HZ.out⟩, HB.out⟩
theorem idxI_nil {w : World} {G : FuncId} {C : Array Value} : Calls Tryz.prog 106 #[.slice none 0 0, .func (.func G) #[] C] w fun e w' => e = .returned (.int .i64 (-1)) ∧ w' = w := by
  go_enter Tryz.func106, Tryz.ntmps106
  go_wp2_with fail
  go_rounds 1
  go_ret
  exact ⟨rfl, rfl⟩
set_option maxHeartbeats 8000000 in
set_option maxRecDepth 100000 in
theorem delI_way {w : World} {g cap : Nat} {L : List Int} {R : List Value} (hg : Arr w g 2 (L.map (Value.int .i64) ++ R)) (hR : R.length = cap - L.length) (hnc : L.length ≤ cap) (hn : L.length ≤ 1000000) {G : FuncId} {C : Array Value} {F : Int → Bool} (eG : ∀ args W, (callFunc G args).run Tryz.prog W = .ok (.enter G args) W)
    (hO : ∀ W, Only (fun k => k = g) w W → ∀ x ∈ L, Calls Tryz.prog G (#[.int .i64 x] ++ C) W fun e w' => e = .returned (.bool (F x)) ∧ Below W.heap.size W w') :
    Calls Tryz.prog 71 #[.slice (some ⟨g, 0, none⟩) L.length cap, .func (.func G) #[] C] w fun e w' => (∃ R' : List Value, e = .returned (.slice (some ⟨g, 0, none⟩) (L.filter fun x => !F x).length cap) ∧ Arr w' g 2 ((L.filter fun x => !F x).map (Value.int .i64) ++ R') ∧ R'.length = cap - (L.filter fun x => !F x).length) ∧ Only (fun k => k = g) w w' := by
  have HI := Lib.hid (idxI_any (cap := cap) hg hn eG hO)
  have HA := Lib.hid hg
  have HO := Lib.hid hO
  have HN := Lib.hid hn
  have HNC := Lib.hid hnc
  have HRR := Lib.hid hR
  have HZV : Hid (((Tryz.prog.info? 2).bind (·.zero)) = some (.int .i64 0)) := Lib.hid (by
    obtain ⟨i0, hi, hz0, hz1, hz2⟩ := info_parts infoInt64
    rw [hi]; exact hz0)
  clear hg hO hn hR hnc
  obtain ⟨N, hNN⟩ : ∃ N, N = L.length := ⟨_, rfl⟩
  obtain ⟨FL, hFL⟩ : ∃ FL, FL = L.filter fun x => !F x := ⟨_, rfl⟩
  rw [← hNN] at HI HN HNC HRR ⊢
  rw [← hFL]
  have HFL := Lib.hid hFL
  have HNN := Lib.hid hNN
  clear hFL hNN
  go_enter Tryz.func71, Tryz.ntmps71
  go_wp2_with fail
  refine HI.out.mono ?_
  rintro e W1 ⟨⟨r, rfl, hr⟩, hb⟩
  have HR1 := Lib.hid hr
  have HO1 := Lib.hid (only_beyond (S := fun k => k = g) hb)
  have HA1 := Lib.hid (HA.out.only (only_beyond (S := fun _ => False) hb) (fun h => h))
  clear hr hb HI
  dsimp only
  rcases HR1.out with ⟨rfl, hno⟩ | ⟨i, x, rfl, hx, hfx, hno⟩
  · have HE : Hid (FL = L) := Lib.hid (by rw [HFL.out]; exact List.filter_eq_self.2 (fun y hy => by rw [hno y hy]; rfl))
    clear hno HR1
    go_wp2
    go_ret
    refine ⟨⟨R, ?_, ?_, ?_⟩, HO1.out⟩
    · rw [HE.out, ← HNN.out]; rfl
    · rw [HE.out]; exact HA1.out
    · rw [HE.out, ← HNN.out]; exact HRR.out
  · have HS0 : Hid (DelS L L (fun x => !F x) i (i + 1)) := Lib.hid (DelS.start hx (by rw [hfx]; rfl) (fun y hy => by rw [hno y hy]; rfl))
    have hil : i < N := by rw [HNN.out]; exact (List.getElem?_eq_some_iff.1 hx).1
    have hmax : i < 9223372036854775807 := by have := HN.out; omega
    have ti : ((i : Int) == -1) = false := by simp
    clear hx hfx hno HR1
    go_wp2_with fail
    go_loopw [5, 6] (fun ci cj wr => ∃ (a b : Nat) (M : List Int), ci = .int .i64 a ∧ cj = .int .i64 b ∧ Hid (DelS L M (fun x => !F x) a b) ∧ Arr wr g 2 (M.map (Value.int .i64) ++ R) ∧ Only (fun k => k = g) w wr) (fun _ cj _ => N - (intOf cj).toNat)
    case atStart => exact ⟨i, i + 1, L, rfl, by go_num, HS0, HA1.out, HO1.out⟩
    case round =>
      clear HA1 HO1 HS0 ti hmax hil
      obtain ⟨a, b, M, rfl, rfl, HS, hma, hmo⟩ := hrel
      obtain ⟨W3, hW3⟩ : ∃ W3, W3 = wr := ⟨_, rfl⟩
      subst hW3
      have HM := Lib.hid hma
      have HMO := Lib.hid hmo
      clear hma hmo
      by_cases hlt : b < N
      · obtain ⟨y, hy⟩ : ∃ y, L[b]? = some y := ⟨L[b]'(by rw [← HNN.out]; exact hlt), List.getElem?_eq_getElem _⟩
        have c0 := arr_int HM.out (HS.out.get.trans hy)
        have HYK := Lib.hid hy
        have HYM := Lib.hid (List.mem_of_getElem? hy)
        have hmax : b < 9223372036854775807 := by have := HN.out; omega
        clear hy
        go_wp2_with fail
        go_at_fn G
        refine (HO.out W3 HMO.out y HYM.out).mono ?_
        rintro e W4 ⟨rfl, hb4⟩
        have HM4 := Lib.hid (HM.out.only (only_beyond (S := fun _ => False) hb4) (fun h => h))
        have HMO4 := Lib.hid (HMO.out.trans (only_beyond (S := fun k => k = g) hb4) (fun _ _ h => h))
        clear hb4 c0 HM HMO
        dsimp only
        cases ho : F y with
        | true =>
          have HS1 := Lib.hid (HS.out.gone HYK.out (by rw [ho]; rfl))
          clear ho HS
          go_wp2_with fail
          go_roundw
          case rel => exact ⟨a, b + 1, M, rfl, by go_num, HS1.out, HM4.out, HMO4.out⟩
          case measure => simp [intOf]; omega
        | false =>
          have hab := HS.out.lt
          have HS1 := Lib.hid (HS.out.stays HYK.out (by rw [ho]; rfl))
          have haM : a < M.length := by have := HS.out.len; have := HNN.out; omega
          obtain ⟨z, hz⟩ : ∃ z, M[a]? = some z := ⟨_, List.getElem?_eq_getElem haM⟩
          have c1 := arr_int HM4.out hz
          have f1 := HM4.out.free a
          have HAM := Lib.hid haM
          have haN : a < N := by omega
          have hmaxa : a < 9223372036854775807 := by omega
          clear ho HS haM hz
          go_wp2_with fail
          go_roundw
          case rel =>
            refine ⟨a + 1, b + 1, M.set a y, by go_num, by go_num, HS1, ?_, HMO4.out.trans (Only.setCell (S := fun k => k = g) W4 rfl _) (fun _ _ h => h)⟩
            have h := HM4.out.set a (.int .i64 y)
            rw [List.set_append_left _ _ (by rw [List.length_map]; exact HAM.out), ← List.map_set] at h
            exact h
          case measure => simp [intOf]; omega
      · have hbN : b = N := by have := HS.out.le; have := HNN.out; omega
        subst hbN
        have HD : Hid (M.take a = FL) := Lib.hid (by rw [HFL.out]; exact DelS.done (by rw [← HNN.out]; exact HS.out))
        have haN : a < b := HS.out.lt
        have hnc := HNC.out
        have HLM : Hid (M.length = b) := Lib.hid (by rw [HNN.out]; exact HS.out.len)
        have HFC : Hid (a + (b - a) * (Value.int .i64 0).cells.size ≤ (M.map (Value.int .i64) ++ R).length) := Lib.hid (by
          rw [List.length_append, List.length_map, HLM.out, HRR.out, show (Value.int .i64 0).cells.size = 1 from rfl]; omega)
        have hac : ¬ (cap = a) := by omega
        have haI : (a : Int) ≤ (b : Int) := by omega
        have hacI : a ≤ cap := by omega
        clear HS
        repeat (first | ((with_reducible refine wpList_dst none rfl ?_); refine wpList_clear_K rfl (.tmp 38) 51 rfl 2 (.int .i64 0) Tryz.underlying51 HZV.out (fun u hu => by simp [Value.cells] at hu; rw [hu]; rfl) g a (b - a) (cap - a) rfl (M.map (Value.int .i64) ++ R) 2 HM.out HFC.out (by omega) ?_; intro W5 HG5 HO5) | go_values | go_skip | go_guarded | go_step)
        go_ret
        have hl : FL.length = a := by rw [← HD.out, List.length_take, HLM.out]; omega
        have hz : (Builtin.zeroCells (Value.int .i64 0).cells (b - a)).toList.length = b - a := by rw [zero_len]; show (b - a) * 1 = _; omega
        obtain ⟨R', hs, hr⟩ := front_splice (A := FL.map (Value.int .i64)) (X := (M.drop a).map (Value.int .i64)) (R := R) (Z := (Builtin.zeroCells (Value.int .i64 0).cells (b - a)).toList) (by rw [hz, List.length_map, List.length_drop, HLM.out])
        have hm : M.map (Value.int .i64) ++ R = FL.map (Value.int .i64) ++ ((M.drop a).map (Value.int .i64) ++ R) := by rw [← List.append_assoc, ← List.map_append, ← HD.out, List.take_append_drop]
        refine ⟨⟨R', by rw [hl]; rfl, ?_, ?_⟩, HMO.out.trans HO5.out (fun _ _ h => h)⟩
        · have h := HG5.out
          rw [hm, show a = (FL.map (Value.int .i64)).length by rw [List.length_map, hl]] at h
          rw [← hs]; rw [List.length_map, hl] at h ⊢; exact h
        · rw [hr, List.length_append, List.length_map, List.length_drop, HLM.out, HRR.out, hl]; omega
/-- numbers taken out of a row of one's own -/
theorem delI_any {B : Nat} {w : World} {u : Value} {L : List Int} (h : IntRow B w u L) (hn : L.length ≤ 1000000) {G : FuncId} {C : Array Value} {F : Int → Bool} (eG : ∀ args W, (callFunc G args).run Tryz.prog W = .ok (.enter G args) W)
    (hO : ∀ W, Only (fun k => u.ownBlock = some k) w W → ∀ x ∈ L, Calls Tryz.prog G (#[.int .i64 x] ++ C) W fun e w' => e = .returned (.bool (F x)) ∧ Below W.heap.size W w') :
    Calls Tryz.prog 71 #[u, .func (.func G) #[] C] w fun e w' => (∃ u', e = .returned u' ∧ IntRow B w' u' (L.filter fun x => !F x) ∧ u'.ownBlock = u.ownBlock) ∧ Only (fun k => u.ownBlock = some k) w w' := by
  rcases h.opened with ⟨rfl, rfl⟩ | ⟨g, cap, R, rfl, hbg, hg, hR, hnc, hcm⟩
  · have HI := Lib.hid (idxI_nil (w := w) (G := G) (C := C))
    clear hO h
    go_enter Tryz.func71, Tryz.ntmps71
    go_wp2_with fail
    refine HI.out.mono ?_
    rintro e W1 ⟨rfl, hw⟩; replace hw := hw.symm; subst hw
    dsimp only
    go_wp2
    go_ret
    exact ⟨⟨_, rfl, IntRow.nil _ _, rfl⟩, Only.refl _ _⟩
  · refine (delI_way hg hR hnc hn eG (fun W hW x hx => hO W (hW.mono fun k _ hk => by rw [hk]; rfl) x hx)).mono ?_
    rintro e w' ⟨⟨R', rfl, h1, h2⟩, h3⟩
    exact ⟨⟨_, rfl, IntRow.shut hbg h1 h2 (Nat.le_trans (List.length_filter_le _ _) hnc) hcm, rfl⟩, h3.mono fun k _ hk => by rw [hk]; rfl⟩
end Go.Proofs.YthbdchleppbidaaGreat
