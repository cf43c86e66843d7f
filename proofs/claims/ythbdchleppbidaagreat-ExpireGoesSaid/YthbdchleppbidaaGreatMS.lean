/- SeBy, SeClo, SePlace, SeIns, SeWith, SeIdx, SePut, SeSpan, SeGet, SeDel, SeCut, SeCpy: laid into one. -/
import Derived.Test.YthbdchleppbidaaGreatMC
import Derived.Test.YthbdchleppbidaaGreatMA
import Derived.Test.YthbdchleppbidaaGreatMB
import Derived.Maps.AppendAt
import Derived.Lib.SliceRun
import Derived.Lib.Overlaps
import Derived.Deep.DeepCutAuto
/- Package series: which ticks may be put; ticks compared; points cloned. -/
namespace Go.Proofs.YthbdchleppbidaaGreat
open Go.RowKit

/-- a point in a block of its own -/
def PtAt (W : World) (P : Nat) (p : Pt) : Prop := W.heap[P]? = some (.cells #[.int .i64 p.a, .int .i64 p.v] 47 (0, 0))
theorem PtAt.keep {W W' : World} {P : Nat} {p : Pt} (h : PtAt W P p) (hb : Below W.heap.size W W') : PtAt W' P p := (hb.block P (lt_of_block h)).trans h
theorem PtAt.old {W : World} {P : Nat} {p : Pt} (h : PtAt W P p) (o : Obj) : PtAt (W.alloc o) P p := (Below.heap_alloc _ _ _ (lt_of_block h)).trans h
theorem PtAt.new (W : World) (p : Pt) : PtAt (W.alloc (.cells #[.int .i64 p.a, .int .i64 p.v] 47)) W.heap.size p := heap_alloc_new W _
theorem PtAt.cells {W : World} {P : Nat} {p : Pt} (h : PtAt W P p) : W.cell? ⟨P, 0, none⟩ = some (.int .i64 p.a) ∧ W.cell? ⟨P, 1, none⟩ = some (.int .i64 p.v) ∧ W.frozen? ⟨P, 0, none⟩ = false ∧ W.frozen? ⟨P, 1, none⟩ = false := cells2 h
theorem PtAt.only {S : Nat → Prop} {W W' : World} {P : Nat} {p : Pt} (h : PtAt W P p) (ho : Only S W W') (hS : ¬ S P) : PtAt W' P p := (ho.block P (lt_of_block h) hS).trans h
/-- a point as a value -/
def Pt.val (p : Pt) : Value := .agg #[.int .i64 p.a, .int .i64 p.v]

/-- may a tick not be put? -/
def outP (p : Pt) : Bool := decide (p.a < 0) || decide (1099511627776 < p.a)
set_option maxHeartbeats 4000000 in
theorem seout_any (w : World) (p : Pt) :
    Calls Tryz.prog 96 #[.agg #[.int .i64 p.a, .int .i64 p.v]] w fun e w' => e = .returned (.bool (outP p)) ∧ Below w.heap.size w w' := by
  have HR : Hid (outP p = (decide (p.a < 0) || decide (1099511627776 < p.a))) := Lib.hid rfl
  obtain ⟨R, hR⟩ : ∃ R, R = outP p := ⟨_, rfl⟩
  rw [← hR] at HR ⊢
  obtain ⟨a, v⟩ := p
  simp only at HR ⊢
  clear hR
  by_cases h0 : a < 0
  · have t0 : decide (a < 0) = true := decide_eq_true h0
    clear h0
    go_enter Tryz.func96, Tryz.ntmps96
    repeat (first | go_values | go_skip | go_guarded | go_step | go_upon)
    go_ret
    exact ⟨by rw [HR.out, t0]; rfl, (Below.refl _ _).alloc (Nat.le_refl _) _⟩
  · have t0 : decide (a < 0) = false := decide_eq_false h0
    clear h0
    go_enter Tryz.func96, Tryz.ntmps96
    repeat (first | go_values | go_skip | go_guarded | go_step | go_upon)
    go_ret
    exact ⟨by rw [HR.out, t0]; rfl, (Below.refl _ _).alloc (Nat.le_refl _) _⟩

/-- which of two is the greater one -/
def cmpI (x y : Int) : Int := if x < y then -1 else if y < x then 1 else 0
theorem senan_any (w : World) (x : Int) : Calls Tryz.prog 138 #[.int .i64 x] w fun e w' => e = .returned (.bool false) ∧ w' = w := by
  have t0 : (x != x) = false := by simp
  go_enter Tryz.func138, Tryz.ntmps138
  go_wp2
  go_ret
  exact ⟨rfl, rfl⟩
set_option maxHeartbeats 4000000 in
theorem secmp_any (w : World) (x y : Int) : Calls Tryz.prog 130 #[.int .i64 x, .int .i64 y] w fun e w' => e = .returned (.int .i64 (cmpI x y)) ∧ w' = w := by
  have HX : Hid (∀ W, Calls Tryz.prog 138 #[.int .i64 x] W fun e w' => e = .returned (.bool false) ∧ w' = W) := Lib.hid fun W => senan_any W x
  have HY : Hid (∀ W, Calls Tryz.prog 138 #[.int .i64 y] W fun e w' => e = .returned (.bool false) ∧ w' = W) := Lib.hid fun W => senan_any W y
  have HR : Hid (cmpI x y = if x < y then -1 else if y < x then 1 else 0) := Lib.hid rfl
  obtain ⟨R, hR⟩ : ∃ R, R = cmpI x y := ⟨_, rfl⟩
  rw [← hR] at HR ⊢
  clear hR
  go_enter Tryz.func130, Tryz.ntmps130
  repeat (first | go_values | go_skip | go_guarded | go_step)
  refine (HX.out w).mono ?_
  rintro e W1 ⟨rfl, rfl⟩
  dsimp only
  repeat (first | go_values | go_skip | go_guarded | go_step)
  refine (HY.out W1).mono ?_
  rintro e W2 ⟨rfl, rfl⟩
  dsimp only
  by_cases h0 : x < y
  · have HE : Hid (R = -1) := Lib.hid (by rw [HR.out, if_pos h0])
    have t0 : decide (x < y) = true := decide_eq_true h0
    clear h0
    go_wp2
    go_ret
    exact ⟨by rw [HE.out]; rfl, rfl⟩
  · have t0 : decide (x < y) = false := decide_eq_false h0
    by_cases h1 : y < x
    · have HE : Hid (R = 1) := Lib.hid (by rw [HR.out, if_neg h0, if_pos h1])
      have t1 : decide (y < x) = true := decide_eq_true h1
      clear h0 h1
      go_wp2
      go_ret
      exact ⟨by rw [HE.out]; rfl, rfl⟩
    · have HE : Hid (R = 0) := Lib.hid (by rw [HR.out, if_neg h0, if_neg h1])
      have t1 : decide (y < x) = false := decide_eq_false h1
      clear h0 h1
      go_wp2
      go_ret
      exact ⟨by rw [HE.out]; rfl, rfl⟩
set_option maxHeartbeats 4000000 in
theorem seat_any (w : World) (a v x : Int) : Calls Tryz.prog 129 #[.agg #[.int .i64 a, .int .i64 v], .int .i64 x] w fun e w' => e = .returned (.int .i64 (cmpI a x)) ∧ Below w.heap.size w w' := by
  have HC : Hid (∀ W, Calls Tryz.prog 130 #[.int .i64 a, .int .i64 x] W fun e w' => e = .returned (.int .i64 (cmpI a x)) ∧ w' = W) := Lib.hid fun W => secmp_any W a x
  obtain ⟨R, hR⟩ : ∃ R, R = cmpI a x := ⟨_, rfl⟩
  rw [← hR] at HC ⊢
  clear hR
  go_enter Tryz.func129, Tryz.ntmps129
  repeat (first | go_values | go_skip | go_guarded | go_step)
  refine (HC.out _).mono ?_
  rintro e W2 ⟨rfl, rfl⟩
  go_wp2
  go_ret
  exact ⟨rfl, (Below.refl _ _).alloc (Nat.le_refl _) _⟩
end Go.Proofs.YthbdchleppbidaaGreat
/- Points cloned. -/
namespace Go.Proofs.YthbdchleppbidaaGreat
open Go.RowKit

set_option maxHeartbeats 4000000 in
set_option maxRecDepth 100000 in
theorem seclo_any {w : World} {v : Value} {l : List Pt} (hv : PLies w v l) (hn : l.length ≤ 1000000000000) :
    Calls Tryz.prog 68 #[v] w fun e w' => ∃ v', e = .returned v' ∧ PtRowB w.heap.size w' v' l ∧ Below w.heap.size w w' := by
  obtain ⟨i0, hi, hz0, hz1, hz2⟩ := info_parts infoPt
  obtain ⟨a, b, off, cap, rfl, hadr, hpts⟩ := hv
  cases a with
  | none =>
    have hl : l = [] := Classical.byContradiction fun h => by have := hadr h; cases this
    subst hl
    have hq := Lib.run_eql_slice_nil (P := Tryz.prog) w 44 47 none 0 cap 0 0 Tryz.underlying44
    clear hadr hpts hi
    go_enter Tryz.func68, Tryz.ntmps68
    go_wp2
    go_ret
    exact ⟨_, rfl, PtRowB.nil _ _, Below.refl _ _⟩
  | some ad =>
    have HNW : Hid (∀ j u, (l.flatMap Pt.cells)[j]? = some u → (w.alloc (.cells #[] 47)).cell? (ad.add j) = some u) := Lib.hid fun j u hu => by
      have hne : l ≠ [] := by rintro rfl; simp at hu
      have e := hadr hne
      injection e with e; subst e
      rw [add_at]
      have hc := pts_cells hpts j u hu
      rw [← hc]
      exact World.cell?_of_block (w := w) (Below.heap_alloc _ _ _ (by have := cell_lt hc; exact this))
    have HLN := Lib.hid hn
    have HE : Hid ((w.alloc (.cells #[] 47)).ownsRow w.heap.size 47 2 (.slice (some ⟨w.heap.size, 0, none⟩) 0 0) 0 []) := Lib.hid (World.ownsRow_made w #[] 0 (Nat.le_refl _) (Nat.zero_le _) rfl)
    have hq := Lib.run_eql_slice_nil (P := Tryz.prog) w 44 47 (some ad) l.length cap 0 0 Tryz.underlying44
    clear hadr hpts hn
    go_enter Tryz.func68, Tryz.ntmps68
    go_wp2_with (at_builtin; refine wpList_append_own_at _ rfl (.tmp 5) (.tmp 6) 44 rfl w.heap.size 47 i0 (.agg #[.int .i64 0, .int .i64 0]) 2 16 Tryz.underlying44 hi hz0 hz1 hz2 rfl (by decide) _ _ _ rfl HE.out ad l.length cap (l.flatMap Pt.cells) rfl (flatP_length l) HNW.out (flatP_one l) (by have := HLN.out; unfold maxLen; omega) (by have := HLN.out; omega) (by simp) ?_; intro v7 W7 hown7 hgrow7 _ hwhere7; have HR7 : Hid (PtRowB w.heap.size W7 v7 l) := Lib.hid (by unfold PtRowB; simpa using hown7); have HB7 : Hid (Below w.heap.size w W7) := Lib.hid (((Below.refl _ w).alloc (Nat.le_refl _) _).grown hgrow7 (by simp) (fun b hb => (HE.out.lt b hb).1)); clear hown7 hgrow7 hwhere7)
    go_ret
    exact ⟨_, rfl, HR7.out, HB7.out⟩
end Go.Proofs.YthbdchleppbidaaGreat
/- Package series: where a tick stands. -/
namespace Go.Proofs.YthbdchleppbidaaGreat
open Go.RowKit

theorem cmpI_neg (x y : Int) : decide (cmpI x y < 0) = decide (x < y) := by
  unfold cmpI
  by_cases h : x < y
  · rw [if_pos h, decide_eq_true h]; rfl
  · rw [if_neg h, decide_eq_false h]
    by_cases h2 : y < x
    · rw [if_pos h2]; rfl
    · rw [if_neg h2]; rfl
theorem cmpI_same (x y : Int) : (cmpI x y == 0) = decide (x = y) := by
  unfold cmpI
  by_cases h : x < y
  · rw [if_pos h, decide_eq_false (by omega)]; rfl
  · rw [if_neg h]
    by_cases h2 : y < x
    · rw [if_pos h2, decide_eq_false (by omega)]; rfl
    · rw [if_neg h2, decide_eq_true (by omega)]; rfl
/-- what a round of the search keeps -/
def FindI (l : List Pt) (x : Int) (i j : Nat) : Prop := i ≤ j ∧ j ≤ l.length ∧ (∀ k q, k < i → l[k]? = some q → q.a < x) ∧ ∀ k q, j ≤ k → l[k]? = some q → x ≤ q.a
theorem FindI.start (l : List Pt) (x : Int) : FindI l x 0 l.length :=
  ⟨Nat.zero_le _, Nat.le_refl _, fun k q h => absurd h (Nat.not_lt_zero _), fun k q h hq => by have := (List.getElem?_eq_some_iff.1 hq).1; omega⟩
theorem FindI.up {l : List Pt} (hs : Srt l) {x : Int} {i j m : Nat} {q : Pt} (h : FindI l x i j) (hm : m < j) (hq : l[m]? = some q) (hx : q.a < x) (him : i ≤ m) : FindI l x (m + 1) j := by
  obtain ⟨h1, h2, h3, h4⟩ := h
  refine ⟨by omega, h2, fun k p hk hp => ?_, h4⟩
  obtain ⟨hml, e⟩ := List.getElem?_eq_some_iff.1 hq
  obtain ⟨hkl, e'⟩ := List.getElem?_eq_some_iff.1 hp
  rcases Nat.lt_or_ge k m with hkm | hkm
  · have := List.pairwise_iff_getElem.1 hs k m hkl hml hkm
    rw [e, e'] at this; omega
  · obtain rfl : k = m := by omega
    rw [hq] at hp; rw [← Option.some.inj hp]; exact hx
theorem FindI.down {l : List Pt} (hs : Srt l) {x : Int} {i j m : Nat} {q : Pt} (h : FindI l x i j) (hm : m < j) (hq : l[m]? = some q) (hx : ¬ q.a < x) (him : i ≤ m) : FindI l x i m := by
  obtain ⟨h1, h2, h3, h4⟩ := h
  refine ⟨him, by omega, h3, fun k p hk hp => ?_⟩
  obtain ⟨hml, e⟩ := List.getElem?_eq_some_iff.1 hq
  obtain ⟨hkl, e'⟩ := List.getElem?_eq_some_iff.1 hp
  rcases Nat.lt_or_ge m k with hkm | hkm
  · have := List.pairwise_iff_getElem.1 hs m k hml hkl hkm
    rw [e, e'] at this; omega
  · obtain rfl : k = m := by omega
    rw [hq] at hp; rw [← Option.some.inj hp]; omega
theorem FindI.done {l : List Pt} (hs : Srt l) {x : Int} {i j : Nat} (h : FindI l x i j) (hij : ¬ i < j) : cntP l x = i := by
  obtain ⟨h1, h2, h3, h4⟩ := h
  obtain rfl : i = j := by omega
  exact cnt_is hs h2 h3 h4
set_option maxHeartbeats 4000000 in
set_option maxRecDepth 100000 in
theorem sefind_any {w : World} {v : Value} {l : List Pt} (hv : PLies w v l) (hs : Srt l) (hn : l.length ≤ 1000000000000) (x : Int) :
    Calls Tryz.prog 128 #[v, .int .i64 x, .func (.func 129) #[] #[]] w fun e w' => e = .returned (.tuple #[.int .i64 (cntP l x : Nat), .bool (hasP l x)]) ∧ Below w.heap.size w w' := by
  obtain ⟨a, b, off, cap, rfl, hadr, hpts⟩ := hv
  have HADR := Lib.hid hadr
  have HP := Lib.hid hpts
  have HS := Lib.hid hs
  have HN : Hid (l.length ≤ 1000000000000) := Lib.hid hn
  have HKD : Hid (∀ i j, FindI l x i j → ¬ i < j → cntP l x = i) := Lib.hid fun i j h hij => FindI.done hs h hij
  have HA := Lib.hid (has_at hs x)
  have HNA := Lib.hid (has_not hs x)
  obtain ⟨K, hK⟩ : ∃ K, K = cntP l x := ⟨_, rfl⟩
  obtain ⟨R, hR⟩ : ∃ R, R = hasP l x := ⟨_, rfl⟩
  rw [← hK] at HA HNA HKD ⊢
  rw [← hR] at HA HNA ⊢
  clear hadr hpts hn hs hK hR
  have HO : Hid (∀ W (p : Pt), Calls Tryz.prog 129 #[.agg #[.int .i64 p.a, .int .i64 p.v], .int .i64 x] W fun e w' => e = .returned (.int .i64 (cmpI p.a x)) ∧ Below W.heap.size W w') := Lib.hid fun W p => seat_any W p.a p.v x
  go_enter Tryz.func128, Tryz.ntmps128
  go_wp2_with fail
  go_loopw [9, 10] (fun c d wr => ∃ i j : Nat, c = .int .i64 i ∧ d = .int .i64 j ∧ FindI l x i j ∧ Below w.heap.size w wr) (fun c d _ => (intOf d).toNat - (intOf c).toNat)
  case atStart => exact ⟨0, l.length, rfl, rfl, FindI.start l x, Below.refl _ _⟩
  case round =>
    obtain ⟨i, j, rfl, rfl, hf, hb⟩ := hrel
    obtain ⟨W3, hW3⟩ : ∃ W3, W3 = wr := ⟨_, rfl⟩
    subst hW3
    have HB := Lib.hid hb
    have HF := Lib.hid hf
    have HPT := Lib.hid (HP.out.beyond hb)
    have hjn : j ≤ l.length := hf.2.1
    clear hb hf
    by_cases hlt : i < j
    · obtain ⟨m, hm⟩ : ∃ m, m = (i + j) / 2 := ⟨_, rfl⟩
      have hmj : m < j := by omega
      have him : i ≤ m := by omega
      have hml : m < l.length := by omega
      have ea := HADR.out (by intro h; simp [h] at hml)
      subst ea
      obtain ⟨p, hp⟩ : ∃ p, l[m]? = some p := ⟨l[m], List.getElem?_eq_getElem hml⟩
      obtain ⟨c0, c1⟩ := HPT.out m p hp
      have HPK := Lib.hid hp
      have hmax : j ≤ 1000000000000 := by have := HN.out; omega
      have e1 : ((i : Int) + (j : Int)) / 2 = (m : Int) := by omega
      have HM := Lib.hid hm
      clear hp hm
      go_wp2_with fail
      refine (HO.out W3 p).mono ?_
      rintro e W4 ⟨rfl, hb4⟩
      have HB4 := Lib.hid (HB.out.trans (hb4.mono HB.out.size))
      clear hb4 c0 c1
      have hcn := cmpI_neg p.a x
      obtain ⟨C, hC⟩ : ∃ C, C = cmpI p.a x := ⟨_, rfl⟩
      rw [← hC] at hcn ⊢
      clear hC
      dsimp only
      by_cases hx : p.a < x
      · have HFN : Hid (FindI l x (m + 1) j) := Lib.hid (FindI.up HS.out HF.out hmj HPK.out hx him)
        have tC : decide (C < 0) = true := by rw [hcn]; exact decide_eq_true hx
        clear hx hcn
        go_wp2_with fail
        go_roundw
        case rel => exact ⟨m + 1, j, by go_num, rfl, HFN.out, HB4.out⟩
        case measure => simp [intOf]; omega
      · have HFN : Hid (FindI l x i m) := Lib.hid (FindI.down HS.out HF.out hmj HPK.out hx him)
        have tC : decide (C < 0) = false := by rw [hcn]; exact decide_eq_false hx
        clear hx hcn
        go_wp2_with fail
        go_roundw
        case rel => exact ⟨i, m, rfl, rfl, HFN.out, HB4.out⟩
        case measure => simp [intOf]; omega
    · have hci := HKD.out i j HF.out hlt
      subst hci
      have hil : K ≤ l.length := by have := HF.out.1; omega
      clear HF hjn
      by_cases hin : K < l.length
      · have ea := HADR.out (by intro h; simp [h] at hin)
        subst ea
        obtain ⟨p, hp⟩ : ∃ p, l[K]? = some p := ⟨l[K], List.getElem?_eq_getElem hin⟩
        obtain ⟨c0, c1⟩ := HPT.out K p hp
        have tR : (cmpI p.a x == 0) = R := by
          rw [cmpI_same]
          cases R with
          | true =>
            obtain ⟨q, hq, hqx⟩ := HA.out.1 rfl
            rw [hp] at hq
            rw [Option.some.inj hq]; exact decide_eq_true hqx
          | false => exact decide_eq_false (HNA.out.1 rfl p hp)
        clear hp HA HNA
        obtain ⟨C, hC⟩ : ∃ C, C = cmpI p.a x := ⟨_, rfl⟩
        have HO2 := HO.out W3 p
        rw [← hC] at tR HO2
        clear hC
        have HO3 := Lib.hid HO2
        clear HO2
        go_wp2_with fail
        refine HO3.out.mono ?_
        rintro e W4 ⟨rfl, hb4⟩
        have HB4 := Lib.hid (HB.out.trans (hb4.mono HB.out.size))
        clear hb4 c0 c1
        dsimp only
        go_wp2_with fail
        go_ret2
        exact ⟨rfl, HB4.out⟩
      · have HRF : Hid (R = false) := Lib.hid (by
          cases R with
          | false => rfl
          | true =>
            obtain ⟨q, hq, _⟩ := HA.out.1 rfl
            exact absurd (List.getElem?_eq_some_iff.1 hq).1 hin)
        clear HA HNA
        go_wp2_with fail
        go_ret2
        exact ⟨by rw [HRF.out]; rfl, HB.out⟩
set_option maxHeartbeats 4000000 in
theorem seplace_any {w : World} {v : Value} {l : List Pt} (hv : PLies w v l) (hs : Srt l) (hn : l.length ≤ 1000000000000) (x : Int) :
    Calls Tryz.prog 111 #[v, .int .i64 x] w fun e w' => e = .returned (.tuple #[.int .i64 (cntP l x : Nat), .bool (hasP l x)]) ∧ Below w.heap.size w w' := by
  have H := Lib.hid (sefind_any hv hs hn x)
  clear hv hs
  obtain ⟨K, hK⟩ : ∃ K, K = cntP l x := ⟨_, rfl⟩
  obtain ⟨R, hR⟩ : ∃ R, R = hasP l x := ⟨_, rfl⟩
  rw [← hK, ← hR] at H ⊢
  clear hK hR
  go_enter Tryz.func111, Tryz.ntmps111
  go_wp2_with fail
  refine H.out.mono ?_
  rintro e W2 ⟨rfl, hb⟩
  have HB := Lib.hid hb
  clear hb
  go_wp2
  go_ret2
  exact ⟨rfl, HB.out⟩
end Go.Proofs.YthbdchleppbidaaGreat
/- Package series: a point inserted. -/
namespace Go.Proofs.YthbdchleppbidaaGreat
open Go.RowKit

theorem ptCells_len (p : Pt) : p.cells.length = 2 := rfl
theorem pt_one (p : Pt) : ∀ u ∈ p.cells, u.oneCell' = true := fun u hu => by simp [Pt.cells] at hu; rcases hu with rfl | rfl <;> rfl
theorem PtAt.news {w : World} {vb : Nat} {p : Pt} (h : PtAt w vb p) : ∀ j u, p.cells[j]? = some u → w.cell? ((⟨vb, 0, none⟩ : Addr).add j) = some u := by
  intro j u hu
  obtain ⟨c0, c1, _⟩ := h.cells
  rw [add_at, Nat.zero_add]
  match j with
  | 0 => rw [c0]; exact hu
  | 1 => rw [c1]; exact hu
  | j + 2 => simp [Pt.cells] at hu
theorem PtRowB.snoc {B : Nat} {w : World} {v : Value} {l : List Pt} {p : Pt} (h : w.ownsRow B 47 2 v (l.length + 1) (l.flatMap Pt.cells ++ p.cells)) : PtRowB B w v (l ++ [p]) := by
  unfold PtRowB
  exact flat_snoc h
set_option maxHeartbeats 4000000 in
set_option maxRecDepth 100000 in
theorem seins_end {B : Nat} {w : World} {v : Value} {l : List Pt} {p : Pt} {vb : Nat} (h : PtRowB B w v l) (hB : B ≤ w.heap.size) (hp : PtAt w vb p) (hn : l.length ≤ 1000000) :
    Calls Tryz.prog 119 #[v, .int .i64 (l.length : Nat), .slice (some ⟨vb, 0, none⟩) 1 1] w fun e w' => ∃ v', e = .returned v' ∧ PtRowB B w' v' (l ++ [p]) ∧ Below B w w' := by
  obtain ⟨i0, hi, hz0, hz1, hz2⟩ := info_parts infoPt
  have HR := Lib.hid h
  have HNW := Lib.hid hp.news
  have HBB := Lib.hid hB
  have HN := Lib.hid hn
  obtain ⟨a, c, rfl⟩ := own_slice h
  clear h hp hn hB
  go_enter Tryz.func119, Tryz.ntmps119
  go_wp2_with (at_builtin; refine wpList_append_own_at _ rfl (.tmp 23) (.tmp 24) 44 rfl B 47 i0 (.agg #[.int .i64 0, .int .i64 0]) 2 16 Tryz.underlying44 hi hz0 hz1 hz2 rfl (by decide) _ _ _ rfl HR.out ⟨vb, 0, none⟩ 1 1 p.cells rfl rfl HNW.out (pt_one p) (by have := HN.out; unfold maxLen; omega) (by have := HN.out; omega) HBB.out ?_; intro v7 W7 hown7 hgrow7 _ hwhere7; have HR7 := Lib.hid (PtRowB.snoc hown7); have HB7 : Hid (Below B w W7) := Lib.hid ((Below.refl B w).grown hgrow7 HBB.out (fun b hb => (HR.out.lt b hb).1)); clear hown7 hgrow7 hwhere7)
  all_goals (go_ret; exact ⟨_, rfl, HR7.out, HB7.out⟩)
theorem overlaps_apart {w : World} {vb g off lb cb : Nat} {p : Pt} {cur : List Value} (hp : PtAt w vb p) (hg : Arr w g 47 cur) (hne : vb ≠ g) (hc : cur.length ≠ 0) :
    (callFunc 135 #[.slice (some ⟨vb, 0, none⟩) 1 1, .slice (some ⟨g, off, none⟩) lb cb]).run Tryz.prog w = .ok (.value (.bool false)) w := by
  have hz : ∀ w, (Go.sizeOf 47).run Tryz.prog w = .ok 2 w := fun w => by
    obtain ⟨i0, hi, _, hz1, _⟩ := info_parts infoPt
    simp [sizeOf, typeInfo, hi, hz1]
  have s1 : w.shape? vb = some (47, 2) := by unfold PtAt at hp; simp [World.shape?, hp]
  have s2 : w.shape? g = some (47, cur.length) := by unfold Arr at hg; simp [World.shape?, hg]
  rw [run_callFunc_extern Tryz.func135 (by kernel_rfl) (by kernel_rfl) (by kernel_rfl) (e := Extern.SlicesOverlaps.overlaps #[44, 44] #[4]) (by kernel_rfl),
    Lib.run_overlaps_apart w 44 4 47 Tryz.underlying44 2 hz ⟨vb, 0, none⟩ ⟨g, off, none⟩ 1 1 lb cb hne 47 47 2 cur.length s1 s2 hc hp.cells.2.2.1 (by unfold PtAt at hp; simp [World.frozen?, hp])]
  rfl
set_option maxHeartbeats 8000000 in
set_option maxRecDepth 100000 in
theorem seins_shift {g n i cap : Nat} {w : World} {A D R : List Value} {p : Pt} {vb : Nat} (hg : Arr w g 47 (A ++ (D ++ R))) (hA : A.length = i * 2) (hD : D.length = (n - i) * 2) (hR : R.length = (cap - n) * 2) (hin : i < n) (hnc : n + 1 ≤ cap) (hcm : cap ≤ maxLen)
    (h1 : ∀ u ∈ D, u.oneCell' = true) (hp : PtAt w vb p) (hne : vb ≠ g) :
    Calls Tryz.prog 119 #[.slice (some ⟨g, 0, none⟩) n cap, .int .i64 i, .slice (some ⟨vb, 0, none⟩) 1 1] w fun e w' => e = .returned (.slice (some ⟨g, 0, none⟩) (n + 1 : Nat) cap) ∧ Arr w' g 47 (A ++ (p.cells ++ (D ++ R.drop 2))) ∧ Only (fun k => k = g) w w' := by
  have hcm' : cap ≤ 9223372036854775807 := by unfold maxLen at hcm; omega
  have hov : ∀ off lb cb, (callFunc 135 #[.slice (some ⟨vb, 0, none⟩) 1 1, .slice (some ⟨g, off, none⟩) lb cb]).run Tryz.prog w = .ok (.value (.bool false)) w := fun off lb cb => overlaps_apart hp hg hne (by rw [List.length_append, List.length_append, hA, hD, hR]; omega)
  have HG := Lib.hid hg
  have HP := Lib.hid hp
  have HA := Lib.hid hA
  have HD := Lib.hid hD
  have HR := Lib.hid hR
  have H1 := Lib.hid h1
  have hni : ¬ ((i : Int) = (n : Int)) := by omega
  have hroom : ¬ ((cap : Int) < (n : Int) + 1) := by omega
  have hw1 : IntKind.i64.wrap ((i : Int) + 1) = (i : Int) + 1 := by rw [IntKind.wrap_i64]; omega
  have hw2 : IntKind.i64.wrap ((n : Int) + 1) = (n : Int) + 1 := by rw [IntKind.wrap_i64]; omega
  have hci : ¬ (cap = i) := by omega
  have hci1 : ¬ (cap = i + 1) := by omega
  have hb1 : (0 : Int) ≤ (i : Int) + 1 := by omega
  have hb2 : i ≤ n := by omega
  have hb3 : (i : Int) ≤ (n : Int) + 1 := by omega
  have HSZ : Hid ((Tryz.prog.info? 47).map (·.size) = some 2) := Lib.hid (by obtain ⟨i0, hi, _, hz1, _⟩ := info_parts infoPt; rw [hi]; simp [hz1])
  have HDN : Hid (D.length = Nat.min (n + 1 - i) (n - i) * 2) := Lib.hid (by rw [hD, show Nat.min (n + 1 - i) (n - i) = n - i by simp only [Nat.min_def]; split <;> omega])
  have HDS : Hid (∀ j v, D[j]? = some v → w.drew.cell? ((⟨g, i * 2, none⟩ : Addr).add j) = some v) := Lib.hid (fun j u hu => by
    rw [add_at]
    refine hg.cell (i := i * 2 + j) ?_
    have hj := (List.getElem?_eq_some_iff.1 hu).1
    rw [List.getElem?_append_right (by omega), hA, show i * 2 + j - i * 2 = j by omega, List.getElem?_append_left hj]; exact hu)
  have HFIT : Hid ((i + 1) * 2 + D.length ≤ (A ++ (D ++ R)).length) := Lib.hid (by rw [List.length_append, List.length_append, hA, hD, hR]; omega)
  clear hg hp hA hD hR h1
  go_enter Tryz.func119, Tryz.ntmps119
  go_wp2_with (simp only [hov])
  go_region_law (refine step_copy_K rfl (.tmp 73) (.tmp 76) 44 44 rfl 47 2 Tryz.underlying44 HSZ.out g ((i + 1) * 2) (n - i) (cap - (i + 1)) ⟨g, i * 2, none⟩ (n + 1 - i) (cap - i) (by simp [Act.eval, Act.put]) (by simp [Act.eval, Act.put]) (A ++ (D ++ R)) 47 HG.out D HDN.out HDS.out HFIT.out H1.out ?_; intro W1 HG1 HO1)
  have HP1 : Hid (∀ j u, p.cells[j]? = some u → W1.cell? ((⟨vb, 0, none⟩ : Addr).add j) = some u) := Lib.hid (PtAt.news (HP.out.only (S := fun k => k = g) ((Only.drew _ w).trans HO1.out (fun _ _ h => h)) hne))
  have HFI1 : Hid (i * 2 + p.cells.length ≤ (splice (A ++ (D ++ R)) ((i + 1) * 2) D).length) := Lib.hid (by rw [length_splice _ _ _ HFIT.out, List.length_append, List.length_append, HA.out, HD.out, HR.out, ptCells_len]; omega)
  have HPN : Hid (p.cells.length = Nat.min 1 (n + 1 - i) * 2) := Lib.hid (by rw [show Nat.min 1 (n + 1 - i) = 1 by simp only [Nat.min_def]; split <;> omega]; rfl)
  repeat (first | ((with_reducible refine wpList_dst (some 82) rfl ?_); refine wpList_copy_K rfl (.tmp 80) (.tmp 81) 44 44 rfl 47 2 Tryz.underlying44 HSZ.out g (i * 2) (n + 1 - i) (cap - i) ⟨vb, 0, none⟩ 1 1 rfl rfl (splice (A ++ (D ++ R)) ((i + 1) * 2) D) 47 HG1.out p.cells HPN.out HP1.out HFI1.out (pt_one p) ?_; intro W2 HG2 HO2) | go_values | go_skip | go_guarded | go_step | go_upon)
  go_ret
  refine ⟨rfl, ?_, ((Only.drew _ w).trans HO1.out (fun _ _ h => h)).trans HO2.out (fun _ _ h => h)⟩
  have h2 := HG2.out
  rw [show (i + 1) * 2 = A.length + p.cells.length by rw [HA.out, ptCells_len]; omega, show i * 2 = A.length from HA.out.symm, shift_row A D R p.cells (by rw [ptCells_len, HR.out]; omega)] at h2
  exact h2
set_option maxHeartbeats 8000000 in
set_option maxRecDepth 100000 in
theorem seins_grow {g n i cap : Nat} {w : World} {A D R : List Value} {p : Pt} {vb : Nat} (hg : Arr w g 47 (A ++ (D ++ R))) (hA : A.length = i * 2) (hD : D.length = (n - i) * 2) (hin : i < n) (hnc : n ≤ cap) (hroom : cap < n + 1) (hn : n ≤ 1000000)
    (h1 : ∀ u ∈ D, u.oneCell' = true) (hp : PtAt w vb p) :
    Calls Tryz.prog 119 #[.slice (some ⟨g, 0, none⟩) n cap, .int .i64 i, .slice (some ⟨vb, 0, none⟩) 1 1] w fun e w' => ∃ G R', e = .returned (.slice (some ⟨w.heap.size, 0, none⟩) (n + 1 : Nat) G) ∧ Arr w' w.heap.size 47 (A ++ (p.cells ++ (D ++ R'))) ∧ R'.length = (G - (n + 1)) * 2 ∧ n + 1 ≤ G ∧ G ≤ maxLen ∧ Below w.heap.size w w' := by
  obtain ⟨i0, hi, hz0, hz1, hz2⟩ := info_parts infoPt
  have HG := Lib.hid hg
  have HP := Lib.hid hp
  have HA := Lib.hid hA
  have HD := Lib.hid hD
  have H1 := Lib.hid h1
  have hni : ¬ ((i : Int) = (n : Int)) := by omega
  have hroom1 : (cap : Int) < (n : Int) + 1 := by omega
  have hw1 : IntKind.i64.wrap ((i : Int) + 1) = (i : Int) + 1 := by rw [IntKind.wrap_i64]; omega
  have hw2 : IntKind.i64.wrap ((n : Int) + 1) = (n : Int) + 1 := by rw [IntKind.wrap_i64]; omega
  have hw3 : IntKind.i64.wrap ((n : Int) + 1 - (i : Int)) = (n : Int) + 1 - (i : Int) := by rw [IntKind.wrap_i64]; omega
  have hci : ¬ (cap = i) := by omega
  have hb1 : (0 : Int) ≤ (i : Int) + 1 := by omega
  have hb2 : i ≤ n := by omega
  have hb3 : (i : Int) ≤ (n : Int) + 1 := by omega
  have hb4 : i ≤ cap := by omega
  have HSZ : Hid ((Tryz.prog.info? 47).map (·.size) = some 2) := Lib.hid (by rw [hi]; simp [hz1])
  have HOL : Hid (∀ j u, A[j]? = some u → w.cell? ((⟨g, 0, none⟩ : Addr).add j) = some u) := Lib.hid (fun j u hu => by
    rw [add_at, Nat.zero_add]
    refine hg.cell (i := j) ?_
    have hj := (List.getElem?_eq_some_iff.1 hu).1
    rw [List.getElem?_append_left hj]; exact hu)
  have HDL : Hid (∀ j u, D[j]? = some u → w.cell? ((⟨g, i * 2, none⟩ : Addr).add j) = some u) := Lib.hid (fun j u hu => by
    rw [add_at]
    refine hg.cell (i := i * 2 + j) ?_
    have hj := (List.getElem?_eq_some_iff.1 hu).1
    rw [List.getElem?_append_right (by omega), hA, show i * 2 + j - i * 2 = j by omega, List.getElem?_append_left hj]; exact hu)
  have HGL : Hid (g < w.heap.size) := Lib.hid hg.lt
  have HPN : Hid (p.cells.length = Nat.min 1 (n + 1 - i) * 2) := Lib.hid (by rw [show Nat.min 1 (n + 1 - i) = 1 by simp only [Nat.min_def]; split <;> omega]; rfl)
  have HDN : Hid (D.length = Nat.min (n - i) (n - i) * 2) := Lib.hid (by rw [hD, show Nat.min (n - i) (n - i) = n - i by simp only [Nat.min_def]; split <;> omega])
  obtain ⟨B, hB⟩ : ∃ B, B = w.heap.size := ⟨_, rfl⟩
  have HB := Lib.hid hB
  rw [← hB]
  clear hg hp hA hD h1 hB
  go_enter Tryz.func119, Tryz.ntmps119
  repeat ((fail_if_success (with_reducible refine wpList_dst (some 41) rfl ?_)); first | ((with_reducible refine wpList_dst (some 40) rfl ?_); refine wpList_append_zeros rfl (.tmp 34) (.tmp 39) 44 3 rfl 47 i0 (.agg #[.int .i64 0, .int .i64 0]) 2 16 .i64 Tryz.underlying44 Tryz.underlying3 hi hz0 hz1 hz2 rfl (by decide) (by decide) ⟨g, 0, none⟩ i cap (n + 1 - i) (n + 1) B ((n : Int) + 1 - (i : Int)) rfl rfl (by omega) A HA.out HOL.out (by omega) (by omega) (by omega) (by omega) HB.out.symm ?_; intro G Z W1 HGG HZ HG1 HB1) | go_values | go_skip | go_guarded | go_step)
  have hGi : ¬ (G = i) := by have := HGG.out.1; omega
  have hGi1 : ¬ (G = i + 1) := by have := HGG.out.1; omega
  have hGm : G ≤ 9223372036854775807 := by have := HGG.out.2; unfold maxLen at this; omega
  have hGn : n + 1 ≤ G := HGG.out.1
  have HP1 := Lib.hid (PtAt.news (HP.out.keep HB1.out))
  have HFI1 : Hid (i * 2 + p.cells.length ≤ (A ++ Z).length) := Lib.hid (by rw [List.length_append, HA.out, HZ.out, ptCells_len]; omega)
  repeat (first | ((with_reducible refine wpList_dst (some 45) rfl ?_); refine wpList_copy_K rfl (.tmp 43) (.tmp 44) 44 44 rfl 47 2 Tryz.underlying44 HSZ.out B (i * 2) (n + 1 - i) (G - i) ⟨vb, 0, none⟩ 1 1 rfl rfl (A ++ Z) 47 HG1.out p.cells HPN.out HP1.out HFI1.out (pt_one p) ?_; intro W2 HG2 HO2) | go_values | go_skip | go_guarded | go_step)
  have hgB : ¬ g = B := by have h1 := HGL.out; have h2 := HB.out; omega
  have HD2 : Hid (∀ j u, D[j]? = some u → W2.drew.cell? ((⟨g, i * 2, none⟩ : Addr).add j) = some u) := Lib.hid (fun j u hu => by
    have h0 := HDL.out j u hu
    rw [add_at] at h0 ⊢
    have h1 : W1.cell? ⟨g, i * 2 + j, none⟩ = some u := by rw [← h0]; exact HB1.out.cell (p := ⟨g, i * 2 + j, none⟩) HGL.out
    rw [← h1]
    exact World.cell?_of_block (w := W1) (a := ⟨g, i * 2 + j, none⟩) (HO2.out.block g (by have := HB1.out.size; have := HGL.out; omega) hgB))
  have HFI2 : Hid ((i + 1) * 2 + D.length ≤ (splice (A ++ Z) (i * 2) p.cells).length) := Lib.hid (by rw [length_splice _ _ _ HFI1.out, List.length_append, HA.out, HD.out, HZ.out]; omega)
  go_region_law (refine step_copy_K rfl (.tmp 50) (.tmp 53) 44 44 rfl 47 2 Tryz.underlying44 HSZ.out B ((i + 1) * 2) (n - i) (G - (i + 1)) ⟨g, i * 2, none⟩ (n - i) (cap - i) (by simp [Act.eval, Act.put]) (by simp [Act.eval, Act.put]) (splice (A ++ Z) (i * 2) p.cells) 47 HG2.out D HDN.out HD2.out HFI2.out H1.out ?_; intro W3 HG3 HO3)
  go_wp2
  go_ret
  refine ⟨G, Z.drop (2 + D.length), rfl, ?_, ?_, HGG.out.1, HGG.out.2, ?_⟩
  · have h2 := HG3.out
    rw [show (i + 1) * 2 = A.length + p.cells.length by rw [HA.out, ptCells_len]; omega, show i * 2 = A.length from HA.out.symm, grow_row A D Z p.cells, ptCells_len] at h2
    exact h2
  · rw [List.length_drop, HZ.out, HD.out]; omega
  · rw [HB.out]
    refine HB1.out.trans ((HO2.out.trans ((Only.drew (fun k => k = B) W2).trans HO3.out (fun _ _ h => h)) (fun _ _ h => h)).below HB1.out.size (fun k hk => by rw [hk, HB.out]; exact Nat.le_refl _))
theorem ins_flat (l : List Pt) (i : Nat) (p : Pt) : (l.take i ++ p :: l.drop i).flatMap Pt.cells = (l.take i).flatMap Pt.cells ++ (p.cells ++ (l.drop i).flatMap Pt.cells) := by rw [List.flatMap_append, List.flatMap_cons]
theorem flat_split (l : List Pt) (i : Nat) : l.flatMap Pt.cells = (l.take i).flatMap Pt.cells ++ (l.drop i).flatMap Pt.cells := by rw [← List.flatMap_append, List.take_append_drop]
/-- a point inserted into a row of one's own -/
theorem seins_any {B : Nat} {w : World} {v : Value} {l : List Pt} {p : Pt} {vb i : Nat} (h : PtRowB B w v l) (hB : B ≤ w.heap.size) (hi : i ≤ l.length) (hp : PtAt w vb p) (hv : v.ownBlock ≠ some vb) (hn : l.length ≤ 1000000) :
    Calls Tryz.prog 119 #[v, .int .i64 (i : Nat), .slice (some ⟨vb, 0, none⟩) 1 1] w fun e w' => ∃ v', e = .returned v' ∧ PtRowB B w' v' (l.take i ++ p :: l.drop i) ∧ Below B w w' := by
  rcases Nat.lt_or_ge i l.length with hlt | hge
  · rcases h.opened with ⟨_, rfl⟩ | ⟨g, cap, R, rfl, hbg, hg, hR, hnc, hcm⟩
    · simp at hlt
    · have hA : ((l.take i).flatMap Pt.cells).length = i * 2 := by rw [flatP_length, List.length_take, Nat.min_eq_left hi]
      have hD : ((l.drop i).flatMap Pt.cells).length = (l.length - i) * 2 := by rw [flatP_length, List.length_drop]
      have hne : vb ≠ g := fun e => hv (by rw [e]; rfl)
      rw [flat_split l i, List.append_assoc] at hg
      by_cases hroom : cap < l.length + 1
      · refine (seins_grow hg hA hD hlt hnc hroom hn (flatP_one _) hp).mono ?_
        rintro e w' ⟨G, R', rfl, h1, h2, h3, h4, h5⟩
        have e1 : l.length + 1 = (l.take i ++ p :: l.drop i).length := (ins_len l i p).symm
        refine ⟨_, rfl, ?_, h5.mono hB⟩
        rw [e1]
        refine PtRowB.shut (R := R') hB ?_ (by rw [← e1]; exact h2) (by rw [← e1]; exact h3) h4
        rw [ins_flat, List.append_assoc, List.append_assoc]; exact h1
      · refine (seins_shift hg hA hD hR hlt (by omega) hcm (flatP_one _) hp hne).mono ?_
        rintro e w' ⟨rfl, h1, h2⟩
        have e1 : l.length + 1 = (l.take i ++ p :: l.drop i).length := (ins_len l i p).symm
        refine ⟨_, rfl, ?_, h2.below hB (fun k hk => by rw [hk]; exact hbg)⟩
        rw [e1]
        refine PtRowB.shut (R := R.drop 2) hbg ?_ (by rw [List.length_drop, hR, ← e1]; omega) (by rw [← e1]; omega) hcm
        rw [ins_flat, List.append_assoc, List.append_assoc]; exact h1
  · obtain rfl : i = l.length := by omega
    refine (seins_end h hB hp hn).mono ?_
    rintro e w' ⟨v', rfl, h1, h2⟩
    exact ⟨v', rfl, by rw [List.take_length, List.drop_length]; exact h1, h2⟩
end Go.Proofs.YthbdchleppbidaaGreat
/- Package series: a point put into a rising list. -/
namespace Go.Proofs.YthbdchleppbidaaGreat
open Go.RowKit

theorem flat_set {l : List Pt} {i : Nat} (hi : i < l.length) (p : Pt) : ((l.flatMap Pt.cells).set (i * 2) (.int .i64 p.a)).set (i * 2 + 1) (.int .i64 p.v) = (l.set i p).flatMap Pt.cells := by
  induction l generalizing i with
  | nil => simp at hi
  | cons q r ih =>
    cases i with
    | zero => rfl
    | succ i =>
      have h := ih (i := i) (by simpa using hi)
      rw [List.flatMap_cons, List.set_cons_succ, List.flatMap_cons, ← h]
      have e1 : (i + 1) * 2 = i * 2 + 1 + 1 := by omega
      rw [e1]
      rfl
/-- a point stored into a row of one's own -/
def setPt (w : World) (g o : Nat) (p : Pt) : World := (w.setCell ⟨g, o, none⟩ (.int .i64 p.a)).setCell ⟨g, o + 1, none⟩ (.int .i64 p.v)
theorem setPt_only (w : World) (g o : Nat) (p : Pt) : Only (fun k => k = g) w (setPt w g o p) :=
  (Only.setCell (S := fun k => k = g) _ rfl _).trans (Only.setCell (S := fun k => k = g) _ rfl _) (fun _ _ h => h)
theorem PtRowB.set {B g cap : Nat} {w : World} {l : List Pt} {R : List Value} (hb : B ≤ g) (hg : Arr w g 47 (l.flatMap Pt.cells ++ R)) (hR : R.length = (cap - l.length) * 2) (hnc : l.length ≤ cap) (hcm : cap ≤ maxLen) {i : Nat} (hi : i < l.length) (p : Pt) :
    PtRowB B (setPt w g (i * 2) p) (.slice (some ⟨g, 0, none⟩) l.length cap) (l.set i p) := by
  have h1 := (hg.set (i * 2) (.int .i64 p.a)).set (i * 2 + 1) (.int .i64 p.v)
  have hl := flatP_length l
  rw [List.set_append_left _ _ (by omega), List.set_append_left _ _ (by rw [List.length_set]; omega), flat_set hi] at h1
  have e : l.length = (l.set i p).length := (List.length_set ..).symm
  rw [e] at hR hnc ⊢
  exact PtRowB.shut hb h1 hR hnc hcm
set_option maxHeartbeats 8000000 in
set_option maxRecDepth 100000 in
theorem sewith_any {B : Nat} {w : World} {v : Value} {l : List Pt} (p : Pt) (h : PtRowB B w v l) (hB : B ≤ w.heap.size) (hs : Srt l) (hn : l.length ≤ 1000000) :
    Calls Tryz.prog 97 #[v, .agg #[.int .i64 p.a, .int .i64 p.v]] w fun e w' => ∃ v', e = .returned v' ∧ PtRowB B w' v' (putP l p) ∧ Below B w w' := by
  have HPL : Hid (∀ W, PLies W v l → Calls Tryz.prog 111 #[v, .int .i64 p.a] W fun e w' => e = .returned (.tuple #[.int .i64 (cntP l p.a : Nat), .bool (hasP l p.a)]) ∧ Below W.heap.size W w') := Lib.hid fun W hW => seplace_any hW hs (by omega) p.a
  have HR := Lib.hid h
  have HBB := Lib.hid hB
  have HNE : Hid (hasP l p.a = false → putP l p = l.take (cntP l p.a) ++ p :: l.drop (cntP l p.a)) := Lib.hid (put_new hs p)
  have HOL : Hid (hasP l p.a = true → putP l p = l.set (cntP l p.a) p) := Lib.hid (put_old hs p)
  have HLT : Hid (hasP l p.a = true → cntP l p.a < l.length) := Lib.hid fun e => by
    obtain ⟨q, hq, _⟩ := (has_at hs p.a).1 e
    exact (List.getElem?_eq_some_iff.1 hq).1
  have HCN : Hid (cntP l p.a ≤ l.length) := Lib.hid (cnt_le l p.a)
  have HIN : Hid (∀ W vb i, PtRowB B W v l → B ≤ W.heap.size → i ≤ l.length → PtAt W vb p → v.ownBlock ≠ some vb → Calls Tryz.prog 119 #[v, .int .i64 (i : Nat), .slice (some ⟨vb, 0, none⟩) 1 1] W fun e w' => ∃ v', e = .returned v' ∧ PtRowB B w' v' (l.take i ++ p :: l.drop i) ∧ Below B W w') := Lib.hid fun W vb i h1 h2 h3 h4 h5 => seins_any h1 h2 h3 h4 h5 hn
  have HN := Lib.hid hn
  obtain ⟨T, hT⟩ : ∃ T, T = putP l p := ⟨_, rfl⟩
  obtain ⟨K, hK⟩ : ∃ K, K = cntP l p.a := ⟨_, rfl⟩
  obtain ⟨q, hq⟩ : ∃ q, q = hasP l p.a := ⟨_, rfl⟩
  rw [← hT] at HNE HOL ⊢
  rw [← hK] at HPL HNE HOL HLT HCN
  rw [← hq] at HPL HNE HOL HLT
  clear h hB hs hn hT hK hq
  go_enter Tryz.func97, Tryz.ntmps97
  repeat (first | go_values | go_skip | go_guarded | go_step)
  refine calls_name ?_
  intro W1 hW1
  obtain ⟨P, hP⟩ : ∃ P, P = w.heap.size := ⟨_, rfl⟩
  have hb1 : Below w.heap.size w W1 := by rw [hW1.out]; exact (Below.refl _ _).alloc (Nat.le_refl _) _
  have HT1 : Hid (PtAt W1 P p) := Lib.hid (by rw [hW1.out, hP]; exact PtAt.new w p)
  have HR1 := Lib.hid (HR.out.keep hb1)
  have HB1 := Lib.hid (hb1.mono HBB.out)
  have HFR : Hid (v.ownBlock ≠ some P) := Lib.hid (HR.out.far (by omega))
  have HPB : Hid (B ≤ P) := Lib.hid (by rw [hP]; exact HBB.out)
  rw [← hP]
  clear hW1 hP hb1 HR
  refine (HPL.out W1 HR1.out.plies).mono ?_
  rintro e W2 ⟨rfl, hb⟩
  have HT2 := Lib.hid (HT1.out.keep hb)
  have HR2 := Lib.hid (HR1.out.keep hb)
  have HB2 : Hid (Below B w W2) := Lib.hid (HB1.out.trans (hb.mono (Nat.le_trans HBB.out HB1.out.size)))
  clear hb HT1 HR1 HB1 HPL
  dsimp only
  obtain ⟨c0, c1, -, -⟩ := HT2.out.cells
  cases q with
  | false =>
    have HE := Lib.hid (HNE.out rfl)
    clear HNE HOL HLT
    repeat (first | go_values | go_skip | go_guarded | go_step)
    refine calls_name ?_
    intro W3 hW3
    obtain ⟨V, hV⟩ : ∃ V, V = W2.heap.size := ⟨_, rfl⟩
    have hb3 : Below W2.heap.size W2 W3 := by rw [hW3.out]; exact (Below.refl _ _).alloc (Nat.le_refl _) _
    have HV3 : Hid (PtAt W3 V p) := Lib.hid (by rw [hW3.out, hV]; exact PtAt.new W2 p)
    have HR3 := Lib.hid (HR2.out.keep hb3)
    have HF3 : Hid (v.ownBlock ≠ some V) := Lib.hid (HR2.out.far (by omega))
    have HS2 : Hid (B ≤ W2.heap.size) := Lib.hid (Nat.le_trans HBB.out HB2.out.size)
    have HB3 : Hid (Below B w W3) := Lib.hid (HB2.out.trans (hb3.mono HS2.out))
    rw [← hV]
    clear hW3 hb3 hV c0 c1
    refine (HIN.out W3 V K HR3.out (Nat.le_trans HBB.out HB3.out.size) HCN.out HV3.out HF3.out).mono ?_
    rintro e W4 ⟨v4, rfl, hr4, hb4⟩
    have HR4 := Lib.hid hr4
    have HB4 := Lib.hid (HB3.out.trans hb4)
    clear hr4 hb4
    dsimp only
    repeat (first | go_values | go_skip | go_guarded | go_step)
    go_ret
    exact ⟨_, rfl, by rw [HE.out]; exact HR4.out, HB4.out⟩
  | true =>
    have HE := Lib.hid (HOL.out rfl)
    have hlt := HLT.out rfl
    clear HNE HOL HLT
    rcases HR2.out.opened with ⟨rfl, rfl⟩ | ⟨g, cap, R, rfl, hbg, hg, hR, hnc, hcm⟩
    · simp at hlt
    · have HG := Lib.hid hg
      have HRR := Lib.hid hR
      have HBG := Lib.hid hbg
      have hKl := flatP_length l
      have c2 : W2.cell? ⟨g, K * 2, none⟩ = some (.int .i64 l[K].a) := hg.cell (by rw [List.getElem?_append_left (by omega)]; exact flatP_get (List.getElem?_eq_getElem hlt) 0 (by omega))
      have c3 : W2.cell? ⟨g, K * 2 + 1, none⟩ = some (.int .i64 l[K].v) := hg.cell (by rw [List.getElem?_append_left (by omega)]; exact flatP_get (List.getElem?_eq_getElem hlt) 1 (by omega))
      have f2 := hg.free (K * 2)
      have f3 := hg.free (K * 2 + 1)
      have hHN := HN.out
      clear HIN HFR hg hR hbg hKl
      repeat (first | go_values | go_skip | go_guarded | go_step)
      go_ret
      exact ⟨_, rfl, by rw [HE.out]; exact PtRowB.set HBG.out HG.out HRR.out hnc hcm hlt p, HB2.out.trans ((setPt_only W2 g (K * 2) p).below (Nat.le_trans HBB.out HB2.out.size) (fun k hk => by rw [hk]; exact HBG.out))⟩
end Go.Proofs.YthbdchleppbidaaGreat
/- Package series: is there a point outside? -/
namespace Go.Proofs.YthbdchleppbidaaGreat
open Go.RowKit

theorem PLies.len {w : World} {v : Value} {l : List Pt} (h : PLies w v l) : ∃ a c, v = .slice a l.length c := by
  obtain ⟨a, b, off, cap, rfl, _⟩ := h
  exact ⟨_, _, rfl⟩
set_option maxHeartbeats 4000000 in
set_option maxRecDepth 100000 in
theorem seidx_any {w : World} {v : Value} {l : List Pt} (hv : PLies w v l) (hn : l.length ≤ maxLen) :
    Calls Tryz.prog 95 #[v, .func (.func 96) #[] #[]] w fun e w' => (∃ r : Int, e = .returned (.int .i64 r) ∧ decide (0 ≤ r) = l.any outP) ∧ Below w.heap.size w w' := by
  obtain ⟨a, b, off, cap, rfl, hadr, hpts⟩ := hv
  have HADR := Lib.hid hadr
  have HP := Lib.hid hpts
  have HN : Hid (l.length ≤ maxLen) := Lib.hid hn
  clear hadr hpts hn
  have HO : Hid (∀ W (p : Pt), Calls Tryz.prog 96 #[.agg #[.int .i64 p.a, .int .i64 p.v]] W fun e w' => e = .returned (.bool (outP p)) ∧ Below W.heap.size W w') := Lib.hid fun W p => seout_any W p
  go_enter Tryz.func95, Tryz.ntmps95
  go_wp2_with fail
  go_loopw [8] (fun c wr => ∃ k : Nat, k ≤ l.length ∧ c = .int .i64 k ∧ (l.take k).any outP = false ∧ Below w.heap.size w wr) (fun c _ => l.length - (intOf c).toNat)
  case atStart => exact ⟨0, Nat.zero_le _, rfl, rfl, Below.refl _ _⟩
  case round =>
    obtain ⟨k, hk, rfl, hnone, hb⟩ := hrel
    obtain ⟨W3, hW3⟩ : ∃ W3, W3 = wr := ⟨_, rfl⟩
    subst hW3
    have HB := Lib.hid hb
    have HNO := Lib.hid hnone
    have HPT := Lib.hid (HP.out.beyond hb)
    clear hb hnone
    by_cases hlt : k < l.length
    · have ea := HADR.out (by intro h; simp [h] at hlt)
      subst ea
      obtain ⟨p, hp⟩ : ∃ p, l[k]? = some p := ⟨l[k], List.getElem?_eq_getElem hlt⟩
      obtain ⟨c0, c1⟩ := HPT.out k p hp
      have HPK := Lib.hid hp
      have hmax : k < 9223372036854775807 := by have := HN.out; unfold maxLen at this; omega
      clear hp
      go_wp2_with fail
      refine (HO.out W3 p).mono ?_
      rintro e W4 ⟨rfl, hb4⟩
      have HB4 := Lib.hid (HB.out.trans (hb4.mono HB.out.size))
      clear hb4 c0 c1
      dsimp only
      cases ho : outP p with
      | true =>
        have HYES : Hid (l.any outP = true) := Lib.hid (List.any_eq_true.2 ⟨p, List.mem_of_getElem? HPK.out, ho⟩)
        clear ho
        go_wp2
        go_ret
        exact ⟨⟨k, rfl, by rw [HYES.out]; exact decide_eq_true (by omega)⟩, HB4.out⟩
      | false =>
        have HNX : Hid ((l.take (k + 1)).any outP = false) := Lib.hid (by rw [List.take_add_one, HPK.out, List.any_append, HNO.out]; simp [ho])
        clear ho
        go_wp2_with fail
        go_roundw
        case rel => exact ⟨k + 1, by omega, by go_num, HNX.out, HB4.out⟩
        case measure => simp [intOf]; omega
    · have HZ : Hid (l.any outP = false) := Lib.hid (by have h := HNO.out; rwa [List.take_of_length_le (by omega)] at h)
      go_wp2_with fail
      go_ret
      exact ⟨⟨-1, rfl, by rw [HZ.out]; rfl⟩, HB.out⟩
set_option maxHeartbeats 4000000 in
theorem secont_any {w : World} {v : Value} {l : List Pt} (hv : PLies w v l) (hn : l.length ≤ maxLen) :
    Calls Tryz.prog 53 #[v, .func (.func 96) #[] #[]] w fun e w' => e = .returned (.bool (l.any outP)) ∧ Below w.heap.size w w' := by
  have H := Lib.hid (seidx_any hv hn)
  clear hv
  obtain ⟨R, hR⟩ : ∃ R, R = l.any outP := ⟨_, rfl⟩
  rw [← hR] at H ⊢
  clear hR
  go_enter Tryz.func53, Tryz.ntmps53
  go_wp2_with fail
  refine H.out.mono ?_
  rintro e W2 ⟨⟨r, rfl, hr⟩, hb⟩
  have HB := Lib.hid hb
  have HR := Lib.hid hr
  clear hb hr
  go_wp2
  go_ret
  exact ⟨by rw [← HR.out]; rfl, HB.out⟩
end Go.Proofs.YthbdchleppbidaaGreat
/- Package series: a series as it lies; New, held, Len, Put. -/
namespace Go.Proofs.YthbdchleppbidaaGreat
open Go.RowKit

/-- what a series may have -/
structure GoodS (l : List Pt) : Prop where
  srt : Srt l
  tick : ∀ p ∈ l, 0 ≤ p.a ∧ p.a ≤ 1099511627776
  fits : ∀ p ∈ l, p.fits
  len : l.length ≤ 256
/-- a series at s: its slice is v, its points are l -/
structure SerV (w : World) (s : Nat) (v : Value) (l : List Pt) : Prop where
  at_ : w.heap[s]? = some (.cells #[v] 116 (0, 0))
  row : PtRowB 0 w v l
  good : GoodS l
theorem GoodS.nil : GoodS [] := ⟨srt_nil, fun _ h => by simp at h, fun _ h => by simp at h, by simp⟩
theorem SerV.lt {w : World} {s : Nat} {v : Value} {l : List Pt} (h : SerV w s v l) : s < w.heap.size := lt_of_block h.at_
theorem SerV.cell {w : World} {s : Nat} {v : Value} {l : List Pt} (h : SerV w s v l) : w.cell? ⟨s, 0, none⟩ = some v ∧ w.frozen? ⟨s, 0, none⟩ = false := cells1 h.at_
theorem SerV.ne {w : World} {s : Nat} {v : Value} {l : List Pt} (h : SerV w s v l) : v.ownBlock ≠ some s := row_ne h.at_ h.row (by decide)
/-- the blocks of a series -/
def SBlk (s : Nat) (v : Value) (k : Nat) : Prop := k = s ∨ v.ownBlock = some k
theorem SBlk.lt {w : World} {s : Nat} {v : Value} {l : List Pt} (h : SerV w s v l) {k : Nat} (hk : SBlk s v k) : k < w.heap.size := by
  rcases hk with rfl | hk
  · exact h.lt
  · exact (h.row.lt _ hk).2
theorem SerV.only {S : Nat → Prop} {w w' : World} {s : Nat} {v : Value} {l : List Pt} (h : SerV w s v l) (ho : Only S w w') (hS : ∀ k, SBlk s v k → ¬ S k) : SerV w' s v l :=
  ⟨(ho.block s h.lt (hS s (.inl rfl))).trans h.at_, row_only h.row ho (fun k hk => hS k (.inr hk)), h.good⟩
theorem SerV.keep {w w' : World} {s : Nat} {v : Value} {l : List Pt} (h : SerV w s v l) (hb : Below w.heap.size w w') : SerV w' s v l := h.only (only_beyond (S := fun _ => False) hb) (fun _ _ h => h)
theorem SerV.drew {w : World} {s : Nat} {v : Value} {l : List Pt} (h : SerV w s v l) : SerV w.drew s v l := h.keep ((Below.refl _ w).drew)
theorem SerV.plies {w : World} {s : Nat} {v : Value} {l : List Pt} (h : SerV w s v l) : PLies w v l := h.row.plies
theorem senew_any (w : World) : Calls Tryz.prog 52 #[] w fun e w' => e = .returned (.pointer (some ⟨w.heap.size, 0, none⟩)) ∧ SerV w' w.heap.size (.slice none 0 0) [] ∧ Below w.heap.size w w' := by
  go_enter Tryz.func52, Tryz.ntmps52
  go_wp2
  go_ret
  exact ⟨rfl, ⟨heap_alloc_new w _, PtRowB.nil _ _, GoodS.nil⟩, (Below.refl _ _).alloc (Nat.le_refl _) _⟩
theorem seheld_any {w : World} {s : Nat} {v : Value} {l : List Pt} (h : SerV w s v l) : Calls Tryz.prog 80 #[.pointer (some ⟨s, 0, none⟩)] w fun e w' => e = .returned v ∧ w' = w := by
  have c0 := h.cell.1
  clear h
  go_enter Tryz.func80, Tryz.ntmps80
  go_wp2
  go_ret
  exact ⟨rfl, rfl⟩
theorem seheld_none (w : World) : Calls Tryz.prog 80 #[.pointer none] w fun e w' => e = .returned (.slice none 0 0) ∧ w' = w := by
  go_enter Tryz.func80, Tryz.ntmps80
  go_wp2
  go_ret
  exact ⟨rfl, rfl⟩
theorem selen_any {w : World} {s : Nat} {v : Value} {l : List Pt} (h : SerV w s v l) : Calls Tryz.prog 61 #[.pointer (some ⟨s, 0, none⟩)] w fun e w' => e = .returned (.int .i64 (l.length : Nat)) ∧ w' = w := by
  have H := Lib.hid (seheld_any h)
  obtain ⟨a, c, rfl⟩ := own_slice h.row
  clear h
  go_enter Tryz.func61, Tryz.ntmps61
  go_wp2_with fail
  refine H.out.mono ?_
  rintro e w2 ⟨rfl, hw⟩
  replace hw := hw.symm
  subst hw
  go_wp2
  go_ret
  exact ⟨rfl, rfl⟩
theorem selen_none (w : World) : Calls Tryz.prog 61 #[.pointer none] w fun e w' => e = .returned (.int .i64 0) ∧ w' = w := by
  have H := Lib.hid (seheld_none w)
  go_enter Tryz.func61, Tryz.ntmps61
  go_wp2_with fail
  refine H.out.mono ?_
  rintro e w2 ⟨rfl, hw⟩
  replace hw := hw.symm
  subst hw
  go_wp2
  go_ret
  exact ⟨rfl, rfl⟩
/-- what Put tells, and what is there behind it -/
def putE (l k : List Pt) : Int × Int × List Pt := if k.any outP = true then (0, 3, l) else if 256 < (putL l k).length then (0, 6, l) else (((putL l k).length : Int) - l.length, 0, putL l k)
theorem seput_none (w : World) (x : Value) : Calls Tryz.prog 55 #[.pointer none, x] w fun e w' => e = .returned (.tuple #[.int .i64 0, .int .i64 1]) ∧ w' = w := by
  go_enter Tryz.func55, Tryz.ntmps55
  go_wp2
  go_ret2
  exact ⟨rfl, rfl⟩
theorem any_out {k : List Pt} (h : k.any outP = false) : ∀ p ∈ k, 0 ≤ p.a ∧ p.a ≤ 1099511627776 := by
  intro p hp
  have := List.any_eq_false.1 h p hp
  unfold outP at this
  simp at this
  exact this
theorem GoodS.put {l k : List Pt} (h : GoodS l) (hk : k.any outP = false) (hf : ∀ p ∈ k, p.fits) (hn : (putL l k).length ≤ 256) : GoodS (putL l k) :=
  ⟨putL_srt h.srt k, putL_all h.tick (any_out hk), putL_all h.fits hf, hn⟩
theorem putL_take_len {l : List Pt} (hs : Srt l) (k : List Pt) (j : Nat) : (putL l (k.take j)).length ≤ (putL l k).length := by
  have h := (putL_le (putL_srt hs (k.take j)) (k.drop j)).1
  rwa [← putL_append, List.take_append_drop] at h
theorem putL_snoc {l k : List Pt} {j : Nat} {p : Pt} (h : k[j]? = some p) : putL l (k.take (j + 1)) = putP (putL l (k.take j)) p := by
  rw [List.take_add_one, h, putL_append]; rfl
theorem PLies.get {w : World} {a : Option Addr} {n c : Nat} {l : List Pt} (h : PLies w (.slice a n c) l) {i : Nat} {p : Pt} (hp : l[i]? = some p) : ∃ b off, a = some ⟨b, off, none⟩ ∧ w.cell? ⟨b, off + i * 2, none⟩ = some (.int .i64 p.a) ∧ w.cell? ⟨b, off + i * 2 + 1, none⟩ = some (.int .i64 p.v) := by
  obtain ⟨a', b, off, cap, e, hadr, hpts⟩ := h
  injection e with e1 e2 e3
  have hne : l ≠ [] := by rintro rfl; simp at hp
  obtain ⟨h1, h2⟩ := hpts i p hp
  exact ⟨b, off, by rw [e1]; exact hadr hne, h1, h2⟩
set_option maxHeartbeats 8000000 in
set_option maxRecDepth 100000 in
theorem seput_any {w : World} {s : Nat} {v : Value} {l : List Pt} (h : SerV w s v l) {x : Value} {k : List Pt} (hx : PLies w x k) (hf : ∀ p ∈ k, p.fits) (hn : k.length ≤ maxLen) :
    Calls Tryz.prog 55 #[.pointer (some ⟨s, 0, none⟩), x] w fun e w' => e = .returned (.tuple #[.int .i64 (putE l k).1, .int .i64 (putE l k).2.1]) ∧ (∃ v', SerV w' s v' (putE l k).2.2 ∧ (v' = v ∨ PtRowB w.heap.size w' v' (putE l k).2.2)) ∧ Only (fun b => b = s) w w' := by
  have HC := Lib.hid (secont_any hx hn)
  have HS := Lib.hid h
  have HX := Lib.hid hx
  have HF := Lib.hid hf
  have HN := Lib.hid hn
  obtain ⟨a, c, rfl⟩ := hx.len
  cases ho : k.any outP with
  | true =>
    have HE : Hid (putE l k = (0, 3, l)) := Lib.hid (by unfold putE; rw [if_pos ho])
    rw [ho] at HC
    clear h hx hf hn ho
    go_enter Tryz.func55, Tryz.ntmps55
    go_wp2_with fail
    refine HC.out.mono ?_
    rintro e W1 ⟨rfl, hb⟩
    have HB := Lib.hid hb
    clear hb
    go_wp2
    go_ret2
    refine ⟨by rw [HE.out]; rfl, ⟨v, ?_, .inl rfl⟩, only_beyond HB.out⟩
    rw [HE.out]
    exact HS.out.keep HB.out
  | false =>
    rw [ho] at HC
    have HO := Lib.hid ho
    have HSR := Lib.hid h.good.srt
    have HL := Lib.hid h.good.len
    clear h hx hf hn ho
    go_enter Tryz.func55, Tryz.ntmps55
    go_wp2_with fail
    refine HC.out.mono ?_
    rintro e W1 ⟨rfl, hb⟩
    have HS1 := Lib.hid (HS.out.keep hb)
    have HX1 := Lib.hid (HX.out.beyond hb)
    have HB1 := Lib.hid hb
    clear hb HC
    obtain ⟨c0, -⟩ := HS1.out.cell
    dsimp only
    go_wp2_with fail
    refine (seclo_any HS1.out.plies (by have := HL.out; omega)).mono ?_
    rintro e W2 ⟨v2, rfl, hr2, hb⟩
    have HS2 := Lib.hid (HS1.out.keep hb)
    have HX2 := Lib.hid (HX1.out.beyond hb)
    have HB2 := Lib.hid (HB1.out.trans (hb.mono HB1.out.size))
    have HR2 : Hid (PtRowB w.heap.size W2 v2 l) := Lib.hid (hr2.base HB1.out.size)
    clear hb hr2 HS1 HX1 HB1 c0
    dsimp only
    go_wp2_with fail
    go_loopw [6, 20] (fun u z wr => ∃ j : Nat, z = .int .i64 j ∧ j ≤ k.length ∧ PtRowB w.heap.size wr u (putL l (k.take j)) ∧ (putL l (k.take j)).length ≤ 256 ∧ Below w.heap.size w wr) (fun _ z _ => k.length - (intOf z).toNat)
    case atStart => exact ⟨0, rfl, Nat.zero_le _, by rw [List.take_zero]; exact HR2.out, by rw [List.take_zero]; exact HL.out, HB2.out⟩
    case round =>
      obtain ⟨j, rfl, hj, hrow, hlen, hb⟩ := hrel
      obtain ⟨W3, hW3⟩ : ∃ W3, W3 = wr := ⟨_, rfl⟩
      subst hW3
      have HR3 := Lib.hid hrow
      have HLN := Lib.hid hlen
      have HB3 := Lib.hid hb
      have HS3 := Lib.hid (HS.out.keep hb)
      have HX3 := Lib.hid (HX.out.beyond hb)
      clear hrow hlen hb
      by_cases hlt : j < k.length
      · obtain ⟨p, hp⟩ : ∃ p, k[j]? = some p := ⟨k[j], List.getElem?_eq_getElem hlt⟩
        obtain ⟨b, off, ea, c0, c1⟩ := HX3.out.get hp
        subst ea
        have HPK := Lib.hid hp
        have hNN := HN.out
        have hmax : j < 9223372036854775807 := by unfold maxLen at hNN; omega
        clear hp hNN
        go_upto_region 9 with fail
        refine wp_name fun W4 hW4 => ?_
        obtain ⟨P, hP⟩ : ∃ P, P = W3.heap.size := ⟨_, rfl⟩
        have hb4 : Below W3.heap.size W3 W4 := by rw [hW4.out]; exact (Below.refl _ W3).alloc (Nat.le_refl _) _
        have HT4 : Hid (PtAt W4 P p) := Lib.hid (by rw [hW4.out, hP]; exact PtAt.new W3 p)
        have HR4 := Lib.hid (HR3.out.keep hb4)
        have HB4 := Lib.hid (HB3.out.trans (hb4.mono HB3.out.size))
        rw [← hP]
        clear hW4 hb4 hP c0 c1 HR3 HB3 HS3 HX3
        obtain ⟨c0, c1, -, -⟩ := HT4.out.cells
        repeat (first | go_values | go_skip | go_guarded | go_step)
        refine (sewith_any p HR4.out HB4.out.size (putL_srt HSR.out _) (by have := HLN.out; omega)).mono ?_
        rintro e W5 ⟨v5, rfl, hr5, hb5⟩
        have hr6 : PtRowB w.heap.size W5 v5 (putL l (k.take (j + 1))) := by rw [putL_snoc HPK.out]; exact hr5
        have HB5 := Lib.hid (HB4.out.trans hb5)
        clear hr5 hb5 c0 c1 HR4 HT4 HB4
        have HLT := Lib.hid (putL_take_len HSR.out k (j + 1))
        have HR6 := Lib.hid hr6
        obtain ⟨a6, c6, rfl⟩ := own_slice hr6
        obtain ⟨m, hm⟩ : ∃ m, m = (putL l (k.take (j + 1))).length := ⟨_, rfl⟩
        have HM := Lib.hid hm
        rw [← hm]
        clear hr6 hm
        dsimp only
        by_cases hbig : 256 < m
        · have HE : Hid (putE l k = (0, 6, l)) := Lib.hid (by
            unfold putE
            have h1 := HLT.out
            have h2 := HM.out
            rw [if_neg (by rw [HO.out]; simp), if_pos (by omega)])
          have tb : decide ((256 : Int) < (m : Int)) = true := decide_eq_true (by omega)
          go_wp2_with fail
          go_ret2
          refine ⟨by rw [HE.out]; rfl, ⟨v, ?_, .inl rfl⟩, only_beyond HB5.out⟩
          rw [HE.out]
          exact HS.out.keep HB5.out
        · have tb : decide ((256 : Int) < (m : Int)) = false := decide_eq_false (by omega)
          have HML : Hid ((putL l (k.take (j + 1))).length ≤ 256) := Lib.hid (by rw [← HM.out]; omega)
          go_wp2_with fail
          go_roundw
          case rel => exact ⟨j + 1, by go_num, by omega, by rw [HM.out]; exact HR6.out, HML.out, HB5.out⟩
          case measure => simp [intOf]; omega
      · have e0 : k.take j = k := List.take_of_length_le (by omega)
        rw [e0] at HR3 HLN
        have HE : Hid (putE l k = (((putL l k).length : Int) - l.length, 0, putL l k)) := Lib.hid (by
          unfold putE
          have h1 := HLN.out
          rw [if_neg (by rw [HO.out]; simp), if_neg (by omega)])
        obtain ⟨c0, f0⟩ := HS3.out.cell
        obtain ⟨a6, c6, e6⟩ := own_slice HR3.out
        obtain ⟨a7, c7, e7⟩ := own_slice HS3.out.row
        subst e6
        rw [e7] at c0
        have HGS : Hid (GoodS (putL l k)) := Lib.hid (HS.out.good.put HO.out HF.out HLN.out)
        obtain ⟨T, hT⟩ : ∃ T, T = putL l k := ⟨_, rfl⟩
        rw [← hT] at HE HR3 HGS ⊢
        obtain ⟨m, hm⟩ : ∃ m, m = T.length := ⟨_, rfl⟩
        obtain ⟨n, hn⟩ : ∃ n, n = l.length := ⟨_, rfl⟩
        have hmb : m ≤ 256 := by rw [hm, hT]; exact HLN.out
        have hnb : n ≤ 256 := by rw [hn]; exact HL.out
        have HM := Lib.hid hm
        rw [← hm] at HE HR3 ⊢
        rw [← hn] at HE c0
        have hw : IntKind.i64.wrap ((m : Int) - (n : Int)) = (m : Int) - (n : Int) := by rw [IntKind.wrap_i64]; omega
        have HSL : Hid (s < w.heap.size) := Lib.hid HS.out.lt
        clear e0 e7 hT hm hn HX HX2 HX3 HS2
        go_wp2_with fail
        go_ret2
        refine ⟨by rw [HE.out]; rfl, ⟨.slice a6 m c6, ?_, .inr ?_⟩, (only_beyond HB3.out).trans (Only.setCell (S := fun b => b = s) W3 rfl _) (fun _ _ h => h)⟩
        · rw [HE.out]
          refine ⟨?_, ?_, HGS.out⟩
          · have h1 := heap_setCell_same W3 s 0 _ _ (.slice a6 m c6) HS3.out.at_
            rw [h1]; simp
          · have h2 : PtRowB 0 W3 (.slice a6 m c6) T := HR3.out.base (Nat.zero_le _)
            exact row_only h2 (Only.setCell (S := fun b => b = s) W3 rfl _) (fun b hb e => by have := (HR3.out.lt _ hb).1; have := HSL.out; omega)
        · rw [HE.out]
          have h2 : PtRowB w.heap.size W3 (.slice a6 m c6) T := HR3.out
          exact row_only h2 (Only.setCell (S := fun b => b = s) W3 rfl _) (fun b hb e => by have := (HR3.out.lt _ hb).1; have := HSL.out; omega)
end Go.Proofs.YthbdchleppbidaaGreat
/- Package series: from which place on, up to which one. -/
namespace Go.Proofs.YthbdchleppbidaaGreat
open Go.RowKit

set_option maxHeartbeats 4000000 in
set_option maxRecDepth 100000 in
theorem sespan_any {w : World} {v : Value} {l : List Pt} (hv : PLies w v l) (hs : Srt l) (hn : l.length ≤ 1000000000000) (a b : Int) :
    Calls Tryz.prog 79 #[v, .agg #[.int .i64 a, .int .i64 b]] w fun e w' => e = .returned (.tuple #[.int .i64 (cntP l a : Nat), .int .i64 (endP l a b : Nat)]) ∧ Below w.heap.size w w' := by
  have HPA : Hid (∀ W, PLies W v l → Calls Tryz.prog 111 #[v, .int .i64 a] W fun e w' => e = .returned (.tuple #[.int .i64 (cntP l a : Nat), .bool (hasP l a)]) ∧ Below W.heap.size W w') := Lib.hid fun W h => seplace_any h hs hn a
  have HPB : Hid (∀ W, PLies W v l → Calls Tryz.prog 111 #[v, .int .i64 b] W fun e w' => e = .returned (.tuple #[.int .i64 (cntP l b : Nat), .bool (hasP l b)]) ∧ Below W.heap.size W w') := Lib.hid fun W h => seplace_any h hs hn b
  have HV := Lib.hid hv
  clear hv hs hn
  obtain ⟨E, hE⟩ : ∃ E, E = endP l a b := ⟨_, rfl⟩
  rw [← hE]
  unfold endP at hE
  obtain ⟨K, hK⟩ : ∃ K, K = cntP l a := ⟨_, rfl⟩
  obtain ⟨T, hT⟩ : ∃ T, T = cntP l b := ⟨_, rfl⟩
  obtain ⟨q, hq⟩ : ∃ q, q = hasP l a := ⟨_, rfl⟩
  obtain ⟨s, hs⟩ : ∃ s, s = hasP l b := ⟨_, rfl⟩
  rw [← hK] at HPA hE ⊢
  rw [← hq] at HPA
  rw [← hT] at HPB hE
  rw [← hs] at HPB
  have HE := Lib.hid hE
  clear hK hT hq hs hE
  go_enter Tryz.func79, Tryz.ntmps79
  repeat (first | go_values | go_skip | go_guarded | go_step)
  refine calls_name ?_
  intro W1 hW1
  obtain ⟨P, hP⟩ : ∃ P, P = w.heap.size := ⟨_, rfl⟩
  have hb1 : Below w.heap.size w W1 := by rw [hW1.out]; exact (Below.refl _ _).alloc (Nat.le_refl _) _
  have HR1 : Hid (W1.heap[P]? = some (.cells #[.int .i64 a, .int .i64 b] 41 (0, 0))) := Lib.hid (by rw [hW1.out, hP]; exact heap_alloc_new w _)
  have HV1 := Lib.hid (HV.out.beyond hb1)
  have HB1 := Lib.hid hb1
  rw [← hP]
  clear hW1 hP hb1
  refine (HPA.out W1 HV1.out).mono ?_
  rintro e W2 ⟨rfl, hb⟩
  have HR2 : Hid (W2.heap[P]? = some (.cells #[.int .i64 a, .int .i64 b] 41 (0, 0))) := Lib.hid ((hb.block P (lt_of_block HR1.out)).trans HR1.out)
  have HV2 := Lib.hid (HV1.out.beyond hb)
  have HB2 := Lib.hid (HB1.out.trans (hb.mono HB1.out.size))
  clear hb
  obtain ⟨c0, c1, -, -⟩ := cells2 HR2.out
  dsimp only
  repeat (first | go_values | go_skip | go_guarded | go_step)
  refine (HPB.out W2 HV2.out).mono ?_
  rintro e W3 ⟨rfl, hb⟩
  have HB3 := Lib.hid (HB2.out.trans (hb.mono HB2.out.size))
  clear hb c0 c1
  dsimp only
  by_cases hKT : K < T
  · have he : E = T := by have := HE.out; omega
    subst he
    go_wp2
    go_ret2
    exact ⟨rfl, HB3.out⟩
  · have he : E = K := by have := HE.out; omega
    subst he
    go_wp2
    go_ret2
    exact ⟨rfl, HB3.out⟩
end Go.Proofs.YthbdchleppbidaaGreat
/- Package series: Get and Count. -/
namespace Go.Proofs.YthbdchleppbidaaGreat
open Go.RowKit

/-- what held tells of a series, wherever it is asked -/
def HeldIs (w : World) (sp v : Value) : Prop := ∀ W, Below w.heap.size w W → Calls Tryz.prog 80 #[sp] W fun e w' => e = .returned v ∧ w' = W
theorem SerV.held {w : World} {s : Nat} {v : Value} {l : List Pt} (h : SerV w s v l) : HeldIs w (.pointer (some ⟨s, 0, none⟩)) v := fun _ hb => seheld_any (h.keep hb)
theorem held_none (w : World) : HeldIs w (.pointer none) (.slice none 0 0) := fun W _ => seheld_none W
/-- a part of a row of points, as a slice of it lies -/
theorem part_lies {w : World} {g : Nat} {l : List Pt} {R : List Value} (h : Arr w g 47 (l.flatMap Pt.cells ++ R)) {F T c : Nat} (hFT : F ≤ T) (hT : T ≤ l.length) : PLies w (.slice (some ⟨g, F * 2, none⟩) (T - F) c) ((l.drop F).take (T - F)) := by
  have hlen : ((l.drop F).take (T - F)).length = T - F := by rw [List.length_take, List.length_drop]; omega
  refine ⟨some ⟨g, F * 2, none⟩, g, F * 2, c, by rw [hlen], fun _ => rfl, fun i t ht => ?_⟩
  have hi := (List.getElem?_eq_some_iff.1 ht).1
  rw [hlen] at hi
  rw [List.getElem?_take, if_pos (by omega), List.getElem?_drop] at ht
  have h0 := flatP_get ht 0 (by omega)
  have h1 := flatP_get ht 1 (by omega)
  have hf := flatP_length l
  have hlt := (List.getElem?_eq_some_iff.1 ht).1
  have e : (F + i) * 2 = F * 2 + i * 2 := by omega
  rw [e] at h0 h1
  exact ⟨h.cell (by rw [List.getElem?_append_left (by omega)]; exact h0), h.cell (by rw [List.getElem?_append_left (by omega)]; exact h1)⟩
theorem part_none (w : World) (a : Option Addr) (c : Nat) : PLies w (.slice a 0 c) [] := ⟨a, 0, 0, c, rfl, fun h => absurd rfl h, fun i t h => by simp at h⟩
set_option maxHeartbeats 8000000 in
set_option maxRecDepth 100000 in
theorem seget_of {w : World} {sp v : Value} {l : List Pt} (hh : HeldIs w sp v) (hr : PtRowB 0 w v l) (hg : GoodS l) (a b : Int) :
    Calls Tryz.prog 37 #[sp, .agg #[.int .i64 a, .int .i64 b]] w fun e w' => ∃ v', e = .returned v' ∧ PtRowB w.heap.size w' v' (getL l a b) ∧ Below w.heap.size w w' := by
  have HHE := Lib.hid hh
  have HRW := Lib.hid hr
  have HSP : Hid (∀ W, PLies W v l → Calls Tryz.prog 79 #[v, .agg #[.int .i64 a, .int .i64 b]] W fun e w' => e = .returned (.tuple #[.int .i64 (cntP l a : Nat), .int .i64 (endP l a b : Nat)]) ∧ Below W.heap.size W w') := Lib.hid fun W hW => sespan_any hW hg.srt (by have := hg.len; omega) a b
  have HGE := Lib.hid (get_span hg.srt a b)
  have hge := end_ge l a b
  have hle := end_le l a b
  have hl := hg.len
  obtain ⟨L, hL⟩ : ∃ L, L = getL l a b := ⟨_, rfl⟩
  obtain ⟨F, hF⟩ : ∃ F, F = cntP l a := ⟨_, rfl⟩
  obtain ⟨T, hT⟩ : ∃ T, T = endP l a b := ⟨_, rfl⟩
  rw [← hL] at HGE ⊢
  rw [← hF] at HGE HSP hge
  rw [← hT] at HGE HSP hge hle
  clear hh hr hg hL hF hT
  go_enter Tryz.func37, Tryz.ntmps37
  go_upto_region 1 with fail
  refine wp_name fun W1 hW1 => ?_
  obtain ⟨P, hP⟩ : ∃ P, P = w.heap.size := ⟨_, rfl⟩
  have hb1 : Below w.heap.size w W1 := by rw [hW1.out]; exact (Below.refl _ _).alloc (Nat.le_refl _) _
  have HR1 : Hid (RgAt W1 P a b) := Lib.hid (by rw [hW1.out, hP]; exact RgAt.new w a b)
  have HB1 := Lib.hid hb1
  have HH1 := Lib.hid (HHE.out _ (below_drew hb1))
  have HP1 := Lib.hid (HSP.out _ (HRW.out.keep (below_drew hb1)).plies)
  rw [← hP]
  clear hW1 hb1 hP HSP
  obtain ⟨c0, c1, -, -⟩ := HR1.out.cells
  have hc1 : W1.cell? ⟨P, 0, none⟩ = some (.int .i64 a) ∧ W1.cell? ⟨P, 1, none⟩ = some (.int .i64 b) := ⟨c0, c1⟩
  have HC := Lib.hid hc1
  clear hc1 c0 c1
  go_region_held3 (fun w' => w'.cell? ⟨P, 0, none⟩ = some (.int .i64 a) ∧ w'.cell? ⟨P, 1, none⟩ = some (.int .i64 b)) (first | exact HC.out | exact HC2.out) ((first | (go_at_call 80; refine (HH1.out).mono ?_; rintro e w' ⟨rfl, hw⟩; replace hw := hw.symm; subst hw) | (go_at_call 79; refine (HP1.out).mono ?_; rintro e W2 ⟨rfl, hb2⟩; have hc2 : W2.cell? ⟨P, 0, none⟩ = some (.int .i64 a) ∧ W2.cell? ⟨P, 1, none⟩ = some (.int .i64 b) := ⟨(hb2.cell (p := ⟨P, 0, none⟩) (cell_lt HC.out.1)).trans HC.out.1, (hb2.cell (p := ⟨P, 1, none⟩) (cell_lt HC.out.2)).trans HC.out.2⟩; have HC2 := Lib.hid hc2; have HB2 : Hid (Below w.heap.size w W2) := Lib.hid (HB1.out.trans ((below_drew (Below.refl w.heap.size W1)).trans (hb2.mono HB1.out.size))); clear hb2 hc2)))
  go_wp2_with fail
  refine (HHE.out W2 HB2.out).mono ?_
  rintro e w' ⟨rfl, hw⟩
  replace hw := hw.symm
  subst hw
  have HR2 := Lib.hid (HRW.out.keep HB2.out)
  have HCL : Hid (∀ u L', PLies W2 u L' → L'.length ≤ 256 → Calls Tryz.prog 68 #[u] W2 fun e w' => ∃ v', e = .returned v' ∧ PtRowB W2.heap.size w' v' L' ∧ Below W2.heap.size W2 w') := Lib.hid fun u L' h1 h2 => seclo_any h1 (by omega)
  clear HRW HHE HH1 HP1 HC HR1 HC2
  rcases HR2.out.opened with ⟨rfl, rfl⟩ | ⟨g, cap, R, rfl, hbg, hgr, hR, hnc, hcm⟩
  · obtain rfl : T = 0 := by simpa using hle
    obtain rfl : F = 0 := by omega
    have HLN : Hid (L = []) := Lib.hid (by rw [HGE.out]; rfl)
    go_wp2_with fail
    refine (HCL.out _ [] (part_none _ _ _) (by simp)).mono ?_
    rintro e W3 ⟨v3, rfl, hr3, hb3⟩
    have HR3 := Lib.hid hr3
    have HB3 := Lib.hid hb3
    clear hr3 hb3
    go_wp2_with fail
    go_ret
    exact ⟨_, rfl, by rw [HLN.out]; exact HR3.out.base HB2.out.size, HB2.out.trans (HB3.out.mono HB2.out.size)⟩
  · have HG := Lib.hid hgr
    have hTc : T ≤ cap := by omega
    have hFT : (F : Int) ≤ (T : Int) := by omega
    have hTc2 : (T : Int) ≤ (cap : Int) := by omega
    clear hgr
    by_cases hcF : cap = F
    · have hTF : T - F = 0 := by omega
      have HLN : Hid (L = []) := Lib.hid (by rw [HGE.out, hTF]; rfl)
      go_wp2_with fail
      refine (HCL.out _ [] (part_none _ _ _) (by simp)).mono ?_
      rintro e W3 ⟨v3, rfl, hr3, hb3⟩
      have HR3 := Lib.hid hr3
      have HB3 := Lib.hid hb3
      clear hr3 hb3
      go_wp2_with fail
      go_ret
      exact ⟨_, rfl, by rw [HLN.out]; exact HR3.out.base HB2.out.size, HB2.out.trans (HB3.out.mono HB2.out.size)⟩
    · have HLL : Hid (((l.drop F).take (T - F)).length ≤ 256) := Lib.hid (by rw [List.length_take, List.length_drop]; omega)
      go_wp2_with fail
      refine (HCL.out _ _ (part_lies HG.out hge hle) HLL.out).mono ?_
      rintro e W3 ⟨v3, rfl, hr3, hb3⟩
      have HR3 := Lib.hid hr3
      have HB3 := Lib.hid hb3
      clear hr3 hb3
      go_wp2_with fail
      go_ret
      exact ⟨_, rfl, by rw [HGE.out]; exact HR3.out.base HB2.out.size, HB2.out.trans (HB3.out.mono HB2.out.size)⟩
theorem seget_any {w : World} {s : Nat} {v : Value} {l : List Pt} (h : SerV w s v l) (a b : Int) :
    Calls Tryz.prog 37 #[.pointer (some ⟨s, 0, none⟩), .agg #[.int .i64 a, .int .i64 b]] w fun e w' => ∃ v', e = .returned v' ∧ PtRowB w.heap.size w' v' (getL l a b) ∧ Below w.heap.size w w' := seget_of h.held h.row h.good a b
theorem seget_none (w : World) (a b : Int) : Calls Tryz.prog 37 #[.pointer none, .agg #[.int .i64 a, .int .i64 b]] w fun e w' => ∃ v', e = .returned v' ∧ PtRowB w.heap.size w' v' [] ∧ Below w.heap.size w w' := seget_of (held_none w) (PtRowB.nil 0 w) GoodS.nil a b
end Go.Proofs.YthbdchleppbidaaGreat
/- Package series: points taken out of a row. -/
namespace Go.Proofs.YthbdchleppbidaaGreat
open Go.RowKit

theorem del_row (A X D R Z : List Value) (hZ : Z.length ≤ (X ++ R).length) :
    ∃ R', splice (splice (A ++ (X ++ (D ++ R))) A.length D) (A.length + D.length) Z = A ++ (D ++ R') ∧ R'.length = (X ++ R).length := by
  rw [pull_row]
  refine ⟨Z ++ ((A ++ (X ++ (D ++ R))).drop (A.length + D.length)).drop Z.length, ?_, ?_⟩
  · rw [← List.append_assoc A D, ← List.append_assoc A D, ← List.length_append]
    unfold splice
    rw [take_app, drop_app]
  · rw [List.length_append] at hZ
    simp only [List.length_append, List.length_drop]; omega
set_option maxHeartbeats 8000000 in
set_option maxRecDepth 100000 in
theorem sedel_way {g n i j cap : Nat} {w : World} {A X D R : List Value} (hg : Arr w g 47 (A ++ (X ++ (D ++ R)))) (hA : A.length = i * 2) (hX : X.length = (j - i) * 2) (hD : D.length = (n - j) * 2) (hR : R.length = (cap - n) * 2) (hij : i < j) (hjn : j ≤ n) (hnc : n ≤ cap) (hn : n ≤ 1000000)
    (h1 : ∀ u ∈ D, u.oneCell' = true) :
    Calls Tryz.prog 102 #[.slice (some ⟨g, 0, none⟩) n cap, .int .i64 i, .int .i64 j] w fun e w' => ∃ R', e = .returned (.slice (some ⟨g, 0, none⟩) (i + (n - j)) cap) ∧ Arr w' g 47 (A ++ (D ++ R')) ∧ R'.length = (cap - (i + (n - j))) * 2 ∧ Only (fun k => k = g) w w' := by
  obtain ⟨i0, hi, hz0, hz1, hz2⟩ := info_parts infoPt
  have HSZ : Hid ((Tryz.prog.info? 47).map (·.size) = some 2) := Lib.hid (by rw [hi]; simp [hz1])
  have HZV : Hid (((Tryz.prog.info? 47).bind (·.zero)) = some (.agg #[.int .i64 0, .int .i64 0])) := Lib.hid (by rw [hi]; exact hz0)
  obtain ⟨ad, had, hsrc⟩ : ∃ ad : Addr, (if cap = j then (some ⟨g, 0, none⟩ : Option Addr) else some ⟨g, j * 2, none⟩) = some ad ∧ Hid (∀ t u, D[t]? = some u → w.drew.cell? (ad.add t) = some u) := by
    by_cases hcj : cap = j
    · refine ⟨⟨g, 0, none⟩, by simp [hcj], fun t u hu => ?_⟩
      have h0 : D.length = 0 := by rw [hD]; omega
      rw [List.length_eq_zero_iff.1 h0] at hu
      simp at hu
    · refine ⟨⟨g, j * 2, none⟩, by simp [hcj], fun t u hu => ?_⟩
      have ht := (List.getElem?_eq_some_iff.1 hu).1
      rw [add_at]
      refine hg.cell (i := j * 2 + t) ?_
      rw [List.getElem?_append_right (by omega), List.getElem?_append_right (by omega), hA, hX, show j * 2 + t - i * 2 - (j - i) * 2 = t by omega, List.getElem?_append_left ht]; exact hu
  have HG := Lib.hid hg
  have HA := Lib.hid hA
  have HX := Lib.hid hX
  have HD := Lib.hid hD
  have HR := Lib.hid hR
  have H1 := Lib.hid h1
  have HFI : Hid (i * 2 + D.length ≤ (A ++ (X ++ (D ++ R))).length) := Lib.hid (by rw [List.length_append, List.length_append, List.length_append]; omega)
  have HLEN : Hid ((A ++ (X ++ (D ++ R))).length = cap * 2) := Lib.hid (by rw [List.length_append, List.length_append, List.length_append]; omega)
  have hne : ¬ ((i : Int) = (j : Int)) := by omega
  have hij2 : (i : Int) ≤ (j : Int) := by omega
  have hjn2 : (j : Int) ≤ (n : Int) := by omega
  have hic : i ≤ cap := by omega
  have hjc : j ≤ cap := by omega
  have hci : ¬ (cap = i) := by omega
  have hmn : i + (n - j) ≤ n := by omega
  have hcm : ¬ (cap = i + (n - j)) := by omega
  clear hg hA hX hD hR h1
  go_enter Tryz.func102, Tryz.ntmps102
  go_wp2_with fail
  go_region_law (refine step_append_in rfl (.tmp 22) (.tmp 25) 44 rfl 47 i0 2 Tryz.underlying44 hi hz1 g i cap (A ++ (X ++ (D ++ R))) HG.out (by simp [Act.eval, Act.put]) ad (n - j) (cap - j) (by simp [Act.eval, Act.put]) D HD.out hsrc.out H1.out (by omega) HFI.out ?_; intro W1 HG1 HO1)
  simp only [List.getElem_toArray, List.getElem_cons_succ, List.getElem_cons_zero, Act.put, List.setIfInBounds_toArray, List.set_cons_zero]
  have HFC : Hid ((i + (n - j)) * 2 + (n - (i + (n - j))) * (Value.agg #[.int .i64 0, .int .i64 0]).cells.size ≤ (splice (A ++ (X ++ (D ++ R))) (i * 2) D).length) := Lib.hid (by
    rw [length_splice _ _ _ HFI.out, HLEN.out, show (Value.agg #[.int .i64 0, .int .i64 0]).cells.size = 2 from rfl]; omega)
  repeat (first | ((with_reducible refine wpList_dst none rfl ?_); refine wpList_clear_K rfl (.tmp 31) 44 rfl 47 (.agg #[.int .i64 0, .int .i64 0]) Tryz.underlying44 HZV.out (fun u hu => by simp [Value.cells] at hu; rcases hu with rfl | rfl <;> rfl) g ((i + (n - j)) * 2) (n - (i + (n - j))) (cap - (i + (n - j))) rfl (splice (A ++ (X ++ (D ++ R))) (i * 2) D) 47 HG1.out HFC.out (by omega) ?_; intro W2 HG2 HO2) | go_values | go_skip | go_guarded | go_step)
  go_ret
  have h2 := HG2.out
  have hz : (Builtin.zeroCells (Value.agg #[.int .i64 0, .int .i64 0]).cells (n - (i + (n - j)))).toList.length = (n - (i + (n - j))) * 2 := zero_len _ _
  have hs := HA.out
  have hd := HD.out
  have hx := HX.out
  have hr := HR.out
  obtain ⟨R', h3, h4⟩ := del_row A X D R (Builtin.zeroCells (Value.agg #[.int .i64 0, .int .i64 0]).cells (n - (i + (n - j)))).toList (by rw [hz, List.length_append]; omega)
  rw [show (i + (n - j)) * 2 = A.length + D.length by omega, show i * 2 = A.length from hs.symm, h3] at h2
  exact ⟨R', rfl, h2, by rw [h4, List.length_append]; omega, ((Only.drew _ w).trans HO1.out (fun _ _ h => h)).trans HO2.out (fun _ _ h => h)⟩
set_option maxHeartbeats 4000000 in
set_option maxRecDepth 100000 in
theorem sedel_same {w : World} {a : Option Addr} {n c i : Nat} (hi : i ≤ n) (hnc : n ≤ c) :
    Calls Tryz.prog 102 #[.slice a n c, .int .i64 i, .int .i64 i] w fun e w' => e = .returned (.slice a n c) ∧ w' = w := by
  have hi2 : (i : Int) ≤ (n : Int) := by omega
  have hn2 : (n : Int) ≤ (c : Int) := by omega
  by_cases hin : n = i
  · subst hin
    go_enter Tryz.func102, Tryz.ntmps102
    go_wp2
    all_goals (go_ret; exact ⟨rfl, rfl⟩)
  · go_enter Tryz.func102, Tryz.ntmps102
    go_wp2
    all_goals (go_ret; exact ⟨rfl, rfl⟩)
theorem flat_three (l : List Pt) {i j : Nat} (hij : i ≤ j) : l.flatMap Pt.cells = (l.take i).flatMap Pt.cells ++ (((l.take j).drop i).flatMap Pt.cells ++ (l.drop j).flatMap Pt.cells) := by
  rw [← List.flatMap_append, ← List.flatMap_append]
  congr 1
  conv => lhs; rw [← List.take_append_drop j l]
  rw [← List.append_assoc]
  congr 1
  conv => lhs; rw [← List.take_append_drop i (l.take j)]
  rw [List.take_take, Nat.min_eq_left hij]
/-- points taken out of a row of one's own -/
theorem sedel_any {B : Nat} {w : World} {v : Value} {l : List Pt} {i j : Nat} (h : PtRowB B w v l) (hij : i ≤ j) (hj : j ≤ l.length) (hn : l.length ≤ 1000000) :
    Calls Tryz.prog 102 #[v, .int .i64 (i : Nat), .int .i64 (j : Nat)] w fun e w' => ∃ v', e = .returned v' ∧ PtRowB B w' v' (l.take i ++ l.drop j) ∧ v'.ownBlock = v.ownBlock ∧ Only (fun k => v.ownBlock = some k) w w' := by
  rcases Nat.lt_or_ge i j with hlt | hge
  · rcases h.opened with ⟨_, rfl⟩ | ⟨g, cap, R, rfl, hbg, hg, hR, hnc, hcm⟩
    · simp at hj; omega
    · have hA : ((l.take i).flatMap Pt.cells).length = i * 2 := by rw [flatP_length, List.length_take, Nat.min_eq_left (by omega)]
      have hX : (((l.take j).drop i).flatMap Pt.cells).length = (j - i) * 2 := by rw [flatP_length, List.length_drop, List.length_take, Nat.min_eq_left hj]
      have hD : ((l.drop j).flatMap Pt.cells).length = (l.length - j) * 2 := by rw [flatP_length, List.length_drop]
      rw [flat_three l hij, List.append_assoc, List.append_assoc] at hg
      refine (sedel_way hg hA hX hD hR hlt hj hnc hn (flatP_one _)).mono ?_
      rintro e w' ⟨R', rfl, h1, h2, h3⟩
      have e1 : i + (l.length - j) = (l.take i ++ l.drop j).length := by rw [List.length_append, List.length_take, List.length_drop]; omega
      refine ⟨_, rfl, ?_, rfl, h3.mono (fun k _ hk => by rw [hk]; rfl)⟩
      rw [e1]
      refine PtRowB.shut (R := R') hbg ?_ (by rw [← e1]; exact h2) (by rw [← e1]; omega) hcm
      rw [List.flatMap_append, List.append_assoc]; exact h1
  · obtain rfl : i = j := by omega
    obtain ⟨a, c, rfl, hc⟩ : ∃ a c, v = .slice a l.length c ∧ l.length ≤ c := by
      rcases h.opened with ⟨rfl, rfl⟩ | ⟨g, cap, R, rfl, _, _, _, hnc, _⟩
      · exact ⟨none, 0, rfl, Nat.le_refl _⟩
      · exact ⟨_, _, rfl, hnc⟩
    refine (sedel_same hj hc).mono ?_
    rintro e w' ⟨rfl, rfl⟩
    exact ⟨_, rfl, by rw [List.take_append_drop]; exact h, rfl, Only.refl _ _⟩
end Go.Proofs.YthbdchleppbidaaGreat
/- Package series: Cut. -/
namespace Go.Proofs.YthbdchleppbidaaGreat
open Go.RowKit

theorem GoodS.cut {l : List Pt} (h : GoodS l) (a b : Int) : GoodS (cutL l a b) :=
  ⟨cutL_srt h.srt a b, fun p hp => h.tick p (List.mem_filter.1 hp).1, fun p hp => h.fits p (List.mem_filter.1 hp).1, Nat.le_trans (List.length_filter_le _ _) h.len⟩
theorem GoodS.get {l : List Pt} (h : GoodS l) (a b : Int) : GoodS (getL l a b) :=
  ⟨getL_srt h.srt a b, fun p hp => h.tick p (List.mem_filter.1 hp).1, fun p hp => h.fits p (List.mem_filter.1 hp).1, Nat.le_trans (List.length_filter_le _ _) h.len⟩
theorem secut_none (w : World) (x : Value) {cs : Array Value} (hx : x = .agg cs) : Calls Tryz.prog 62 #[.pointer none, x] w fun e w' => e = .returned (.int .i64 0) ∧ Below w.heap.size w w' := by
  subst hx
  go_enter Tryz.func62, Tryz.ntmps62
  go_wp2
  go_ret
  exact ⟨rfl, (Below.refl _ _).alloc (Nat.le_refl _) _⟩
set_option maxHeartbeats 8000000 in
set_option maxRecDepth 100000 in
theorem secut_any {w : World} {s : Nat} {v : Value} {l : List Pt} (h : SerV w s v l) (a b : Int) :
    Calls Tryz.prog 62 #[.pointer (some ⟨s, 0, none⟩), .agg #[.int .i64 a, .int .i64 b]] w fun e w' => e = .returned (.int .i64 ((getL l a b).length : Nat)) ∧ (∃ v', SerV w' s v' (cutL l a b) ∧ v'.ownBlock = v.ownBlock) ∧ Only (SBlk s v) w w' := by
  have HS := Lib.hid h
  have HSP : Hid (∀ W, PLies W v l → Calls Tryz.prog 79 #[v, .agg #[.int .i64 a, .int .i64 b]] W fun e w' => e = .returned (.tuple #[.int .i64 (cntP l a : Nat), .int .i64 (endP l a b : Nat)]) ∧ Below W.heap.size W w') := Lib.hid fun W hW => sespan_any hW h.good.srt (by have := h.good.len; omega) a b
  have HLE := Lib.hid (span_len h.good.srt a b)
  have HCE := Lib.hid (cut_span h.good.srt a b)
  have HGC := Lib.hid (h.good.cut a b)
  have hge := end_ge l a b
  have hle := end_le l a b
  have hl := h.good.len
  obtain ⟨N, hN⟩ : ∃ N, N = (getL l a b).length := ⟨_, rfl⟩
  obtain ⟨C, hC⟩ : ∃ C, C = cutL l a b := ⟨_, rfl⟩
  obtain ⟨F, hF⟩ : ∃ F, F = cntP l a := ⟨_, rfl⟩
  obtain ⟨T, hT⟩ : ∃ T, T = endP l a b := ⟨_, rfl⟩
  rw [← hN] at HLE ⊢
  rw [← hC] at HCE HGC ⊢
  rw [← hF] at HLE HCE HSP hge
  rw [← hT] at HLE HCE HSP hge hle
  clear h hN hF hT hC
  go_enter Tryz.func62, Tryz.ntmps62
  go_upto_region 3 with fail
  refine wp_name fun W1 hW1 => ?_
  obtain ⟨P, hP⟩ : ∃ P, P = w.heap.size := ⟨_, rfl⟩
  have hb1 : Below w.heap.size w W1 := by rw [hW1.out]; exact (Below.refl _ _).alloc (Nat.le_refl _) _
  have HR1 : Hid (RgAt W1 P a b) := Lib.hid (by rw [hW1.out, hP]; exact RgAt.new w a b)
  have HS1 := Lib.hid (HS.out.keep hb1)
  have HB1 := Lib.hid hb1
  have HP1 := Lib.hid (HSP.out _ HS1.out.drew.plies)
  rw [← hP]
  clear hW1 hb1 hP HSP
  obtain ⟨c0, c1, -, -⟩ := HR1.out.cells
  have hc1 : W1.cell? ⟨P, 0, none⟩ = some (.int .i64 a) ∧ W1.cell? ⟨P, 1, none⟩ = some (.int .i64 b) ∧ W1.cell? ⟨s, 0, none⟩ = some v := ⟨c0, c1, HS1.out.cell.1⟩
  have HC := Lib.hid hc1
  clear hc1 c0 c1
  go_region_held3 (fun w' => w'.cell? ⟨P, 0, none⟩ = some (.int .i64 a) ∧ w'.cell? ⟨P, 1, none⟩ = some (.int .i64 b) ∧ w'.cell? ⟨s, 0, none⟩ = some v) (first | exact HC.out | exact HC2.out) ((go_at_call 79; refine (HP1.out).mono ?_; rintro e W2 ⟨rfl, hb2⟩; have hc2 : W2.cell? ⟨P, 0, none⟩ = some (.int .i64 a) ∧ W2.cell? ⟨P, 1, none⟩ = some (.int .i64 b) ∧ W2.cell? ⟨s, 0, none⟩ = some v := ⟨(hb2.cell (p := ⟨P, 0, none⟩) (cell_lt HC.out.1)).trans HC.out.1, (hb2.cell (p := ⟨P, 1, none⟩) (cell_lt HC.out.2.1)).trans HC.out.2.1, (hb2.cell (p := ⟨s, 0, none⟩) (cell_lt HC.out.2.2)).trans HC.out.2.2⟩; have HC2 := Lib.hid hc2; have HB2 : Hid (Below w.heap.size w W2) := Lib.hid (HB1.out.trans ((below_drew (Below.refl w.heap.size W1)).trans (hb2.mono HB1.out.size))); clear hb2 hc2))
  have HS2 := Lib.hid (HS.out.keep HB2.out)
  clear HS1 HB1 HR1 HP1 HC HC2
  obtain ⟨c0, f0⟩ := HS2.out.cell
  have hw : IntKind.i64.wrap ((T : Int) - (F : Int)) = (T : Int) - (F : Int) := by rw [IntKind.wrap_i64]; omega
  go_wp2_with fail
  refine (sedel_any HS2.out.row hge hle (by omega)).mono ?_
  rintro e W3 ⟨v3, rfl, hr3, hv3, ho3⟩
  obtain ⟨a3, c3, e3⟩ := own_slice hr3
  obtain ⟨n3, hn3⟩ : ∃ n3, n3 = (l.take F ++ l.drop T).length := ⟨_, rfl⟩
  rw [← hn3] at e3
  subst e3
  clear hn3
  have HR3 := Lib.hid hr3
  have HV3 := Lib.hid hv3
  have HO3 := Lib.hid ho3
  have HNE := Lib.hid HS2.out.ne
  have hh3 : W3.heap[s]? = some (.cells #[v] 116 (0, 0)) := (ho3.block s HS2.out.lt (fun e => HS2.out.ne e)).trans HS2.out.at_
  have HH3 := Lib.hid hh3
  clear hr3 hv3 ho3 c0 f0
  obtain ⟨c0, f0⟩ := cells1 HH3.out
  clear hh3
  dsimp only
  go_wp2_with fail
  go_ret
  refine ⟨by rw [HLE.out]; exact ret_i64 (by omega), ⟨_, ⟨?_, ?_, HGC.out⟩, HV3.out⟩, ?_⟩
  · have h1 := heap_setCell_same W3 s 0 _ _ (.slice a3 n3 c3) HH3.out
    rw [h1]; simp
  · have h2 : PtRowB 0 W3 (.slice a3 n3 c3) C := by rw [HCE.out]; exact HR3.out
    exact row_only h2 (Only.setCell (S := fun b => b = s) W3 rfl _) (fun k hk e => HNE.out (by rw [← HV3.out, hk, e]))
  · exact ((only_beyond HB2.out).trans HO3.out (fun k _ hk => .inr hk)).trans (Only.setCell (S := SBlk s v) W3 (.inl rfl) _) (fun _ _ h => h)
end Go.Proofs.YthbdchleppbidaaGreat
/- Package series: Copy. -/
namespace Go.Proofs.YthbdchleppbidaaGreat
open Go.RowKit

theorem secopy_none (w : World) : Calls Tryz.prog 29 #[.pointer none] w fun e w' => e = .returned (.pointer none) ∧ w' = w := by
  go_enter Tryz.func29, Tryz.ntmps29
  go_wp2
  go_ret
  exact ⟨rfl, rfl⟩
set_option maxHeartbeats 4000000 in
set_option maxRecDepth 100000 in
theorem secopy_any {w : World} {s : Nat} {v : Value} {l : List Pt} (h : SerV w s v l) : Calls Tryz.prog 29 #[.pointer (some ⟨s, 0, none⟩)] w fun e w' => ∃ s' v', e = .returned (.pointer (some ⟨s', 0, none⟩)) ∧ SerV w' s' v' l ∧ (∀ k, SBlk s' v' k → w.heap.size ≤ k) ∧ Below w.heap.size w w' := by
  have HS := Lib.hid h
  obtain ⟨c0, -⟩ := h.cell
  clear h
  go_enter Tryz.func29, Tryz.ntmps29
  go_wp2_with fail
  refine (seclo_any HS.out.plies (by have := HS.out.good.len; omega)).mono ?_
  rintro e W2 ⟨v2, rfl, hr, hb⟩
  have HR := Lib.hid hr
  have HB := Lib.hid hb
  obtain ⟨a2, c2, e2⟩ := own_slice hr
  obtain ⟨n, hn⟩ : ∃ n, n = l.length := ⟨_, rfl⟩
  rw [← hn] at e2
  subst e2
  clear hr hb c0 hn
  go_wp2_with fail
  go_ret
  refine ⟨W2.heap.size, .slice a2 n c2, rfl, ⟨heap_alloc_new W2 _, (HR.out.base (Nat.zero_le _)).keep ((Below.refl _ W2).alloc (Nat.le_refl _) _), HS.out.good⟩, ?_, HB.out.trans (((Below.refl _ W2).alloc (Nat.le_refl _) _).mono HB.out.size)⟩
  rintro k (rfl | hk)
  · exact HB.out.size
  · exact (HR.out.lt _ hk).1
end Go.Proofs.YthbdchleppbidaaGreat
