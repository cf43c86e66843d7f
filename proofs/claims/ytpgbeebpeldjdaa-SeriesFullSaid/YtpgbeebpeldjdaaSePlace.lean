/- Package series: where a tick stands. -/
import Derived.Test.YtpgbeebpeldjdaaSeBy
import Derived.Test.YtpgbeebpeldjdaaSeClo
namespace Go.Proofs.Ytpgbeebpeldjdaa
open Go.RowKit

theorem cmpI_neg (x y : Int) : decide (cmpI x y < 0) = decide (x < y) := by
  unfold cmpI
  by_cases h : x < y
  · rw [if_pos h, decide_eq_true h]; rfl
  · rw [if_neg h, decide_eq_false h]
    by_cases h2 : y < x
    · rw [if_pos h2]; rfl
    · rw [if_neg h2]; rfl
theorem cmpI_same (x y : Int) : (cmpI x y == 0) = decide (x = y) := by
  unfold cmpI
  by_cases h : x < y
  · rw [if_pos h, decide_eq_false (by omega)]; rfl
  · rw [if_neg h]
    by_cases h2 : y < x
    · rw [if_pos h2, decide_eq_false (by omega)]; rfl
    · rw [if_neg h2, decide_eq_true (by omega)]; rfl
/-- what a round of the search keeps -/
def FindI (l : List Pt) (x : Int) (i j : Nat) : Prop := i ≤ j ∧ j ≤ l.length ∧ (∀ k q, k < i → l[k]? = some q → q.a < x) ∧ ∀ k q, j ≤ k → l[k]? = some q → x ≤ q.a
theorem FindI.start (l : List Pt) (x : Int) : FindI l x 0 l.length :=
  ⟨Nat.zero_le _, Nat.le_refl _, fun k q h => absurd h (Nat.not_lt_zero _), fun k q h hq => by have := (List.getElem?_eq_some_iff.1 hq).1; omega⟩
theorem FindI.up {l : List Pt} (hs : Srt l) {x : Int} {i j m : Nat} {q : Pt} (h : FindI l x i j) (hm : m < j) (hq : l[m]? = some q) (hx : q.a < x) (him : i ≤ m) : FindI l x (m + 1) j := by
  obtain ⟨h1, h2, h3, h4⟩ := h
  refine ⟨by omega, h2, fun k p hk hp => ?_, h4⟩
  obtain ⟨hml, e⟩ := List.getElem?_eq_some_iff.1 hq
  obtain ⟨hkl, e'⟩ := List.getElem?_eq_some_iff.1 hp
  rcases Nat.lt_or_ge k m with hkm | hkm
  · have := List.pairwise_iff_getElem.1 hs k m hkl hml hkm
    rw [e, e'] at this; omega
  · obtain rfl : k = m := by omega
    rw [hq] at hp; rw [← Option.some.inj hp]; exact hx
theorem FindI.down {l : List Pt} (hs : Srt l) {x : Int} {i j m : Nat} {q : Pt} (h : FindI l x i j) (hm : m < j) (hq : l[m]? = some q) (hx : ¬ q.a < x) (him : i ≤ m) : FindI l x i m := by
  obtain ⟨h1, h2, h3, h4⟩ := h
  refine ⟨him, by omega, h3, fun k p hk hp => ?_⟩
  obtain ⟨hml, e⟩ := List.getElem?_eq_some_iff.1 hq
  obtain ⟨hkl, e'⟩ := List.getElem?_eq_some_iff.1 hp
  rcases Nat.lt_or_ge m k with hkm | hkm
  · have := List.pairwise_iff_getElem.1 hs m k hml hkl hkm
    rw [e, e'] at this; omega
  · obtain rfl : k = m := by omega
    rw [hq] at hp; rw [← Option.some.inj hp]; omega
theorem FindI.done {l : List Pt} (hs : Srt l) {x : Int} {i j : Nat} (h : FindI l x i j) (hij : ¬ i < j) : cntP l x = i := by
  obtain ⟨h1, h2, h3, h4⟩ := h
  obtain rfl : i = j := by omega
  exact cnt_is hs h2 h3 h4
set_option maxHeartbeats 4000000 in
set_option maxRecDepth 100000 in
theorem sefind_any {w : World} {v : Value} {l : List Pt} (hv : PLies w v l) (hs : Srt l) (hn : l.length ≤ 1000000000000) (x : Int) :
    Calls Try.prog 32 #[v, .int .i64 x, .func (.func 33) #[] #[]] w fun e w' => e = .returned (.tuple #[.int .i64 (cntP l x : Nat), .bool (hasP l x)]) ∧ Below w.heap.size w w' := by
  obtain ⟨a, b, off, cap, rfl, hadr, hpts⟩ := hv
  have HADR := Lib.hid hadr
  have HP := Lib.hid hpts
  have HS := Lib.hid hs
  have HN : Hid (l.length ≤ 1000000000000) := Lib.hid hn
  have HKD : Hid (∀ i j, FindI l x i j → ¬ i < j → cntP l x = i) := Lib.hid fun i j h hij => FindI.done hs h hij
  have HA := Lib.hid (has_at hs x)
  have HNA := Lib.hid (has_not hs x)
  obtain ⟨K, hK⟩ : ∃ K, K = cntP l x := ⟨_, rfl⟩
  obtain ⟨R, hR⟩ : ∃ R, R = hasP l x := ⟨_, rfl⟩
  rw [← hK] at HA HNA HKD ⊢
  rw [← hR] at HA HNA ⊢
  clear hadr hpts hn hs hK hR
  have HO : Hid (∀ W (p : Pt), Calls Try.prog 33 #[.agg #[.int .i64 p.a, .int .i64 p.v], .int .i64 x] W fun e w' => e = .returned (.int .i64 (cmpI p.a x)) ∧ Below W.heap.size W w') := Lib.hid fun W p => seat_any W p.a p.v x
  go_enter Try.func32, Try.ntmps32
  go_wp2_with fail
  go_loopw [9, 10] (fun c d wr => ∃ i j : Nat, c = .int .i64 i ∧ d = .int .i64 j ∧ FindI l x i j ∧ Below w.heap.size w wr) (fun c d _ => (intOf d).toNat - (intOf c).toNat)
  case atStart => exact ⟨0, l.length, rfl, rfl, FindI.start l x, Below.refl _ _⟩
  case round =>
    obtain ⟨i, j, rfl, rfl, hf, hb⟩ := hrel
    obtain ⟨W3, hW3⟩ : ∃ W3, W3 = wr := ⟨_, rfl⟩
    subst hW3
    have HB := Lib.hid hb
    have HF := Lib.hid hf
    have HPT := Lib.hid (HP.out.beyond hb)
    have hjn : j ≤ l.length := hf.2.1
    clear hb hf
    by_cases hlt : i < j
    · obtain ⟨m, hm⟩ : ∃ m, m = (i + j) / 2 := ⟨_, rfl⟩
      have hmj : m < j := by omega
      have him : i ≤ m := by omega
      have hml : m < l.length := by omega
      have ea := HADR.out (by intro h; simp [h] at hml)
      subst ea
      obtain ⟨p, hp⟩ : ∃ p, l[m]? = some p := ⟨l[m], List.getElem?_eq_getElem hml⟩
      obtain ⟨c0, c1⟩ := HPT.out m p hp
      have HPK := Lib.hid hp
      have hmax : j ≤ 1000000000000 := by have := HN.out; omega
      have e1 : ((i : Int) + (j : Int)) / 2 = (m : Int) := by omega
      have HM := Lib.hid hm
      clear hp hm
      go_wp2_with fail
      refine (HO.out W3 p).mono ?_
      rintro e W4 ⟨rfl, hb4⟩
      have HB4 := Lib.hid (HB.out.trans (hb4.mono HB.out.size))
      clear hb4 c0 c1
      have hcn := cmpI_neg p.a x
      obtain ⟨C, hC⟩ : ∃ C, C = cmpI p.a x := ⟨_, rfl⟩
      rw [← hC] at hcn ⊢
      clear hC
      dsimp only
      by_cases hx : p.a < x
      · have HFN : Hid (FindI l x (m + 1) j) := Lib.hid (FindI.up HS.out HF.out hmj HPK.out hx him)
        have tC : decide (C < 0) = true := by rw [hcn]; exact decide_eq_true hx
        clear hx hcn
        go_wp2_with fail
        go_roundw
        case rel => exact ⟨m + 1, j, by go_num, rfl, HFN.out, HB4.out⟩
        case measure => simp [intOf]; omega
      · have HFN : Hid (FindI l x i m) := Lib.hid (FindI.down HS.out HF.out hmj HPK.out hx him)
        have tC : decide (C < 0) = false := by rw [hcn]; exact decide_eq_false hx
        clear hx hcn
        go_wp2_with fail
        go_roundw
        case rel => exact ⟨i, m, rfl, rfl, HFN.out, HB4.out⟩
        case measure => simp [intOf]; omega
    · have hci := HKD.out i j HF.out hlt
      subst hci
      have hil : K ≤ l.length := by have := HF.out.1; omega
      clear HF hjn
      by_cases hin : K < l.length
      · have ea := HADR.out (by intro h; simp [h] at hin)
        subst ea
        obtain ⟨p, hp⟩ : ∃ p, l[K]? = some p := ⟨l[K], List.getElem?_eq_getElem hin⟩
        obtain ⟨c0, c1⟩ := HPT.out K p hp
        have tR : (cmpI p.a x == 0) = R := by
          rw [cmpI_same]
          cases R with
          | true =>
            obtain ⟨q, hq, hqx⟩ := HA.out.1 rfl
            rw [hp] at hq
            rw [Option.some.inj hq]; exact decide_eq_true hqx
          | false => exact decide_eq_false (HNA.out.1 rfl p hp)
        clear hp HA HNA
        obtain ⟨C, hC⟩ : ∃ C, C = cmpI p.a x := ⟨_, rfl⟩
        have HO2 := HO.out W3 p
        rw [← hC] at tR HO2
        clear hC
        have HO3 := Lib.hid HO2
        clear HO2
        go_wp2_with fail
        refine HO3.out.mono ?_
        rintro e W4 ⟨rfl, hb4⟩
        have HB4 := Lib.hid (HB.out.trans (hb4.mono HB.out.size))
        clear hb4 c0 c1
        dsimp only
        go_wp2_with fail
        go_ret2
        exact ⟨rfl, HB4.out⟩
      · have HRF : Hid (R = false) := Lib.hid (by
          cases R with
          | false => rfl
          | true =>
            obtain ⟨q, hq, _⟩ := HA.out.1 rfl
            exact absurd (List.getElem?_eq_some_iff.1 hq).1 hin)
        clear HA HNA
        go_wp2_with fail
        go_ret2
        exact ⟨by rw [HRF.out]; rfl, HB.out⟩
set_option maxHeartbeats 4000000 in
theorem seplace_any {w : World} {v : Value} {l : List Pt} (hv : PLies w v l) (hs : Srt l) (hn : l.length ≤ 1000000000000) (x : Int) :
    Calls Try.prog 27 #[v, .int .i64 x] w fun e w' => e = .returned (.tuple #[.int .i64 (cntP l x : Nat), .bool (hasP l x)]) ∧ Below w.heap.size w w' := by
  have H := Lib.hid (sefind_any hv hs hn x)
  clear hv hs
  obtain ⟨K, hK⟩ : ∃ K, K = cntP l x := ⟨_, rfl⟩
  obtain ⟨R, hR⟩ : ∃ R, R = hasP l x := ⟨_, rfl⟩
  rw [← hK, ← hR] at H ⊢
  clear hK hR
  go_enter Try.func27, Try.ntmps27
  go_wp2_with fail
  refine H.out.mono ?_
  rintro e W2 ⟨rfl, hb⟩
  have HB := Lib.hid hb
  clear hb
  go_wp2
  go_ret2
  exact ⟨rfl, HB.out⟩
end Go.Proofs.Ytpgbeebpeldjdaa
