/- Are records those that were committed, and a beginning of the others? -/
import Derived.Test.YtngeilhdambgfaaDoorOpenRows
import Derived.Test.YtngeilhdambgfaaDoorJoI
import Derived.Test.YtngeilhdambgfaaDoorTextB
namespace Go.Proofs.YtngeilhdambgfaaDoor
open Go.RowKit

theorem str_beq {xs ys : List Nat} (hx : ∀ x ∈ xs, x < 256) (hy : ∀ x ∈ ys, x < 256) : ((strOf xs).toList == (strOf ys).toList) = decide (xs = ys) := by
  rw [text_beq]
  by_cases he : xs = ys
  · rw [he]; simp
  · rw [decide_eq_false he]
    exact decide_eq_false fun h => he (by rw [← ords_strOf hx, ← ords_strOf hy, h])
/-- a row's slice, as it lies -/
theorem rows_get {w : World} {a : Option Addr} {i : Nat} {A : List (List Nat)} {bs : List Nat} (h : A ≠ [] → ∃ b off, a = some ⟨b, off, none⟩ ∧ ∀ (i : Nat) (bs : List Nat), A[i]? = some bs → ∃ u, w.cell? ⟨b, off + i, none⟩ = some u ∧ Lies w u bs) (hi : A[i]? = some bs) :
    ∃ b off ar cr, a = some ⟨b, off, none⟩ ∧ w.cell? ⟨b, off + i, none⟩ = some (.slice ar bs.length cr) ∧ Lies w (.slice ar bs.length cr) bs := by
  obtain ⟨b, off, ha, hr⟩ := h (fun e => by rw [e] at hi; simp at hi)
  obtain ⟨u, h1, h2⟩ := hr i bs hi
  obtain ⟨ar, cr, hu⟩ := lies_len h2
  subst hu
  exact ⟨b, off, ar, cr, ha, h1, h2⟩
theorem begins_end {G D Bh : List (List Nat)} (h1 : D.length ≤ G.length) (h2 : G.length ≤ D.length + Bh.length) (h : ∀ j, j < G.length → G[j]? = (D ++ Bh)[j]?) : beginsL G D Bh = true := by
  unfold beginsL
  rw [decide_eq_true_eq]
  refine ⟨h1, h2, List.ext_getElem? fun j => ?_⟩
  by_cases hj : j < G.length
  · rw [h j hj, List.getElem?_take_of_lt hj]
  · rw [List.getElem?_eq_none (by omega), List.getElem?_eq_none (by rw [List.length_take]; omega)]
theorem begins_not {G D Bh : List (List Nat)} {j : Nat} (hj : j < G.length) (h : G[j]? ≠ (D ++ Bh)[j]?) : beginsL G D Bh = false := by
  unfold beginsL
  rw [decide_eq_false_iff_not]
  rintro ⟨_, _, h3⟩
  refine h ?_
  conv => lhs; rw [h3]
  rw [List.getElem?_take_of_lt hj]
set_option maxRecDepth 1000000 in
set_option maxHeartbeats 8000000 in
theorem begins_any {w : World} {vg vd vb : Value} {G D Bh : List (List Nat)} (hg : RowsAt w vg G) (hd : RowsAt w vd D) (hb : RowsAt w vb Bh) (sg : ∀ b ∈ G, ∀ x ∈ b, x < 256) (sd : ∀ b ∈ D, ∀ x ∈ b, x < 256) (sb : ∀ b ∈ Bh, ∀ x ∈ b, x < 256) (lg : G.length ≤ 1000000000) (ld : D.length ≤ 1000000000) (lb : Bh.length ≤ 1000000000) :
    Calls Tryd.prog 19 #[vg, vd, vb] w fun e w' => e = .returned (.bool (beginsL G D Bh)) ∧ w' = w := by
  obtain ⟨ag, cg, rfl, hrg⟩ := hg
  obtain ⟨ad, cd, rfl, hrd⟩ := hd
  obtain ⟨ab, cb, rfl, hrb⟩ := hb
  obtain ⟨ng, hng⟩ : ∃ n, n = G.length := ⟨_, rfl⟩
  obtain ⟨nd, hnd⟩ : ∃ n, n = D.length := ⟨_, rfl⟩
  obtain ⟨nb, hnb⟩ : ∃ n, n = Bh.length := ⟨_, rfl⟩
  have HRG := Lib.hid hrg
  have HRD := Lib.hid hrd
  have HRB := Lib.hid hrb
  have HSG := Lib.hid sg
  have HSD := Lib.hid sd
  have HSB := Lib.hid sb
  have HN : Hid (ng = G.length ∧ nd = D.length ∧ nb = Bh.length) := Lib.hid ⟨hng, hnd, hnb⟩
  have e1 : IntKind.i64.wrap ((nd : Int) + (nb : Int)) = ((nd + nb : Nat) : Int) := by rw [IntKind.wrap_i64]; omega
  rw [← hng] at lg ⊢
  rw [← hnd] at ld ⊢
  rw [← hnb] at lb ⊢
  obtain ⟨q, hq⟩ : ∃ q, q = beginsL G D Bh := ⟨_, rfl⟩
  have HQ := Lib.hid hq
  rw [← hq]
  clear hrg hrd hrb sg sd sb hng hnd hnb hq
  go_enter Tryd.func19, Tryd.ntmps19
  by_cases h1 : ng < nd
  · have t1 : decide ((ng : Int) < (nd : Int)) = true := by simp; omega
    have t1n : decide (ng < nd) = true := by simpa using h1
    have hq : q = false := by rw [HQ.out]; unfold beginsL; rw [decide_eq_false_iff_not]; have := HN.out; omega
    clear h1
    go_wp2
    go_ret
    exact ⟨by subst hq; rfl, rfl⟩
  · have t1 : decide ((ng : Int) < (nd : Int)) = false := by simp; omega
    have t1n : decide (ng < nd) = false := by simpa using h1
    by_cases h2 : nd + nb < ng
    · have t2 : decide (((nd + nb : Nat) : Int) < (ng : Int)) = true := by simp; omega
      have t2n : decide ((nd : Int) + (nb : Int) < (ng : Int)) = true := by simp; omega
      have hq : q = false := by rw [HQ.out]; unfold beginsL; rw [decide_eq_false_iff_not]; have := HN.out; omega
      clear h1 h2
      go_wp2
      go_ret
      exact ⟨by subst hq; rfl, rfl⟩
    · have t2 : decide (((nd + nb : Nat) : Int) < (ng : Int)) = false := by simp; omega
      have t2n : decide ((nd : Int) + (nb : Int) < (ng : Int)) = false := by simp; omega
      have H12 := Lib.hid (And.intro h1 h2)
      clear h1 h2
      go_wp2_with fail
      go_loopw [27] (fun x wr => ∃ i : Nat, i ≤ ng ∧ x = .int .i64 (i : Int) ∧ (∀ j, j < i → G[j]? = (D ++ Bh)[j]?) ∧ wr = w) (fun x _ => ng - (intOf x).toNat)
      case atStart => exact ⟨0, Nat.zero_le _, rfl, fun j h => by omega, rfl⟩
      case round =>
        obtain ⟨i, hi, rfl, hall, rfl⟩ := hrel
        have HA := Lib.hid hall
        clear hall
        by_cases hlt : i < ng
        · obtain ⟨g, hgi⟩ : ∃ g, G[i]? = some g := ⟨_, List.getElem?_eq_getElem (by have := HN.out; omega)⟩
          obtain ⟨b1, o1, a1, c1, rfl, cc1, l1⟩ := rows_get HRG.out hgi
          have x1 := text_of l1 _ Tryd.underlying9
          have sg := HSG.out g (List.mem_of_getElem? hgi)
          obtain ⟨n1, hn1⟩ : ∃ n, n = g.length := ⟨_, rfl⟩
          obtain ⟨S, hS⟩ : ∃ s, s = strOf g := ⟨_, rfl⟩
          rw [← hS, ← hn1] at x1
          rw [← hn1] at cc1
          have HGI := Lib.hid hgi
          by_cases hd : i < nd
          · obtain ⟨r, hri⟩ : ∃ r, D[i]? = some r := ⟨_, List.getElem?_eq_getElem (by have := HN.out; omega)⟩
            have hcat : (D ++ Bh)[i]? = some r := by rw [List.getElem?_append_left (by have := HN.out; omega)]; exact hri
            obtain ⟨b2, o2, a2, c2, rfl, cc2, l2⟩ := rows_get HRD.out hri
            have x2 := text_of l2 _ Tryd.underlying9
            have heq := str_beq sg (HSD.out r (List.mem_of_getElem? hri))
            obtain ⟨n2, hn2⟩ : ∃ n, n = r.length := ⟨_, rfl⟩
            obtain ⟨T, hT⟩ : ∃ s, s = strOf r := ⟨_, rfl⟩
            rw [← hS, ← hT] at heq
            rw [← hT, ← hn2] at x2
            rw [← hn2] at cc2
            have HC := Lib.hid hcat
            have td : decide ((i : Int) < (nd : Int)) = true := by simp; omega
            by_cases he : g = r
            · rw [decide_eq_true he] at heq
              have HE := Lib.hid he
              clear l1 l2 hn1 hn2 hS hT hgi hri hcat sg he
              go_wp2
              go_roundw
              case rel => exact ⟨i + 1, by omega, by simp, fun j hj => by
                by_cases hji : j < i
                · exact HA.out j hji
                · obtain rfl : j = i := by omega
                  rw [HGI.out, HC.out, HE.out], trivial⟩
              case measure => simp [intOf]; omega
            · rw [decide_eq_false he] at heq
              have hq : q = false := by rw [HQ.out]; exact begins_not (j := i) (by have := HN.out; omega) (by rw [HGI.out, HC.out]; exact fun e => he (Option.some.inj e))
              clear l1 l2 hn1 hn2 hS hT hgi hri hcat sg he
              go_wp2
              go_ret
              exact ⟨by subst hq; rfl, rfl⟩
          · obtain ⟨k, hk⟩ : ∃ k, k = i - nd := ⟨_, rfl⟩
            have ew : IntKind.i64.wrap ((i : Int) - (nd : Int)) = (k : Int) := by rw [IntKind.wrap_i64]; omega
            have hkb : k < nb := by have := H12.out; omega
            obtain ⟨r, hri⟩ : ∃ r, Bh[k]? = some r := ⟨_, List.getElem?_eq_getElem (by have := HN.out; omega)⟩
            have hcat : (D ++ Bh)[i]? = some r := by rw [List.getElem?_append_right (by have := HN.out; omega), ← HN.out.2.1, ← hk]; exact hri
            obtain ⟨b2, o2, a2, c2, rfl, cc2, l2⟩ := rows_get HRB.out hri
            have x2 := text_of l2 _ Tryd.underlying9
            have heq := str_beq sg (HSB.out r (List.mem_of_getElem? hri))
            obtain ⟨n2, hn2⟩ : ∃ n, n = r.length := ⟨_, rfl⟩
            obtain ⟨T, hT⟩ : ∃ s, s = strOf r := ⟨_, rfl⟩
            rw [← hS, ← hT] at heq
            rw [← hT, ← hn2] at x2
            rw [← hn2] at cc2
            have HC := Lib.hid hcat
            have td : decide ((i : Int) < (nd : Int)) = false := by simp; omega
            by_cases he : g = r
            · rw [decide_eq_true he] at heq
              have HE := Lib.hid he
              clear l1 l2 hn1 hn2 hS hT hgi hri hcat sg he hk
              go_wp2
              go_roundw
              case rel => exact ⟨i + 1, by omega, by simp, fun j hj => by
                by_cases hji : j < i
                · exact HA.out j hji
                · obtain rfl : j = i := by omega
                  rw [HGI.out, HC.out, HE.out], trivial⟩
              case measure => simp [intOf]; omega
            · rw [decide_eq_false he] at heq
              have hq : q = false := by rw [HQ.out]; exact begins_not (j := i) (by have := HN.out; omega) (by rw [HGI.out, HC.out]; exact fun e => he (Option.some.inj e))
              clear l1 l2 hn1 hn2 hS hT hgi hri hcat sg he hk
              go_wp2
              go_ret
              exact ⟨by subst hq; rfl, rfl⟩
        · obtain rfl : i = ng := by omega
          have hq : q = true := by rw [HQ.out]; exact begins_end (by have := HN.out; have := H12.out; omega) (by have := HN.out; have := H12.out; omega) (fun j hj => HA.out j (by have := HN.out; omega))
          go_wp2
          go_ret
          exact ⟨by subst hq; rfl, rfl⟩
end Go.Proofs.YtngeilhdambgfaaDoor
