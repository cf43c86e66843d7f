/- Package name: is a text a name? And the document's own answer. -/
import Derived.Test.YtphgkkdpdiiioaaNmBy
namespace Go.Proofs.Ytphgkkdpdiiioaa
open Go.RowKit

theorem ords_at (s : ByteArray) (k : Nat) (h : k < s.size) : (ordsOf s).getD k 0 = (s[k]'h).toNat := by
  simp [List.getD, ords_get s k h]
theorem bytes_empty {s : ByteArray} (h : s.size = 0) : s = ⟨#[]⟩ := ByteArray.ext (Array.eq_empty_of_size_eq_zero h)
theorem text_ne {s t : ByteArray} (h : s ≠ t) : (s.toList == t.toList) = false := by rw [text_beq]; exact decide_eq_false h
theorem text_eq (s : ByteArray) : (s.toList == s.toList) = true := by rw [text_beq]; exact decide_eq_true rfl
theorem right_short {l : List Nat} (h : l.length = 0 ∨ 16 < l.length) : rightN l = false := by
  rw [Bool.eq_false_iff]; intro hr
  have := (right_iff.1 hr).1; omega
theorem right_first {l : List Nat} (h : letN (l.getD 0 0) = false) : rightN l = false := by
  rw [Bool.eq_false_iff]; intro hr
  rw [(right_iff.1 hr).2.1] at h; cases h
theorem right_in {l : List Nat} {k : Nat} (hk : k < l.length) (h : fitN (l.getD k 0) = false) : rightN l = false := by
  rw [Bool.eq_false_iff]; intro hr
  have e : l.getD k 0 = l[k] := by simp [List.getD, List.getElem?_eq_getElem hk]
  rw [e, (right_iff.1 hr).2.2 _ (List.getElem_mem hk)] at h; cases h
theorem right_all {l : List Nat} (h1 : 1 ≤ l.length) (h2 : l.length ≤ 16) (h3 : letN (l.getD 0 0) = true) (h4 : ∀ k, k < l.length → fitN (l.getD k 0) = true) : rightN l = true :=
  right_iff.2 ⟨⟨h1, h2⟩, h3, fun x hx => by
    obtain ⟨k, hk, rfl⟩ := List.mem_iff_getElem.1 hx
    have := h4 k hk
    rwa [show l.getD k 0 = l[k] by simp [List.getD, List.getElem?_eq_getElem hk]] at this⟩
set_option maxHeartbeats 4000000 in
theorem nmright_any (w : World) (s : ByteArray) (hs : s.size ≤ maxLen) :
    Calls Try.prog 36 #[.string s] w fun e w' => e = .returned (.bool (rightN (ordsOf s))) ∧ w' = w := by
  rcases Nat.eq_zero_or_pos s.size with h0 | h0
  · rw [right_short (.inl (by rw [ordsOf_length]; exact h0))]
    obtain rfl := bytes_empty h0
    go_enter Try.func36, Try.ntmps36
    repeat (first | go_values | go_skip | go_guarded | go_step | go_upon)
    go_ret
    exact ⟨rfl, rfl⟩
  · have te : (s.toList == ([] : List UInt8)) = false := by
      have := text_ne (s := s) (t := ⟨#[]⟩) (fun e => by rw [e] at h0; exact absurd h0 (by decide))
      simpa using this
    by_cases h16 : s.size ≤ 16
    · have t16 : decide ((16 : Int) < (s.size : Int)) = false := by simp only [decide_eq_false_iff_not]; omega
      obtain ⟨c, hc⟩ : ∃ c, c = (ordsOf s).getD 0 0 := ⟨_, rfl⟩
      have hc2 : ((s[0]'h0).toNat : Int) = (c : Int) := by rw [hc, ords_at s 0 h0]
      have hc256 : c < 256 := by rw [hc, ords_at s 0 h0]; exact (s[0]'h0).toNat_lt
      have HLE := Lib.hid (nmlet_any w hc256)
      cases hL : letN c with
      | false =>
        rw [hL] at HLE
        rw [right_first (by rw [← hc]; exact hL)]
        clear hL hc
        go_enter Try.func36, Try.ntmps36
        repeat (first | go_values | go_skip | go_guarded | go_step)
        refine HLE.out.mono ?_
        rintro e w1 ⟨rfl, rfl⟩
        dsimp only
        repeat (first | go_values | go_skip | go_guarded | go_step | go_upon)
        go_ret
        exact ⟨rfl, rfl⟩
      | true =>
        rw [hL] at HLE
        have HL := Lib.hid hL
        have HC := Lib.hid hc
        clear hL hc
        go_enter Try.func36, Try.ntmps36
        repeat (first | go_values | go_skip | go_guarded | go_step)
        refine HLE.out.mono ?_
        rintro e w1 ⟨rfl, rfl⟩
        clear HLE
        go_wp2_with fail
        go_loop [19] (fun vi => ∃ k : Nat, k ≤ s.size ∧ vi = .int .i64 (k : Int) ∧ Hid (∀ j, j < k → fitN ((ordsOf s).getD j 0) = true)) (fun vi => s.size - (intOf vi).toNat)
        case atStart => exact ⟨0, Nat.zero_le _, rfl, Lib.hid (fun j hj => by omega)⟩
        case round =>
          obtain ⟨k, hk, rfl, hh⟩ := hrel
          by_cases hk2 : k < s.size
          · have tk : decide ((k : Int) < (s.size : Int)) = true := by simp only [decide_eq_true_eq]; omega
            obtain ⟨d, hd⟩ : ∃ d, d = (ordsOf s).getD k 0 := ⟨_, rfl⟩
            have hd2 : ((s[k]'hk2).toNat : Int) = (d : Int) := by rw [hd, ords_at s k hk2]
            have hd256 : d < 256 := by rw [hd, ords_at s k hk2]; exact (s[k]'hk2).toNat_lt
            have HFI := Lib.hid (nmfits_any w1 hd256)
            have HD := Lib.hid hd
            cases hF : fitN d with
            | false =>
              rw [hF] at HFI
              have HR : Hid (rightN (ordsOf s) = false) := Lib.hid (right_in (by rw [ordsOf_length]; exact hk2) (by rw [← hd]; exact hF))
              clear hF hd
              go_wp2_with (go_at_call 46; refine HFI.out.mono ?_; rintro e w2 ⟨rfl, rfl⟩)
              go_ret
              exact ⟨by rw [HR.out]; rfl, rfl⟩
            | true =>
              rw [hF] at HFI
              have HN : Hid (∀ j, j < k + 1 → fitN ((ordsOf s).getD j 0) = true) := Lib.hid fun j hj => by
                by_cases e : j = k
                · rw [e, ← hd]; exact hF
                · exact hh.out j (by omega)
              clear hF hd
              go_wp2_with (go_at_call 46; refine HFI.out.mono ?_; rintro e w2 ⟨rfl, rfl⟩)
              exact ⟨⟨k + 1, by omega, rfl, HN⟩, by simp [intOf]; omega⟩
          · have tk : decide ((k : Int) < (s.size : Int)) = false := by simp only [decide_eq_false_iff_not]; omega
            have HR : Hid (rightN (ordsOf s) = true) := Lib.hid (right_all (by rw [ordsOf_length]; omega) (by rw [ordsOf_length]; omega) (by rw [← HC.out]; exact HL.out) (fun j hj => hh.out j (by rw [ordsOf_length] at hj; omega)))
            go_wp2
            go_ret
            exact ⟨by rw [HR.out]; rfl, rfl⟩
    · have t16 : decide ((16 : Int) < (s.size : Int)) = true := by simp only [decide_eq_true_eq]; omega
      rw [right_short (.inr (by rw [ordsOf_length]; omega))]
      go_enter Try.func36, Try.ntmps36
      repeat (first | go_values | go_skip | go_guarded | go_step | go_upon)
      go_ret
      exact ⟨rfl, rfl⟩
/-- a byte that may not stand at its place -/
def outN (l : List Nat) (k : Nat) : Bool := !(if k = 0 then letN (l.getD k 0) else fitN (l.getD k 0))
theorem out_right {l : List Nat} {k : Nat} (hk : k < l.length) (h : outN l k = true) : rightN l = false := by
  unfold outN at h
  split at h
  · next e => subst e; exact right_first (by simpa using h)
  · exact right_in hk (by simpa using h)
theorem none_right {l : List Nat} (h : ∀ k, k < l.length → outN l k = false) : rightN l = (decide (1 ≤ l.length) && decide (l.length ≤ 16)) := by
  rcases Nat.eq_zero_or_pos l.length with h0 | h0
  · rw [right_short (.inl h0)]; simp [h0]
  · have h1 := h 0 h0
    simp only [outN, if_true, Bool.not_eq_false'] at h1
    by_cases h16 : l.length ≤ 16
    · rw [right_all h0 h16 h1 fun k hk => by
        have := h k hk
        unfold outN at this
        split at this
        · next e => subst e; exact let_fit (by simpa using this)
        · simpa using this]
      simp [h16, show 1 ≤ l.length from h0]
    · rw [right_short (.inr (by omega))]; simp [h16]
set_option maxHeartbeats 8000000 in
theorem nmdoc_any (w : World) (s : ByteArray) (hs : s.size ≤ 1000000000000) :
    Calls Try.prog 9 #[.string s] w fun e w' => e = .returned (.bool (rightN (ordsOf s))) ∧ w' = w := by
  go_enter Try.func9, Try.ntmps9
  go_wp2_with fail
  go_loop [3] (fun vi => ∃ k : Nat, k ≤ s.size ∧ vi = .int .i64 (k : Int) ∧ Hid (∀ j, j < k → outN (ordsOf s) j = false)) (fun vi => s.size - (intOf vi).toNat)
  case atStart => exact ⟨0, Nat.zero_le _, rfl, Lib.hid (fun j hj => by omega)⟩
  case round =>
    obtain ⟨k, hk, rfl, hh⟩ := hrel
    by_cases hk2 : k < s.size
    · have tk : decide ((k : Int) < (s.size : Int)) = true := by simp only [decide_eq_true_eq]; omega
      obtain ⟨d, hd⟩ : ∃ d, d = (ordsOf s).getD k 0 := ⟨_, rfl⟩
      have hd2 : ((s[k]'hk2).toNat : Int) = (d : Int) := by rw [hd, ords_at s k hk2]
      have hd256 : d < 256 := by rw [hd, ords_at s k hk2]; exact (s[k]'hk2).toNat_lt
      have HBAD : Hid (outN (ordsOf s) k = true → rightN (ordsOf s) = false) := Lib.hid (out_right (by rw [ordsOf_length]; exact hk2))
      have HGOOD : Hid (outN (ordsOf s) k = false → ∀ j, j < k + 1 → outN (ordsOf s) j = false) := Lib.hid fun ho j hj => by
        by_cases e : j = k
        · rw [e]; exact ho
        · exact hh.out j (by omega)
      have HO : Hid (outN (ordsOf s) k = !(if k = 0 then letN d else fitN d)) := Lib.hid (by unfold outN; rw [← hd])
      clear hd
      by_cases h97 : 97 ≤ d
      · have t1 : decide ((97 : Int) ≤ (d : Int)) = true := by simp only [decide_eq_true_eq]; omega
        by_cases h122 : d ≤ 122
        · have t2 : decide ((d : Int) ≤ 122) = true := by simp only [decide_eq_true_eq]; omega
          have HG := Lib.hid (HGOOD.out (by rw [HO.out, show letN d = true from let_iff.2 (by omega), let_fit (show letN d = true from let_iff.2 (by omega))]; simp))
          go_wp2
          exact ⟨⟨k + 1, by omega, rfl, HG⟩, by simp [intOf]; omega⟩
        · have t2 : decide ((d : Int) ≤ 122) = false := by simp only [decide_eq_false_iff_not]; omega
          by_cases h0 : k = 0
          · have t0 : ((k : Int) == 0) = true := by simp; omega
            have HG := Lib.hid (HBAD.out (by rw [HO.out, if_pos h0, show letN d = false from Bool.eq_false_iff.2 fun h => by have := let_iff.1 h; omega]; rfl))
            clear h0
            go_wp2
            go_ret
            exact ⟨by rw [HG.out]; rfl, rfl⟩
          · have t0 : ((k : Int) == 0) = false := by simp; omega
            have t3 : ((d : Int) != 45) = true := by simp; omega
            have t4 : decide ((d : Int) < 48) = false := by simp only [decide_eq_false_iff_not]; omega
            have t5 : decide ((57 : Int) < (d : Int)) = true := by simp only [decide_eq_true_eq]; omega
            have HG := Lib.hid (HBAD.out (by rw [HO.out, if_neg h0, show fitN d = false from Bool.eq_false_iff.2 fun h => by have := fit_iff.1 h; omega]; rfl))
            clear h0
            go_wp2
            go_ret
            exact ⟨by rw [HG.out]; rfl, rfl⟩
      · have t1 : decide ((97 : Int) ≤ (d : Int)) = false := by simp only [decide_eq_false_iff_not]; omega
        by_cases h0 : k = 0
        · have t0 : ((k : Int) == 0) = true := by simp; omega
          have HG := Lib.hid (HBAD.out (by rw [HO.out, if_pos h0, show letN d = false from Bool.eq_false_iff.2 fun h => by have := let_iff.1 h; omega]; rfl))
          clear h0
          go_wp2
          go_ret
          exact ⟨by rw [HG.out]; rfl, rfl⟩
        · have t0 : ((k : Int) == 0) = false := by simp; omega
          by_cases h45 : d = 45
          · have t3 : ((d : Int) != 45) = false := by simp; omega
            have HG := Lib.hid (HGOOD.out (by rw [HO.out, if_neg h0, show fitN d = true from fit_iff.2 (by omega)]; rfl))
            go_wp2
            exact ⟨⟨k + 1, by omega, rfl, HG⟩, by simp [intOf]; omega⟩
          · have t3 : ((d : Int) != 45) = true := by simp; omega
            by_cases h48 : d < 48
            · have t4 : decide ((d : Int) < 48) = true := by simp only [decide_eq_true_eq]; omega
              have HG := Lib.hid (HBAD.out (by rw [HO.out, if_neg h0, show fitN d = false from Bool.eq_false_iff.2 fun h => by have := fit_iff.1 h; omega]; rfl))
              clear h0
              go_wp2
              go_ret
              exact ⟨by rw [HG.out]; rfl, rfl⟩
            · have t4 : decide ((d : Int) < 48) = false := by simp only [decide_eq_false_iff_not]; omega
              by_cases h57 : 57 < d
              · have t5 : decide ((57 : Int) < (d : Int)) = true := by simp only [decide_eq_true_eq]; omega
                have HG := Lib.hid (HBAD.out (by rw [HO.out, if_neg h0, show fitN d = false from Bool.eq_false_iff.2 fun h => by have := fit_iff.1 h; omega]; rfl))
                clear h0
                go_wp2
                go_ret
                exact ⟨by rw [HG.out]; rfl, rfl⟩
              · have t5 : decide ((57 : Int) < (d : Int)) = false := by simp only [decide_eq_false_iff_not]; omega
                have HG := Lib.hid (HGOOD.out (by rw [HO.out, if_neg h0, show fitN d = true from fit_iff.2 (by omega)]; rfl))
                go_wp2
                exact ⟨⟨k + 1, by omega, rfl, HG⟩, by simp [intOf]; omega⟩
    · have tk : decide ((k : Int) < (s.size : Int)) = false := by simp only [decide_eq_false_iff_not]; omega
      have HR : Hid (rightN (ordsOf s) = (decide (1 ≤ s.size) && decide (s.size ≤ 16))) := Lib.hid (by
        have := none_right (l := ordsOf s) (fun j hj => hh.out j (by rw [ordsOf_length] at hj; omega))
        rwa [ordsOf_length] at this)
      by_cases h1 : 1 ≤ s.size
      · have t1 : decide ((1 : Int) ≤ (s.size : Int)) = true := by simp only [decide_eq_true_eq]; omega
        by_cases h2 : s.size ≤ 16
        · have t2 : decide ((s.size : Int) ≤ 16) = true := by simp only [decide_eq_true_eq]; omega
          have HG := Lib.hid (HR.out.trans (show (decide (1 ≤ s.size) && decide (s.size ≤ 16)) = true by simp [h1, h2]))
          go_wp2
          go_ret
          exact ⟨by rw [HG.out]; rfl, rfl⟩
        · have t2 : decide ((s.size : Int) ≤ 16) = false := by simp only [decide_eq_false_iff_not]; omega
          have HG := Lib.hid (HR.out.trans (show (decide (1 ≤ s.size) && decide (s.size ≤ 16)) = false by simp [h2]))
          go_wp2
          go_ret
          exact ⟨by rw [HG.out]; rfl, rfl⟩
      · have t1 : decide ((1 : Int) ≤ (s.size : Int)) = false := by simp only [decide_eq_false_iff_not]; omega
        have HG := Lib.hid (HR.out.trans (show (decide (1 ≤ s.size) && decide (s.size ≤ 16)) = false by simp [h1]))
        go_wp2
        go_ret
        exact ⟨by rw [HG.out]; rfl, rfl⟩
end Go.Proofs.Ytphgkkdpdiiioaa
