/- slices.Equal over points. -/
import Derived.Test.YtmpphidiofhnlaaMB
import Derived.Deep.QuietTactic
namespace Go.Proofs.Ytmpphidiofhnlaa
open Go.RowKit

set_option maxHeartbeats 4000000 in
theorem tiequal_any {w : World} {v0 v1 : Value} {l0 l1 : List Pt} (hv : PLies w v0 l0) (hv1 : PLies w v1 l1) (hn : l0.length ≤ 9223372036854775807) (hn1 : l1.length ≤ 9223372036854775807) :
    Calls Try.prog 49 #[v0, v1] w fun e w' => e = .returned (.bool (decide (l0 = l1))) ∧ ∃ m, w' = w.drewN m := by
  obtain ⟨a, b, off, cap, rfl, hadr, hpts⟩ := hv
  obtain ⟨a', b', off', cap', rfl, hadr', hpts'⟩ := hv1
  have HADR := Lib.hid hadr
  have HP := Lib.hid hpts
  have HADR' := Lib.hid hadr'
  have HP' := Lib.hid hpts'
  clear hadr hpts hadr' hpts'
  by_cases hlen : l0.length = l1.length
  · have t0 : ((l0.length : Int) != l1.length) = false := by simp; omega
    have HL := Lib.hid hlen
    clear hlen
    go_enter Try.func49, Try.ntmps49
    go_wp2
    go_loopw [13] (fun c wr => ∃ k : Nat, k ≤ l0.length ∧ c = .int .i64 k ∧ l0.take k = l1.take k ∧ ∃ m, wr = w.drewN m) (fun c _ => l0.length - (intOf c).toNat)
    case atStart => exact ⟨0, by omega, rfl, by simp, 0, rfl⟩
    case round =>
      obtain ⟨k, hk, rfl, heq, mm, rfl⟩ := hrel
      have HEQ := Lib.hid heq
      clear heq
      by_cases hlt : k < l0.length
      · have ea := HADR.out (by intro h; simp [h] at hlt)
        have ea' := HADR'.out (by intro h; have := HL.out; simp [h] at this; simp [this] at hlt)
        subst ea; subst ea'
        have hlt' : k < l1.length := by have := HL.out; omega
        obtain ⟨t, ht⟩ : ∃ t, l0[k]? = some t := ⟨l0[k], List.getElem?_eq_getElem hlt⟩
        obtain ⟨u, hu⟩ : ∃ u, l1[k]? = some u := ⟨l1[k], List.getElem?_eq_getElem hlt'⟩
        obtain ⟨a0, a1⟩ := HP.out k t ht
        obtain ⟨c0, c1⟩ := HP'.out k u hu
        have HT := Lib.hid ht
        have HU := Lib.hid hu
        clear ht hu
        by_cases htu : t = u
        · subst htu
          have HEN : Hid (l0.take (k + 1) = l1.take (k + 1)) := Lib.hid (by rw [List.take_add_one, List.take_add_one, HT.out, HU.out, HEQ.out])
          obtain ⟨ta, tv⟩ := t
          simp only at a0 a1 c0 c1
          go_wp2
          go_quiet (fail)
          go_wp2
          go_roundw
          case rel => exact ⟨k + 1, by omega, by go_num, HEN.out, _, rfl⟩
          case measure => simp [intOf]; omega
        · have HNE : Hid (decide (l0 = l1) = false) := Lib.hid (decide_eq_false fun h => by
            subst h; have h1 := HT.out; rw [HU.out] at h1; exact htu (Option.some.inj h1).symm)
          obtain ⟨ta, tv⟩ := t
          obtain ⟨ua, uv⟩ := u
          simp only at a0 a1 c0 c1
          by_cases h1 : ta = ua
          · have h2 : ¬ tv = uv := fun h2 => htu (by rw [h1, h2])
            subst h1
            have b2 : (tv == uv) = false := by simpa using h2
            clear htu
            go_wp2
            go_quiet (fail)
            go_wp2
            go_ret
            exact ⟨by rw [HNE.out]; rfl, mm + nq, by rw [World.drewN_drewN]⟩
          · have b1 : (ta == ua) = false := by simpa using h1
            clear htu
            go_wp2
            go_quiet (fail)
            go_wp2
            go_ret
            exact ⟨by rw [HNE.out]; rfl, mm + nq, by rw [World.drewN_drewN]⟩
      · obtain rfl : k = l0.length := by omega
        have HYES : Hid (decide (l0 = l1) = true) := Lib.hid (decide_eq_true (by
          have h1 := HEQ.out
          rw [List.take_of_length_le (Nat.le_refl _), List.take_of_length_le (by have := HL.out; omega)] at h1
          exact h1))
        go_wp2
        go_ret
        exact ⟨by rw [HYES.out]; rfl, _, rfl⟩
  · have t0 : ((l0.length : Int) != l1.length) = true := by simp; omega
    have HNE : Hid (decide (l0 = l1) = false) := Lib.hid (decide_eq_false fun h => hlen (by rw [h]))
    clear hlen
    go_enter Try.func49, Try.ntmps49
    go_wp2
    go_ret
    exact ⟨by rw [HNE.out]; rfl, 0, rfl⟩
end Go.Proofs.Ytmpphidiofhnlaa
