/- The law's own: the same points, the same aggregates. -/
import Derived.Test.YtmpphidiofhnlaaMC
import Derived.Deep.QuietTactic
namespace Go.Proofs.Ytmpphidiofhnlaa
open Go.RowKit

set_option maxHeartbeats 4000000 in
/-- the same row twice -/
theorem samePt_yes {w : World} {v0 v1 : Value} {l : List Pt} (hv : PLies w v0 l) (hv1 : PLies w v1 l) (hn : l.length ≤ 1000000) :
    Calls Try.prog 16 #[v0, v1] w fun e w' => e = .returned (.bool true) ∧ Below w.heap.size w w' := by
  obtain ⟨a, b, off, cap, rfl, hadr, hpts⟩ := hv
  obtain ⟨a', b', off', cap', rfl, hadr', hpts'⟩ := hv1
  have HADR := Lib.hid hadr
  have HP := Lib.hid hpts
  have HADR' := Lib.hid hadr'
  have HP' := Lib.hid hpts'
  clear hadr hpts hadr' hpts'
  go_enter Try.func16, Try.ntmps16
  go_wp2
  go_loopw [13] (fun c wr => ∃ k : Nat, k ≤ l.length ∧ c = .int .i64 k ∧ ∃ m, wr = w.drewN m) (fun c _ => l.length - (intOf c).toNat)
  case atStart => exact ⟨0, by omega, rfl, 0, rfl⟩
  case round =>
    obtain ⟨k, hk, rfl, mm, rfl⟩ := hrel
    by_cases hlt : k < l.length
    · have ea := HADR.out (by intro h; simp [h] at hlt)
      have ea' := HADR'.out (by intro h; simp [h] at hlt)
      subst ea; subst ea'
      obtain ⟨t, ht⟩ : ∃ t, l[k]? = some t := ⟨l[k], List.getElem?_eq_getElem hlt⟩
      obtain ⟨a0, a1⟩ := HP.out k t ht
      obtain ⟨c0, c1⟩ := HP'.out k t ht
      clear ht
      go_wp2
      go_quiet (fail)
      go_wp2
      go_roundw
      case rel => exact ⟨k + 1, by omega, by go_num, _, rfl⟩
      case measure => simp [intOf]; omega
    · obtain rfl : k = l.length := by omega
      go_wp2
      go_ret
      exact ⟨rfl, below_drewN (Below.refl _ _) _⟩
set_option maxHeartbeats 4000000 in
theorem sameAg_yes {w : World} {v0 v1 : Value} {l : List Ag} (hv : ALies w v0 l) (hv1 : ALies w v1 l) (hn : l.length ≤ 1000000) :
    Calls Try.prog 18 #[v0, v1] w fun e w' => e = .returned (.bool true) ∧ Below w.heap.size w w' := by
  obtain ⟨a, b, off, cap, rfl, hadr, hpts⟩ := hv
  obtain ⟨a', b', off', cap', rfl, hadr', hpts'⟩ := hv1
  have HADR := Lib.hid hadr
  have HP := Lib.hid hpts
  have HADR' := Lib.hid hadr'
  have HP' := Lib.hid hpts'
  clear hadr hpts hadr' hpts'
  go_enter Try.func18, Try.ntmps18
  go_wp2
  go_loopw [13] (fun c wr => ∃ k : Nat, k ≤ l.length ∧ c = .int .i64 k ∧ ∃ m, wr = w.drewN m) (fun c _ => l.length - (intOf c).toNat)
  case atStart => exact ⟨0, by omega, rfl, 0, rfl⟩
  case round =>
    obtain ⟨k, hk, rfl, mm, rfl⟩ := hrel
    by_cases hlt : k < l.length
    · have ea := HADR.out (by intro h; simp [h] at hlt)
      have ea' := HADR'.out (by intro h; simp [h] at hlt)
      subst ea; subst ea'
      obtain ⟨t, ht⟩ : ∃ t, l[k]? = some t := ⟨l[k], List.getElem?_eq_getElem hlt⟩
      obtain ⟨a0, a1, a2, a3, a4⟩ := HP.out k t ht
      obtain ⟨c0, c1, c2, c3, c4⟩ := HP'.out k t ht
      clear ht
      go_wp2
      go_quiet (fail)
      go_wp2
      go_roundw
      case rel => exact ⟨k + 1, by omega, by go_num, _, rfl⟩
      case measure => simp [intOf]; omega
    · obtain rfl : k = l.length := by omega
      go_wp2
      go_ret
      exact ⟨rfl, below_drewN (Below.refl _ _) _⟩
end Go.Proofs.Ytmpphidiofhnlaa
