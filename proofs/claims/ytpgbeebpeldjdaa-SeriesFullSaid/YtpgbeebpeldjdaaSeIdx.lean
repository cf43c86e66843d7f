/- Package series: is there a point outside? -/
import Derived.Test.YtpgbeebpeldjdaaSeBy
namespace Go.Proofs.Ytpgbeebpeldjdaa
open Go.RowKit

theorem PLies.len {w : World} {v : Value} {l : List Pt} (h : PLies w v l) : ∃ a c, v = .slice a l.length c := by
  obtain ⟨a, b, off, cap, rfl, _⟩ := h
  exact ⟨_, _, rfl⟩
set_option maxHeartbeats 4000000 in
set_option maxRecDepth 100000 in
theorem seidx_any {w : World} {v : Value} {l : List Pt} (hv : PLies w v l) (hn : l.length ≤ maxLen) :
    Calls Try.prog 30 #[v, .func (.func 20) #[] #[]] w fun e w' => (∃ r : Int, e = .returned (.int .i64 r) ∧ decide (0 ≤ r) = l.any outP) ∧ Below w.heap.size w w' := by
  obtain ⟨a, b, off, cap, rfl, hadr, hpts⟩ := hv
  have HADR := Lib.hid hadr
  have HP := Lib.hid hpts
  have HN : Hid (l.length ≤ maxLen) := Lib.hid hn
  clear hadr hpts hn
  have HO : Hid (∀ W (p : Pt), Calls Try.prog 20 #[.agg #[.int .i64 p.a, .int .i64 p.v]] W fun e w' => e = .returned (.bool (outP p)) ∧ Below W.heap.size W w') := Lib.hid fun W p => seout_any W p
  go_enter Try.func30, Try.ntmps30
  go_wp2_with fail
  go_loopw [8] (fun c wr => ∃ k : Nat, k ≤ l.length ∧ c = .int .i64 k ∧ (l.take k).any outP = false ∧ Below w.heap.size w wr) (fun c _ => l.length - (intOf c).toNat)
  case atStart => exact ⟨0, Nat.zero_le _, rfl, rfl, Below.refl _ _⟩
  case round =>
    obtain ⟨k, hk, rfl, hnone, hb⟩ := hrel
    obtain ⟨W3, hW3⟩ : ∃ W3, W3 = wr := ⟨_, rfl⟩
    subst hW3
    have HB := Lib.hid hb
    have HNO := Lib.hid hnone
    have HPT := Lib.hid (HP.out.beyond hb)
    clear hb hnone
    by_cases hlt : k < l.length
    · have ea := HADR.out (by intro h; simp [h] at hlt)
      subst ea
      obtain ⟨p, hp⟩ : ∃ p, l[k]? = some p := ⟨l[k], List.getElem?_eq_getElem hlt⟩
      obtain ⟨c0, c1⟩ := HPT.out k p hp
      have HPK := Lib.hid hp
      have hmax : k < 9223372036854775807 := by have := HN.out; unfold maxLen at this; omega
      clear hp
      go_wp2_with fail
      refine (HO.out W3 p).mono ?_
      rintro e W4 ⟨rfl, hb4⟩
      have HB4 := Lib.hid (HB.out.trans (hb4.mono HB.out.size))
      clear hb4 c0 c1
      dsimp only
      cases ho : outP p with
      | true =>
        have HYES : Hid (l.any outP = true) := Lib.hid (List.any_eq_true.2 ⟨p, List.mem_of_getElem? HPK.out, ho⟩)
        clear ho
        go_wp2
        go_ret
        exact ⟨⟨k, rfl, by rw [HYES.out]; exact decide_eq_true (by omega)⟩, HB4.out⟩
      | false =>
        have HNX : Hid ((l.take (k + 1)).any outP = false) := Lib.hid (by rw [List.take_add_one, HPK.out, List.any_append, HNO.out]; simp [ho])
        clear ho
        go_wp2_with fail
        go_roundw
        case rel => exact ⟨k + 1, by omega, by go_num, HNX.out, HB4.out⟩
        case measure => simp [intOf]; omega
    · have HZ : Hid (l.any outP = false) := Lib.hid (by have h := HNO.out; rwa [List.take_of_length_le (by omega)] at h)
      go_wp2_with fail
      go_ret
      exact ⟨⟨-1, rfl, by rw [HZ.out]; rfl⟩, HB.out⟩
set_option maxHeartbeats 4000000 in
theorem secont_any {w : World} {v : Value} {l : List Pt} (hv : PLies w v l) (hn : l.length ≤ maxLen) :
    Calls Try.prog 19 #[v, .func (.func 20) #[] #[]] w fun e w' => e = .returned (.bool (l.any outP)) ∧ Below w.heap.size w w' := by
  have H := Lib.hid (seidx_any hv hn)
  clear hv
  obtain ⟨R, hR⟩ : ∃ R, R = l.any outP := ⟨_, rfl⟩
  rw [← hR] at H ⊢
  clear hR
  go_enter Try.func19, Try.ntmps19
  go_wp2_with fail
  refine H.out.mono ?_
  rintro e W2 ⟨⟨r, rfl, hr⟩, hb⟩
  have HB := Lib.hid hb
  have HR := Lib.hid hr
  clear hb hr
  go_wp2
  go_ret
  exact ⟨by rw [← HR.out]; rfl, HB.out⟩
end Go.Proofs.Ytpgbeebpeldjdaa
