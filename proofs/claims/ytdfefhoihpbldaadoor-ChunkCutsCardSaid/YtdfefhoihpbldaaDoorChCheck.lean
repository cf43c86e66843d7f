/- What may be packed. -/
import Derived.Test.YtdfefhoihpbldaaDoorChRight
namespace Go.Proofs.YtdfefhoihpbldaaDoor
open Go.RowKit

set_option maxHeartbeats 4000000 in
theorem ccheck_any {w : World} {v0 : Value} {l0 : List Pt} (hv : PLies w v0 l0) (hf : ∀ t ∈ l0, t.fits) (hn : l0.length ≤ 1000) :
    Calls Tryd.prog 16 #[v0] w fun e w' => e = .returned (.int .i64 (rightZ l0)) ∧ Below w.heap.size w w' := by
  obtain ⟨a, b, off, cap, rfl, hadr, hpts⟩ := hv
  have HADR := Lib.hid hadr
  have HP := Lib.hid hpts
  have HF := Lib.hid hf
  clear hadr hpts hf
  have tlen : decide ((65535 : Int) < l0.length) = false := by simp; omega
  go_enter Tryd.func16, Tryd.ntmps16
  go_wp2
  go_loopw [11] (fun c wr => ∃ k : Nat, k ≤ l0.length ∧ c = .int .i64 k ∧ (∀ t ∈ l0.take k, inB t = true) ∧ Below w.heap.size w wr) (fun c _ => l0.length - (intOf c).toNat)
  case atStart => exact ⟨0, by omega, rfl, by simp, Below.refl _ _⟩
  case round =>
    obtain ⟨k, hk, rfl, hin, hbw⟩ := hrel
    have hzw := hbw.size
    have HBW := Lib.hid hbw
    have HIN := Lib.hid hin
    clear hin
    by_cases hlt : k < l0.length
    · have ea := HADR.out (by intro h; simp [h] at hlt)
      subst ea
      obtain ⟨t, ht⟩ : ∃ t, l0[k]? = some t := ⟨l0[k], List.getElem?_eq_getElem hlt⟩
      obtain ⟨a0, a1⟩ := HP.out k t ht
      have hbl : b < w.heap.size := by have := cell_lt a0; exact this
      rw [← hbw.cell (p := ⟨b, off + k * 2, none⟩) hbl] at a0
      rw [← hbw.cell (p := ⟨b, off + k * 2 + 1, none⟩) hbl] at a1
      have HT := Lib.hid ht
      clear hbw ht
      obtain ⟨ta, tv⟩ := t
      simp only at a0 a1
      rcases Int.lt_or_le ta 0 with h1 | h1
      · have t1 : decide (ta < 0) = true := by simp; omega
        have E := Lib.hid (right_out HT.out (.inl h1))
        go_wp2
        go_ret
        exact ⟨by rw [E.out]; rfl, HBW.out.alloc hzw _⟩
      · have t1 : decide (ta < 0) = false := by simp; omega
        rcases Int.lt_or_le 1099511627776 ta with h2 | h2
        · have t2 : decide (1099511627776 < ta) = true := by simp; omega
          have E := Lib.hid (right_out HT.out (.inr h2))
          go_wp2
          go_ret
          exact ⟨by rw [E.out]; rfl, HBW.out.alloc hzw _⟩
        · have t2 : decide (1099511627776 < ta) = false := by simp; omega
          have E : Hid (∀ t ∈ l0.take (k + 1), inB t = true) := Lib.hid fun t ht => by
            rw [List.take_add_one, HT.out] at ht
            rcases List.mem_append.1 ht with ht | ht
            · exact HIN.out t ht
            · obtain rfl : t = ⟨ta, tv⟩ := by simpa using ht
              simp [inB]; omega
          go_wp2
          go_roundw
          case rel => exact ⟨k + 1, by omega, by go_num, E.out, HBW.out.alloc hzw _⟩
          case measure => simp [intOf]; omega
    · obtain rfl : k = l0.length := by omega
      have hall : ∀ t ∈ l0, inB t = true := fun t ht => HIN.out t (by rw [List.take_of_length_le (Nat.le_refl _)]; exact ht)
      have HALL := Lib.hid hall
      obtain ⟨wb, hwb⟩ : ∃ wb, wb = wr := ⟨_, rfl⟩
      subst hwb
      clear hall hbw
      go_wp2
      go_loopw [5] (fun c wr => ∃ q : Nat, 1 ≤ q ∧ c = .int .i64 q ∧ (q ≤ l0.length ∨ q = 1) ∧ upB l0 (q - 1) = true ∧ Below w.heap.size w wr) (fun c _ => l0.length - (intOf c).toNat)
      case atStart => exact ⟨1, by omega, rfl, .inr rfl, by simp [upB], HBW.out⟩
      case round =>
        obtain ⟨q, hq1, rfl, hq2, hup, hbw⟩ := hrel
        have HBW2 := Lib.hid hbw
        by_cases hlt2 : q < l0.length
        · obtain ⟨m, hm⟩ : ∃ m, m + 1 = q := ⟨q - 1, by omega⟩
          have ea := HADR.out (by intro h; simp [h] at hlt2)
          subst ea
          obtain ⟨p, hp⟩ : ∃ p, l0[m]? = some p := ⟨l0[m]'(by omega), List.getElem?_eq_getElem (by omega)⟩
          obtain ⟨t, ht⟩ : ∃ t, l0[q]? = some t := ⟨l0[q], List.getElem?_eq_getElem hlt2⟩
          obtain ⟨a0, _⟩ := HP.out q t ht
          obtain ⟨p0, _⟩ := HP.out m p hp
          have hbl : b < w.heap.size := by have := cell_lt a0; exact this
          rw [← hbw.cell (p := ⟨b, off + q * 2, none⟩) hbl] at a0
          rw [← hbw.cell (p := ⟨b, off + m * 2, none⟩) hbl] at p0
          have k1 : IntKind.i64.wrap ((q : Int) - 1) = (m : Int) := by rw [IntKind.wrap_i64]; omega
          have k2 : ((q : Int) - 1) = (m : Int) := by omega
          have hml : m < l0.length := by omega
          have ht' : l0[m + 1]? = some t := by rw [hm]; exact ht
          have HT := Lib.hid ht'
          have HPP := Lib.hid hp
          have hupm : upB l0 m = true := by rw [← hup]; congr 1; omega
          have HUP := Lib.hid hupm
          have HM := Lib.hid hm
          clear hbw ht ht' hp hup hupm hm
          by_cases hge : t.a ≤ p.a
          · have t1 : decide (t.a ≤ p.a) = true := by simp; omega
            have E := Lib.hid (right_down HALL.out HPP.out HT.out (by omega))
            obtain ⟨ta, tv⟩ := t
            obtain ⟨pa, pv⟩ := p
            simp only at a0 p0 t1 hge
            go_wp2
            go_quiet (fail)
            go_wp2
            go_ret
            exact ⟨by rw [E.out]; rfl, HBW2.out.trans ((only_drewN (fun _ => False) _ _).below (B := w.heap.size) HBW2.out.size (fun _ h => h.elim))⟩
          · have t1 : decide (t.a ≤ p.a) = false := by simp; omega
            have E : Hid (upB l0 (q + 1 - 1) = true) := Lib.hid (by rw [show q + 1 - 1 = m + 1 by have := HM.out; omega, upB_succ, HUP.out, getD_at HPP.out, getD_at HT.out]; simp; omega)
            obtain ⟨ta, tv⟩ := t
            obtain ⟨pa, pv⟩ := p
            simp only at a0 p0 t1 hge
            go_wp2
            go_quiet (fail)
            go_wp2
            go_roundw
            case rel => exact ⟨q + 1, by omega, by go_num, .inl (by omega), E.out, HBW2.out.trans ((only_drewN (fun _ => False) _ _).below (B := w.heap.size) HBW2.out.size (fun _ h => h.elim))⟩
            case measure => simp [intOf]; omega
        · have hupl : upB l0 (l0.length - 1) = true := by
            rcases hq2 with h | h
            · obtain rfl : q = l0.length := by omega
              exact hup
            · subst h
              obtain h0 : l0.length - 1 = 0 := by omega
              rw [h0]; simp [upB]
          have E := Lib.hid (right_ok HALL.out hupl)
          clear hup hupl hbw
          go_wp2
          go_ret
          exact ⟨by rw [E.out]; rfl, HBW2.out⟩
end Go.Proofs.YtdfefhoihpbldaaDoor
