/- The law's Right and same over points, walked. -/
import Derived.Test.YtdfefhoihpbldaaDoorPts
import Derived.Deep.QuietTactic
namespace Go.Proofs.YtdfefhoihpbldaaDoor
open Go.RowKit

def inB (t : Pt) : Bool := decide (0 ≤ t.a ∧ t.a ≤ 1099511627776)
def upB (l : List Pt) (k : Nat) : Bool := (List.range k).all fun i => decide ((l.getD i default).a < (l.getD (i + 1) default).a)
/-- what may be told of points: 0, a tick outside, or they don't rise -/
def rightZ (l : List Pt) : Int := if l.all inB then (if upB l (l.length - 1) then 0 else 17) else 3
theorem upB_succ (l : List Pt) (k : Nat) : upB l (k + 1) = (upB l k && decide ((l.getD k default).a < (l.getD (k + 1) default).a)) := by simp [upB, List.range_succ]
theorem upB_false {l : List Pt} {k m : Nat} (h : upB l k = false) (hm : k ≤ m) : upB l m = false := by
  induction m with
  | zero => obtain rfl : k = 0 := by omega
            exact h
  | succ m ih =>
    rcases Nat.lt_or_ge m k with h1 | h1
    · obtain rfl : k = m + 1 := by omega
      exact h
    · rw [upB_succ, ih (by omega)]; rfl
theorem rises_iff (l : List Pt) : rightZ l = 0 ↔ Rises l := by
  have hup : ∀ k, k ≤ l.length - 1 → (upB l k = true ↔ ∀ (i : Nat) (p q : Pt), i < k → l[i]? = some p → l[i + 1]? = some q → p.a < q.a) := by
    intro k
    induction k with
    | zero => intro _; simp [upB]
    | succ k ih =>
      intro hk
      rw [upB_succ, Bool.and_eq_true, ih (by omega), decide_eq_true_eq]
      have hp : l[k]? = some (l[k]'(by omega)) := List.getElem?_eq_getElem (by omega)
      have hq : l[k + 1]? = some (l[k + 1]'(by omega)) := List.getElem?_eq_getElem (by omega)
      rw [getD_at hp, getD_at hq]
      constructor
      · rintro ⟨h1, h2⟩ i p q hi hp' hq'
        rcases Nat.lt_or_ge i k with h3 | h3
        · exact h1 i p q h3 hp' hq'
        · obtain rfl : i = k := by omega
          rw [hp] at hp'; rw [hq] at hq'
          rw [← Option.some.inj hp', ← Option.some.inj hq']; exact h2
      · intro h
        exact ⟨fun i p q hi => h i p q (by omega), h k _ _ (by omega) hp hq⟩
  unfold rightZ Rises
  by_cases h1 : l.all inB = true
  · rw [if_pos h1]
    have h1' : ∀ t ∈ l, 0 ≤ t.a ∧ t.a ≤ 1099511627776 := by simpa [inB] using h1
    by_cases h2 : upB l (l.length - 1) = true
    · rw [if_pos h2]
      refine ⟨fun _ => ⟨h1', fun i p q hp hq => (hup _ (Nat.le_refl _)).1 h2 i p q ?_ hp hq⟩, fun _ => rfl⟩
      have := (List.getElem?_eq_some_iff.1 hq).1; omega
    · rw [if_neg h2]
      refine ⟨fun h => by simp at h, fun h => absurd ((hup _ (Nat.le_refl _)).2 fun i p q _ hp hq => h.2 i p q hp hq) h2⟩
  · rw [if_neg h1]
    refine ⟨fun h => by simp at h, fun h => absurd (by simpa [inB] using h.1) h1⟩
theorem right_out {l : List Pt} {k : Nat} {t : Pt} (ht : l[k]? = some t) (h : t.a < 0 ∨ 1099511627776 < t.a) : rightZ l = 3 := by
  unfold rightZ
  rw [if_neg]
  intro h2
  have h3 := List.all_eq_true.1 h2 t (List.mem_of_getElem? ht)
  simp [inB] at h3; omega
theorem right_down {l : List Pt} {k : Nat} {p q : Pt} (hin : ∀ t ∈ l, inB t = true) (hp : l[k]? = some p) (hq : l[k + 1]? = some q) (h : ¬ p.a < q.a) : rightZ l = 17 := by
  unfold rightZ
  rw [if_pos (List.all_eq_true.2 hin), if_neg]
  have h1 : upB l (k + 1) = false := by rw [upB_succ, getD_at hp, getD_at hq, decide_eq_false h]; simp
  rw [upB_false h1 (by have := (List.getElem?_eq_some_iff.1 hq).1; omega)]
  decide
theorem right_ok {l : List Pt} (hin : ∀ t ∈ l, inB t = true) (hup : upB l (l.length - 1) = true) : rightZ l = 0 := by
  unfold rightZ
  rw [if_pos (List.all_eq_true.2 hin), if_pos hup]

set_option maxHeartbeats 4000000 in
theorem right4_any {w : World} {v0 : Value} {l0 : List Pt} (hv : PLies w v0 l0) (hf : ∀ t ∈ l0, t.fits) (hn : l0.length ≤ 9223372036854775807) :
    Calls Tryd.prog 9 #[v0] w fun e w' => e = .returned (.int .i64 (rightZ l0)) ∧ Below w.heap.size w w' := by
  obtain ⟨a, b, off, cap, rfl, hadr, hpts⟩ := hv
  have HADR := Lib.hid hadr
  have HP := Lib.hid hpts
  have HF := Lib.hid hf
  clear hadr hpts hf
  go_enter Tryd.func9, Tryd.ntmps9
  go_wp2
  go_loopw [8] (fun c wr => ∃ k : Nat, k ≤ l0.length ∧ c = .int .i64 k ∧ (∀ t ∈ l0.take k, inB t = true) ∧ Below w.heap.size w wr) (fun c _ => l0.length - (intOf c).toNat)
  case atStart => exact ⟨0, by omega, rfl, by simp, Below.refl _ _⟩
  case round =>
    obtain ⟨k, hk, rfl, hin, hbw⟩ := hrel
    have hzw := hbw.size
    have HBW := Lib.hid hbw
    have HIN := Lib.hid hin
    clear hin
    by_cases hlt : k < l0.length
    · have ea := HADR.out (by intro h; simp [h] at hlt)
      subst ea
      obtain ⟨t, ht⟩ : ∃ t, l0[k]? = some t := ⟨l0[k], List.getElem?_eq_getElem hlt⟩
      obtain ⟨a0, a1⟩ := HP.out k t ht
      have hbl : b < w.heap.size := by have := cell_lt a0; exact this
      rw [← hbw.cell (p := ⟨b, off + k * 2, none⟩) hbl] at a0
      rw [← hbw.cell (p := ⟨b, off + k * 2 + 1, none⟩) hbl] at a1
      have HT := Lib.hid ht
      clear hbw ht
      obtain ⟨ta, tv⟩ := t
      simp only at a0 a1
      rcases Int.lt_or_le ta 0 with h1 | h1
      · have t1 : decide (ta < 0) = true := by simp; omega
        have E := Lib.hid (right_out HT.out (.inl h1))
        go_wp2
        go_ret
        exact ⟨by rw [E.out]; rfl, HBW.out.alloc hzw _⟩
      · have t1 : decide (ta < 0) = false := by simp; omega
        rcases Int.lt_or_le 1099511627776 ta with h2 | h2
        · have t2 : decide (1099511627776 < ta) = true := by simp; omega
          have E := Lib.hid (right_out HT.out (.inr h2))
          go_wp2
          go_ret
          exact ⟨by rw [E.out]; rfl, HBW.out.alloc hzw _⟩
        · have t2 : decide (1099511627776 < ta) = false := by simp; omega
          have E : Hid (∀ t ∈ l0.take (k + 1), inB t = true) := Lib.hid fun t ht => by
            rw [List.take_add_one, HT.out] at ht
            rcases List.mem_append.1 ht with ht | ht
            · exact HIN.out t ht
            · obtain rfl : t = ⟨ta, tv⟩ := by simpa using ht
              simp [inB]; omega
          go_wp2
          go_roundw
          case rel => exact ⟨k + 1, by omega, by go_num, E.out, HBW.out.alloc hzw _⟩
          case measure => simp [intOf]; omega
    · obtain rfl : k = l0.length := by omega
      have hall : ∀ t ∈ l0, inB t = true := fun t ht => HIN.out t (by rw [List.take_of_length_le (Nat.le_refl _)]; exact ht)
      have HALL := Lib.hid hall
      obtain ⟨wb, hwb⟩ : ∃ wb, wb = wr := ⟨_, rfl⟩
      subst hwb
      clear hall hbw
      go_wp2
      go_loopw [5] (fun c wr => ∃ q : Nat, 1 ≤ q ∧ c = .int .i64 q ∧ (q ≤ l0.length ∨ q = 1) ∧ upB l0 (q - 1) = true ∧ Below w.heap.size w wr) (fun c _ => l0.length - (intOf c).toNat)
      case atStart => exact ⟨1, by omega, rfl, .inr rfl, by simp [upB], HBW.out⟩
      case round =>
        obtain ⟨q, hq1, rfl, hq2, hup, hbw⟩ := hrel
        have HBW2 := Lib.hid hbw
        by_cases hlt2 : q < l0.length
        · obtain ⟨m, hm⟩ : ∃ m, m + 1 = q := ⟨q - 1, by omega⟩
          have ea := HADR.out (by intro h; simp [h] at hlt2)
          subst ea
          obtain ⟨p, hp⟩ : ∃ p, l0[m]? = some p := ⟨l0[m]'(by omega), List.getElem?_eq_getElem (by omega)⟩
          obtain ⟨t, ht⟩ : ∃ t, l0[q]? = some t := ⟨l0[q], List.getElem?_eq_getElem hlt2⟩
          obtain ⟨a0, _⟩ := HP.out q t ht
          obtain ⟨p0, _⟩ := HP.out m p hp
          have hbl : b < w.heap.size := by have := cell_lt a0; exact this
          rw [← hbw.cell (p := ⟨b, off + q * 2, none⟩) hbl] at a0
          rw [← hbw.cell (p := ⟨b, off + m * 2, none⟩) hbl] at p0
          have k1 : IntKind.i64.wrap ((q : Int) - 1) = (m : Int) := by rw [IntKind.wrap_i64]; omega
          have k2 : ((q : Int) - 1) = (m : Int) := by omega
          have hml : m < l0.length := by omega
          have ht' : l0[m + 1]? = some t := by rw [hm]; exact ht
          have HT := Lib.hid ht'
          have HPP := Lib.hid hp
          have hupm : upB l0 m = true := by rw [← hup]; congr 1; omega
          have HUP := Lib.hid hupm
          have HM := Lib.hid hm
          clear hbw ht ht' hp hup hupm hm
          by_cases hge : t.a ≤ p.a
          · have t1 : decide (t.a ≤ p.a) = true := by simp; omega
            have E := Lib.hid (right_down HALL.out HPP.out HT.out (by omega))
            obtain ⟨ta, tv⟩ := t
            obtain ⟨pa, pv⟩ := p
            simp only at a0 p0 t1 hge
            go_wp2
            go_quiet (fail)
            go_wp2
            go_ret
            exact ⟨by rw [E.out]; rfl, HBW2.out.trans ((only_drewN (fun _ => False) _ _).below (B := w.heap.size) HBW2.out.size (fun _ h => h.elim))⟩
          · have t1 : decide (t.a ≤ p.a) = false := by simp; omega
            have E : Hid (upB l0 (q + 1 - 1) = true) := Lib.hid (by rw [show q + 1 - 1 = m + 1 by have := HM.out; omega, upB_succ, HUP.out, getD_at HPP.out, getD_at HT.out]; simp; omega)
            obtain ⟨ta, tv⟩ := t
            obtain ⟨pa, pv⟩ := p
            simp only at a0 p0 t1 hge
            go_wp2
            go_quiet (fail)
            go_wp2
            go_roundw
            case rel => exact ⟨q + 1, by omega, by go_num, .inl (by omega), E.out, HBW2.out.trans ((only_drewN (fun _ => False) _ _).below (B := w.heap.size) HBW2.out.size (fun _ h => h.elim))⟩
            case measure => simp [intOf]; omega
        · have hupl : upB l0 (l0.length - 1) = true := by
            rcases hq2 with h | h
            · obtain rfl : q = l0.length := by omega
              exact hup
            · subst h
              obtain h0 : l0.length - 1 = 0 := by omega
              rw [h0]; simp [upB]
          have E := Lib.hid (right_ok HALL.out hupl)
          clear hup hupl hbw
          go_wp2
          go_ret
          exact ⟨by rw [E.out]; rfl, HBW2.out⟩
end Go.Proofs.YtdfefhoihpbldaaDoor
