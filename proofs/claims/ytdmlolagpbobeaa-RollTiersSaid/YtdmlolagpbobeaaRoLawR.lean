/- The law's own: do points rise from 0 on? -/
import Derived.Test.YtdmlolagpbobeaaRoVal
import Derived.Test.YtdmlolagpbobeaaPtRow
namespace Go.Proofs.Ytdmlolagpbobeaa
open Go.RowKit

set_option maxHeartbeats 16000000 in
set_option maxRecDepth 1000000 in
theorem lrises_any {w : World} {v : Value} {l : List Pt} (hv : PLies w v l) (hl : l.length ≤ 1000000000) :
    Calls Try.prog 17 #[v] w fun e w' => e = .returned (.bool (upFrom (-1) (l.map Pt.a))) ∧ Below w.heap.size w w' := by
  obtain ⟨a, b, off, cap, rfl, hadr, hpts⟩ := hv
  have HADR := Lib.hid hadr
  have HP := Lib.hid hpts
  have hlen : l.length ≤ 1000000000 := hl
  clear hadr hpts hl
  obtain ⟨U, hU⟩ : ∃ U, U = upFrom (-1) (l.map Pt.a) := ⟨_, rfl⟩
  rw [← hU]
  have HU := Lib.hid hU
  clear hU
  go_enter Try.func17, Try.ntmps17
  go_wp2_with fail
  go_loopw [7] (fun c wr => ∃ (j : Nat) (z : Int), j ≤ l.length ∧ c = .int .i64 j ∧ U = upFrom z ((l.map Pt.a).drop j) ∧ (j = 0 → z = -1) ∧ (∀ q, 0 < j → l[j - 1]? = some q → q.a = z) ∧ -1 ≤ z ∧ Below w.heap.size w wr) (fun c _ => l.length - (intOf c).toNat)
  case atStart => exact ⟨0, -1, Nat.zero_le _, rfl, HU.out, fun _ => rfl, fun q h => by omega, by omega, Below.refl _ _⟩
  case round =>
    obtain ⟨j, z, hj, rfl, hu, hz0, hzq, hz1, hb⟩ := hrel
    obtain ⟨W3, hW3⟩ : ∃ W3, W3 = wr := ⟨_, rfl⟩
    subst hW3
    have HUJ := Lib.hid hu
    have HB3 := Lib.hid hb
    have HP3 := Lib.hid (HP.out.beyond hb)
    have HZ0 := Lib.hid hz0
    have HZQ := Lib.hid hzq
    have HZ1 := Lib.hid hz1
    clear hu hb hz0 hzq hz1
    by_cases hlt : j < l.length
    · have ea := HADR.out (by intro h; simp [h] at hlt)
      subst ea
      obtain ⟨p, hp⟩ : ∃ p, l[j]? = some p := ⟨l[j], List.getElem?_eq_getElem hlt⟩
      obtain ⟨c0, c1⟩ := HP3.out j p hp
      have HPK := Lib.hid hp
      have HUN : Hid (U = (decide (z < p.a) && upFrom p.a ((l.map Pt.a).drop (j + 1)))) := Lib.hid (by rw [HUJ.out]; exact up_drop (by rw [List.getElem?_map, hp]; rfl))
      clear hp
      go_upto_region 4 with fail
      refine wp_name fun W4 hW4 => ?_
      obtain ⟨M, hM⟩ : ∃ M, M = W3.heap.size := ⟨_, rfl⟩
      have hb4 : Below W3.heap.size W3 W4 := by rw [hW4.out]; exact (Below.refl _ _).alloc (Nat.le_refl _) _
      have HB4 := Lib.hid (HB3.out.trans (hb4.mono HB3.out.size))
      have HP4 := Lib.hid (HP3.out.beyond hb4)
      have p0 : W4.heap[M]? = some (.cells #[.int .i64 p.a, .int .i64 p.v] 31 (0, 0)) := by rw [hW4.out, hM]; exact heap_alloc_new W3 _
      rw [← hM]
      obtain ⟨q0, q1, -, -⟩ := cells2 p0
      clear hb4 hW4 hM c0 c1 HP3 p0 HB3
      by_cases hneg : p.a < 0
      · have tneg : decide (p.a < 0) = true := decide_eq_true hneg
        have HNO : Hid (U = false) := Lib.hid (by rw [HUN.out, decide_eq_false (by have := HZ1.out; omega)]; rfl)
        clear hneg
        go_quiet (fail)
        go_wp2
        go_ret
        exact ⟨by rw [HNO.out]; rfl, below_drewN HB4.out _⟩
      · have tneg : decide (p.a < 0) = false := decide_eq_false hneg
        by_cases hj0 : j = 0
        · subst hj0
          have HNX : Hid (U = upFrom p.a ((l.map Pt.a).drop (0 + 1))) := Lib.hid (by rw [HUN.out, HZ0.out rfl, decide_eq_true (by omega)]; rfl)
          have HGE := Lib.hid hneg
          clear hneg
          go_quiet (fail)
          go_wp2
          go_roundw
          case rel => exact ⟨1, p.a, by omega, by go_num, HNX.out, fun h => by omega, fun q h hq => by rw [HPK.out] at hq; rw [← Option.some.inj hq], by have := HGE.out; omega, below_drewN HB4.out _⟩
          case measure => simp [intOf]; omega
        · have hjp : (0 : Int) < (j : Int) := by omega
          have tj : decide ((0 : Int) < (j : Int)) = true := decide_eq_true hjp
          have tj2 : decide (0 < j) = true := decide_eq_true (by omega)
          obtain ⟨i, hi⟩ : ∃ i, j = i + 1 := ⟨j - 1, by omega⟩
          obtain ⟨q, hq⟩ : ∃ q, l[i]? = some q := ⟨l[i], List.getElem?_eq_getElem (by omega)⟩
          have hqz : q.a = z := HZQ.out q (by omega) (by rw [hi]; exact hq)
          obtain ⟨d0, d1⟩ := HP4.out i q hq
          have ew : IntKind.i64.wrap ((j : Int) - 1) = (i : Int) := by rw [IntKind.wrap_i64]; omega
          have hil : i < l.length := by omega
          have HQZ := Lib.hid hqz
          have HGE := Lib.hid hneg
          have HI := Lib.hid hi
          clear hq hneg hqz hi HP4
          by_cases hge : p.a ≤ q.a
          · have tge : decide (p.a ≤ q.a) = true := decide_eq_true hge
            have HNO : Hid (U = false) := Lib.hid (by rw [HUN.out, decide_eq_false (by have := HQZ.out; omega)]; rfl)
            clear hge
            go_quiet (fail)
            go_wp2
            go_ret
            exact ⟨by rw [HNO.out]; rfl, below_drewN HB4.out _⟩
          · have tge : decide (p.a ≤ q.a) = false := decide_eq_false hge
            have HNX : Hid (U = upFrom p.a ((l.map Pt.a).drop (j + 1))) := Lib.hid (by rw [HUN.out, decide_eq_true (by have := HQZ.out; omega)]; rfl)
            clear hge
            go_quiet (fail)
            go_wp2
            go_roundw
            case rel => exact ⟨j + 1, p.a, by omega, by go_num, HNX.out, fun h => by omega, fun x h hx => by rw [Nat.add_sub_cancel, HPK.out] at hx; rw [← Option.some.inj hx], by have := HGE.out; omega, below_drewN HB4.out _⟩
            case measure => simp [intOf]; omega
    · have HYES : Hid (U = true) := Lib.hid (by rw [HUJ.out]; exact up_end (by rw [List.length_map]; omega))
      go_wp2_with fail
      go_ret
      exact ⟨by rw [HYES.out]; rfl, HB3.out⟩
end Go.Proofs.Ytdmlolagpbobeaa
