/- Package roll: do the ticks of points rise? -/
import Derived.Test.YtdmlolagpbobeaaRoVal
import Derived.Test.YtdmlolagpbobeaaPtRow
namespace Go.Proofs.Ytdmlolagpbobeaa
open Go.RowKit

set_option maxHeartbeats 2000000 in
theorem roatP_any (w : World) (p : Pt) : Calls Try.prog 24 #[.agg #[.int .i64 p.a, .int .i64 p.v]] w fun e w' => e = .returned (.int .i64 p.a) ∧ Below w.heap.size w w' := by
  have HB : Hid (Below w.heap.size w (w.alloc (.cells #[.int .i64 p.a, .int .i64 p.v] 31))) := Lib.hid ((Below.refl _ _).alloc (Nat.le_refl _) _)
  go_enter Try.func24, Try.ntmps24
  go_wp2
  go_ret
  exact ⟨rfl, HB.out⟩
set_option maxHeartbeats 8000000 in
set_option maxRecDepth 100000 in
theorem roriseP_any {w : World} {v : Value} {l : List Pt} (hv : PLies w v l) (hl : l.length ≤ 1000000000) :
    Calls Try.prog 29 #[v, .func (.func 24) #[] #[]] w fun e w' => e = .returned (.bool (upFrom (-1) (l.map Pt.a))) ∧ Below w.heap.size w w' := by
  obtain ⟨a, b, off, cap, rfl, hadr, hpts⟩ := hv
  have HADR := Lib.hid hadr
  have HP := Lib.hid hpts
  have HL := Lib.hid hl
  have HA : Hid (∀ W (p : Pt), Calls Try.prog 24 #[.agg #[.int .i64 p.a, .int .i64 p.v]] W fun e w' => e = .returned (.int .i64 p.a) ∧ Below W.heap.size W w') := Lib.hid roatP_any
  have hlen : l.length ≤ 1000000000 := hl
  clear hadr hpts hl
  obtain ⟨U, hU⟩ : ∃ U, U = upFrom (-1) (l.map Pt.a) := ⟨_, rfl⟩
  rw [← hU]
  have HU := Lib.hid hU
  clear hU
  go_enter Try.func29, Try.ntmps29
  go_wp2_with fail
  go_loopw [5, 10] (fun d c wr => ∃ (j : Nat) (z : Int), j ≤ l.length ∧ c = .int .i64 j ∧ d = .int .i64 z ∧ U = upFrom z ((l.map Pt.a).drop j) ∧ Below w.heap.size w wr) (fun _ c _ => l.length - (intOf c).toNat)
  case atStart => exact ⟨0, -1, Nat.zero_le _, rfl, rfl, HU.out, Below.refl _ _⟩
  case round =>
    obtain ⟨j, z, hj, rfl, rfl, hu, hb⟩ := hrel
    obtain ⟨W3, hW3⟩ : ∃ W3, W3 = wr := ⟨_, rfl⟩
    subst hW3
    have HUJ := Lib.hid hu
    have HB3 := Lib.hid hb
    have HP3 := Lib.hid (HP.out.beyond hb)
    clear hu hb
    by_cases hlt : j < l.length
    · have ea := HADR.out (by intro h; simp [h] at hlt)
      subst ea
      obtain ⟨p, hp⟩ : ∃ p, l[j]? = some p := ⟨l[j], List.getElem?_eq_getElem hlt⟩
      obtain ⟨c0, c1⟩ := HP3.out j p hp
      have HPK := Lib.hid hp
      have HUN : Hid (U = (decide (z < p.a) && upFrom p.a ((l.map Pt.a).drop (j + 1)))) := Lib.hid (by rw [HUJ.out]; exact up_drop (by rw [List.getElem?_map, hp]; rfl))
      clear hp
      go_upto_region 5 with fail
      refine wp_name fun W4 hW4 => ?_
      obtain ⟨M, hM⟩ : ∃ M, M = W3.heap.size := ⟨_, rfl⟩
      have hb4 : Below W3.heap.size W3 W4 := by rw [hW4.out]; exact (Below.refl _ _).alloc (Nat.le_refl _) _
      have HB4 := Lib.hid (HB3.out.trans (hb4.mono HB3.out.size))
      have p0 : W4.heap[M]? = some (.cells #[.int .i64 p.a, .int .i64 p.v] 31 (0, 0)) := by rw [hW4.out, hM]; exact heap_alloc_new W3 _
      have HM4 := Lib.hid p0
      rw [← hM]
      clear hb4 hW4 hM c0 c1 HP3 p0
      obtain ⟨q0, q1, -, -⟩ := cells2 HM4.out
      go_wp2_with fail
      refine (HA.out W4 p).mono ?_
      rintro e W5 ⟨rfl, hb5⟩
      have HM5 : Hid (W5.heap[M]? = some (.cells #[.int .i64 p.a, .int .i64 p.v] 31 (0, 0))) := Lib.hid ((hb5.block M (lt_of_block HM4.out)).trans HM4.out)
      have HB5 := Lib.hid (HB4.out.trans (hb5.mono HB4.out.size))
      clear hb5 q0 q1 HM4 HB4
      dsimp only
      obtain ⟨q0, q1, -, -⟩ := cells2 HM5.out
      by_cases hz : p.a ≤ z
      · have tz : decide (p.a ≤ z) = true := decide_eq_true hz
        have HNO : Hid (U = false) := Lib.hid (by rw [HUN.out, decide_eq_false (by omega)]; rfl)
        clear hz
        go_wp2_with fail
        go_ret
        exact ⟨by rw [HNO.out]; rfl, HB5.out⟩
      · have tz : decide (p.a ≤ z) = false := decide_eq_false hz
        have HNX : Hid (U = upFrom p.a ((l.map Pt.a).drop (j + 1))) := Lib.hid (by rw [HUN.out, decide_eq_true (by omega)]; rfl)
        clear hz
        go_wp2_with fail
        refine (HA.out W5 p).mono ?_
        rintro e W6 ⟨rfl, hb6⟩
        have HB6 := Lib.hid (HB5.out.trans (hb6.mono HB5.out.size))
        clear hb6 q0 q1 HB5 HM5
        dsimp only
        go_wp2_with fail
        go_roundw
        case rel => exact ⟨j + 1, p.a, by omega, by go_num, rfl, HNX.out, HB6.out⟩
        case measure => simp [intOf]; omega
    · have HYES : Hid (U = true) := Lib.hid (by rw [HUJ.out]; exact up_end (by rw [List.length_map]; omega))
      go_wp2_with fail
      go_ret
      exact ⟨by rw [HYES.out]; rfl, HB3.out⟩
end Go.Proofs.Ytdmlolagpbobeaa
