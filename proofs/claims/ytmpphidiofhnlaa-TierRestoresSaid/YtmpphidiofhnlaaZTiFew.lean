/- The law's own: are acts few, and little? -/
import Derived.Test.YtmpphidiofhnlaaZTiAct
import Derived.Test.YtmpphidiofhnlaaMA
import Derived.Deep.DeepCutAuto
namespace Go.Proofs.Ytmpphidiofhnlaa
open Go.RowKit

def fewAct (x : TActL) : Bool := decide (x.l.length ≤ 40) && decide (x.at_ ≤ 200000)
def fewT (L : List TActL) (n : Int) : Bool := L.all fewAct && decide ((L.length : Int) ≤ n)
/-- an act in a block of its own -/
theorem tact_cells {W : World} {P : Nat} {k t a b : Int} {u : Value} (h : W.heap[P]? = some (.cells #[.int .i64 k, .int .i64 t, u, .int .i64 a, .int .i64 b] 37 (0, 0))) :
    W.cell? ⟨P, 0, none⟩ = some (.int .i64 k) ∧ W.cell? ⟨P, 1, none⟩ = some (.int .i64 t) ∧ W.cell? ⟨P, 2, none⟩ = some u ∧ W.cell? ⟨P, 3, none⟩ = some (.int .i64 a) ∧ W.cell? ⟨P, 4, none⟩ = some (.int .i64 b) :=
  ⟨by simp [World.cell?, h], by simp [World.cell?, h], by simp [World.cell?, h], by simp [World.cell?, h], by simp [World.cell?, h]⟩
set_option maxHeartbeats 8000000 in
set_option maxRecDepth 1000000 in
theorem few_any {w : World} {v : Value} {L : List TActL} (hv : TActsAt w v L) (hn : L.length ≤ 9223372036854775807) (n : Int) :
    Calls Try.prog 7 #[v, .int .i64 n] w fun e w' => e = .returned (.bool (fewT L n)) ∧ Below w.heap.size w w' := by
  obtain ⟨ad, b, off, cap, rfl, hadr, hacts⟩ := hv
  have HADR := Lib.hid hadr
  have HA := Lib.hid hacts
  clear hadr hacts
  obtain ⟨R, hR⟩ : ∃ R, R = fewT L n := ⟨_, rfl⟩
  rw [← hR]
  have HR := Lib.hid hR
  clear hR
  go_enter Try.func7, Try.ntmps7
  go_wp2_with fail
  go_loopw [9] (fun c wr => ∃ j : Nat, j ≤ L.length ∧ c = .int .i64 j ∧ (L.take j).all fewAct = true ∧ Below w.heap.size w wr) (fun c _ => L.length - (intOf c).toNat)
  case atStart => exact ⟨0, Nat.zero_le _, rfl, rfl, Below.refl _ _⟩
  case round =>
    obtain ⟨j, hj, rfl, hall, hb⟩ := hrel
    obtain ⟨W3, hW3⟩ : ∃ W3, W3 = wr := ⟨_, rfl⟩
    subst hW3
    have HALL := Lib.hid hall
    have HB3 := Lib.hid hb
    clear hall hb
    by_cases hlt : j < L.length
    · have ea := HADR.out (by intro h; simp [h] at hlt)
      subst ea
      obtain ⟨x, hx⟩ : ∃ x, L[j]? = some x := ⟨L[j], List.getElem?_eq_getElem hlt⟩
      obtain ⟨u, c0, c1, c2, c3, c4, hpl, -⟩ := (HA.out j x hx).beyondT HB3.out
      obtain ⟨ua, ub, uo, uc, rfl, -, -⟩ := hpl
      have HXK := Lib.hid hx
      clear hx
      go_upto_region 4 with fail
      refine wp_name fun W4 hW4 => ?_
      obtain ⟨M, hM⟩ : ∃ M, M = W3.heap.size := ⟨_, rfl⟩
      have hb4 : Below W3.heap.size W3 W4 := by rw [hW4.out]; exact (Below.refl _ _).alloc (Nat.le_refl _) _
      have HB4 := Lib.hid (HB3.out.trans (hb4.mono HB3.out.size))
      have p0 : W4.heap[M]? = some (.cells #[.int .i64 x.kind, .int .i64 x.at_, .slice ua x.l.length uc, .int .i64 x.a, .int .i64 x.b] 37 (0, 0)) := by rw [hW4.out, hM]; exact heap_alloc_new W3 _
      obtain ⟨q0, q1, q2, q3, q4⟩ := tact_cells p0
      rw [← hM]
      clear hb4 hW4 hM c0 c1 c2 c3 c4 p0
      by_cases h1 : 40 < x.l.length
      · have t1 : decide (40 < (x.l.length : Int)) = true := decide_eq_true (by omega)
        have t2 : decide (40 < x.l.length) = true := decide_eq_true h1
        have HNO : Hid (R = false) := Lib.hid (by
          rw [HR.out]; unfold fewT
          rw [show L.all fewAct = false from List.all_eq_false.2 ⟨x, List.mem_of_getElem? HXK.out, by unfold fewAct; rw [decide_eq_false (by omega)]; simp⟩]; rfl)
        clear h1
        go_wp2
        go_ret
        exact ⟨by rw [HNO.out]; rfl, HB4.out⟩
      · have t1 : decide (40 < (x.l.length : Int)) = false := decide_eq_false (by omega)
        have t2 : decide (40 < x.l.length) = false := decide_eq_false h1
        by_cases h2 : 200000 < x.at_
        · have t3 : decide (200000 < x.at_) = true := decide_eq_true h2
          have HNO : Hid (R = false) := Lib.hid (by
            rw [HR.out]; unfold fewT
            rw [show L.all fewAct = false from List.all_eq_false.2 ⟨x, List.mem_of_getElem? HXK.out, by unfold fewAct; rw [decide_eq_false (show ¬ x.at_ ≤ 200000 by omega)]; simp⟩]; rfl)
          clear h1 h2
          go_wp2
          go_ret
          exact ⟨by rw [HNO.out]; rfl, HB4.out⟩
        · have t3 : decide (200000 < x.at_) = false := decide_eq_false h2
          have HNX : Hid ((L.take (j + 1)).all fewAct = true) := Lib.hid (by
            rw [take_snoc HXK.out, List.all_append, HALL.out]
            unfold fewAct
            simp; omega)
          clear h1 h2
          go_wp2
          go_roundw
          case rel => exact ⟨j + 1, by omega, by go_num, HNX.out, HB4.out⟩
          case measure => simp [intOf]; omega
    · have HYES : Hid (R = decide ((L.length : Int) ≤ n)) := Lib.hid (by
        rw [HR.out]; unfold fewT
        have h := HALL.out
        rw [List.take_of_length_le (by omega)] at h
        rw [h]; rfl)
      go_wp2
      go_ret
      exact ⟨by rw [HYES.out]; rfl, HB3.out⟩
end Go.Proofs.Ytmpphidiofhnlaa
