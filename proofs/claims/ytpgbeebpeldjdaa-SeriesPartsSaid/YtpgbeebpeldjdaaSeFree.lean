/- Package series: Free, where nothing is free. -/
import Derived.Test.YtpgbeebpeldjdaaSePut
namespace Go.Proofs.Ytpgbeebpeldjdaa
open Go.RowKit

theorem sefree_none (w : World) (x : Value) : Calls Try.prog 16 #[.pointer none, x] w fun e w' => e = .returned (.int .i64 0) ∧ w' = w := by
  go_enter Try.func16, Try.ntmps16
  go_wp2
  go_ret
  exact ⟨rfl, rfl⟩
set_option maxRecDepth 1000000 in
theorem len64_zero (w : World) : Calls Try.prog 50 #[.int .u64 0] w fun e w' => e = .returned (.int .i64 0) ∧ w' = w := by
  go_enter Try.func50, Try.ntmps50
  go_wp2
  go_ret
  exact ⟨ret_i64 (by decide +kernel), rfl⟩
theorem bitlen_zero (w : World) : Calls Try.prog 36 #[.int .u64 0] w fun e w' => e = .returned (.int .i64 0) ∧ w' = w := by
  go_enter Try.func36, Try.ntmps36
  go_wp2_with fail
  refine (len64_zero w).mono ?_
  rintro e w' ⟨rfl, hw⟩
  replace hw := hw.symm
  subst hw
  go_wp2
  go_ret
  exact ⟨rfl, rfl⟩
set_option maxHeartbeats 4000000 in
theorem insort_none (w : World) : Calls Try.prog 40 #[.slice none 0 0, .int .i64 0, .int .i64 0] w fun e w' => e = .returned (.tuple #[]) ∧ w' = w := by
  go_enter Try.func40, Try.ntmps40
  go_wp2_with fail
  go_loopw [6] (fun u wr => u = .int .i64 1 ∧ wr = w) (fun _ _ => 0)
  case atStart => exact ⟨rfl, rfl⟩
  case round =>
    obtain ⟨rfl, rfl⟩ := hrel
    go_wp2_with fail
    go_end0
    exact ⟨rfl, rfl⟩
set_option maxHeartbeats 4000000 in
theorem pdq_none (w : World) : Calls Try.prog 35 #[.slice none 0 0, .int .i64 0, .int .i64 0, .int .i64 0] w fun e w' => e = .returned (.tuple #[]) ∧ w' = w := by
  have HI : Hid (∀ W, Calls Try.prog 40 #[.slice none 0 0, .int .i64 0, .int .i64 0] W fun e w' => e = .returned (.tuple #[]) ∧ w' = W) := Lib.hid insort_none
  go_enter Try.func35, Try.ntmps35
  go_wp2_with fail
  go_loopw [1, 2] (fun u v wr => u = .int .i64 0 ∧ v = .int .i64 0 ∧ wr = w) (fun _ _ _ => 0)
  case atStart => exact ⟨rfl, rfl, rfl⟩
  case round =>
    obtain ⟨rfl, rfl, rfl⟩ := hrel
    go_wp2_with fail
    refine (HI.out _).mono ?_
    rintro e w' ⟨rfl, hw⟩
    replace hw := hw.symm
    subst hw
    go_wp2_with fail
    refine bodyPost_ret (results_none rfl _ _ _) rfl ?_
    exact ⟨rfl, rfl⟩
theorem sort_none (w : World) : Calls Try.prog 28 #[.slice none 0 0] w fun e w' => e = .returned (.tuple #[]) ∧ w' = w := by
  have HB : Hid (∀ W, Calls Try.prog 36 #[.int .u64 0] W fun e w' => e = .returned (.int .i64 0) ∧ w' = W) := Lib.hid bitlen_zero
  have HP : Hid (∀ W, Calls Try.prog 35 #[.slice none 0 0, .int .i64 0, .int .i64 0, .int .i64 0] W fun e w' => e = .returned (.tuple #[]) ∧ w' = W) := Lib.hid pdq_none
  go_enter Try.func28, Try.ntmps28
  go_wp2_with fail
  refine (HB.out _).mono ?_
  rintro e w' ⟨rfl, hw⟩
  replace hw := hw.symm
  subst hw
  go_wp2_with fail
  refine (HP.out _).mono ?_
  rintro e w' ⟨rfl, hw⟩
  replace hw := hw.symm
  subst hw
  go_wp2_with fail
  go_end0
  exact ⟨rfl, rfl⟩
theorem compact_none (w : World) : Calls Try.prog 29 #[.slice none 0 0] w fun e w' => e = .returned (.slice none 0 0) ∧ w' = w := by
  go_enter Try.func29, Try.ntmps29
  go_wp2
  go_ret
  exact ⟨rfl, rfl⟩
set_option maxHeartbeats 8000000 in
set_option maxRecDepth 100000 in
theorem sefree_there {w : World} {s : Nat} {v : Value} {l : List Pt} (h : SerV w s v l) {x : Value} {k : List Pt} (hx : PLies w x k) (hk : ∀ p ∈ k, hasP l p.a = true) (hn : k.length ≤ maxLen) :
    Calls Try.prog 16 #[.pointer (some ⟨s, 0, none⟩), x] w fun e w' => e = .returned (.int .i64 0) ∧ Below w.heap.size w w' := by
  have HS := Lib.hid h
  have HX := Lib.hid hx
  have HK := Lib.hid hk
  have HN := Lib.hid hn
  have HPL : Hid (∀ W (p : Pt), PLies W v l → Calls Try.prog 27 #[v, .int .i64 p.a] W fun e w' => e = .returned (.tuple #[.int .i64 (cntP l p.a : Nat), .bool (hasP l p.a)]) ∧ Below W.heap.size W w') := Lib.hid fun W p hW => seplace_any hW h.good.srt (by have := h.good.len; omega) p.a
  have HSO : Hid (∀ W, Calls Try.prog 28 #[.slice none 0 0] W fun e w' => e = .returned (.tuple #[]) ∧ w' = W) := Lib.hid sort_none
  have HCO : Hid (∀ W, Calls Try.prog 29 #[.slice none 0 0] W fun e w' => e = .returned (.slice none 0 0) ∧ w' = W) := Lib.hid compact_none
  obtain ⟨a, c, rfl⟩ := hx.len
  clear h hx hk hn
  go_enter Try.func16, Try.ntmps16
  go_wp2_with fail
  go_loopw [5, 14] (fun u z wr => ∃ j : Nat, u = .slice none 0 0 ∧ z = .int .i64 j ∧ j ≤ k.length ∧ Below w.heap.size w wr) (fun _ z _ => k.length - (intOf z).toNat)
  case atStart => exact ⟨0, rfl, rfl, Nat.zero_le _, Below.refl _ _⟩
  case round =>
    obtain ⟨j, rfl, rfl, hj, hb⟩ := hrel
    obtain ⟨W3, hW3⟩ : ∃ W3, W3 = wr := ⟨_, rfl⟩
    subst hW3
    have HB3 := Lib.hid hb
    have HS3 := Lib.hid (HS.out.keep hb)
    have HX3 := Lib.hid (HX.out.beyond hb)
    clear hb
    by_cases hlt : j < k.length
    · obtain ⟨p, hp⟩ : ∃ p, k[j]? = some p := ⟨k[j], List.getElem?_eq_getElem hlt⟩
      obtain ⟨b, off, ea, c0, c1⟩ := HX3.out.get hp
      subst ea
      have hmax : j < 9223372036854775807 := by have := HN.out; unfold maxLen at this; omega
      have HHA : Hid (hasP l p.a = true) := Lib.hid (HK.out p (List.mem_of_getElem? hp))
      clear hp
      go_upto_region 7 with fail
      refine wp_name fun W4 hW4 => ?_
      obtain ⟨P, hP⟩ : ∃ P, P = W3.heap.size := ⟨_, rfl⟩
      have hb4 : Below W3.heap.size W3 W4 := by rw [hW4.out]; exact (Below.refl _ W3).alloc (Nat.le_refl _) _
      have HT4 : Hid (PtAt W4 P p) := Lib.hid (by rw [hW4.out, hP]; exact PtAt.new W3 p)
      have HB4 := Lib.hid (HB3.out.trans (hb4.mono HB3.out.size))
      have HS4 := Lib.hid (HS3.out.keep hb4)
      rw [← hP]
      clear hW4 hb4 hP c0 c1 HB3 HS3 HX3
      have hc4 : W4.cell? ⟨P, 0, none⟩ = some (.int .i64 p.a) ∧ W4.cell? ⟨s, 0, none⟩ = some v := ⟨HT4.out.cells.1, HS4.out.cell.1⟩
      have HC := Lib.hid hc4
      have HP4 := Lib.hid (HPL.out W4.drew p HS4.out.drew.plies)
      have hha := HHA.out
      rw [hha] at HP4
      clear hc4 hha
      go_region_held3 (fun w' => w'.cell? ⟨P, 0, none⟩ = some (.int .i64 p.a) ∧ w'.cell? ⟨s, 0, none⟩ = some v) (first | exact HC.out | exact HC2.out) ((go_at_call 27; refine (HP4.out).mono ?_; rintro e W5 ⟨rfl, hb5⟩; have hc5 : W5.cell? ⟨P, 0, none⟩ = some (.int .i64 p.a) ∧ W5.cell? ⟨s, 0, none⟩ = some v := ⟨(hb5.cell (p := ⟨P, 0, none⟩) (cell_lt HC.out.1)).trans HC.out.1, (hb5.cell (p := ⟨s, 0, none⟩) (cell_lt HC.out.2)).trans HC.out.2⟩; have HC2 := Lib.hid hc5; have HB5 : Hid (Below w.heap.size w W5) := Lib.hid (HB4.out.trans ((below_drew (Below.refl w.heap.size W4)).trans (hb5.mono HB4.out.size))); clear hb5 hc5))
      go_wp2_with fail
      go_roundw
      case rel => exact ⟨j + 1, rfl, by go_num, by omega, HB5.out⟩
      case measure => simp [intOf]; omega
    · go_wp2_with fail
      refine (HSO.out _).mono ?_
      rintro e w' ⟨rfl, hw⟩
      replace hw := hw.symm
      subst hw
      go_wp2_with fail
      refine (HCO.out _).mono ?_
      rintro e w' ⟨rfl, hw⟩
      replace hw := hw.symm
      subst hw
      go_wp2_with fail
      go_ret
      exact ⟨rfl, HB3.out⟩
end Go.Proofs.Ytpgbeebpeldjdaa
