/- Package policy: Of, Bound, Gone, Stricter. -/
import Derived.Test.YtbcbignlngcoiaaDoorPolAt
import Derived.Test.YtbcbignlngcoiaaDoorPoL
import Derived.Test.YtbcbignlngcoiaaDoorRgAt
import Derived.Lib.MinMax
import Derived.Deep.DeepCutAuto
import Derived.StillTailTactics
namespace Go.Proofs.YtbcbignlngcoiaaDoor
open Go.RowKit

set_option maxHeartbeats 4000000 in
set_option maxRecDepth 100000 in
theorem poof_any (w : World) (a b c k : Int) :
    Calls Tryd.prog 15 #[.agg #[.int .i64 a, .int .i64 b, .int .i64 c], .int .i64 k] w fun e w' => e = .returned (.int .i64 (ofP a b c k)) ∧ Below w.heap.size w w' := by
  have HR : Hid (ofP a b c k = if k = 0 then a else if k = 1 then b else if k = 2 then c else 0) := Lib.hid rfl
  go_enter Tryd.func15, Tryd.ntmps15
  go_wp2
  all_goals go_ret
  all_goals refine ⟨ret_i64 (HR.out.trans ?_).symm, (Below.refl _ _).alloc (Nat.le_refl _) _⟩
  all_goals (first | rfl | (simp_all; done))
set_option maxHeartbeats 4000000 in
set_option maxRecDepth 100000 in
theorem postricter_any (w : World) (x y : Int) :
    Calls Tryd.prog 12 #[.int .i64 x, .int .i64 y] w fun e w' => e = .returned (.int .i64 (lessP x y)) ∧ w' = w := by
  go_enter Tryd.func12, Tryd.ntmps12
  go_wp2
  all_goals go_ret
  all_goals refine ⟨ret_i64 ?_, rfl⟩
  · have h : (!decide (0 < x) == decide (0 < y)) = true := by assumption
    unfold lessP
    rw [if_neg (by intro e; rw [e] at h; simp at h)]
  · have h : (!decide (0 < x) == decide (0 < y)) = false := by assumption
    unfold lessP
    rw [if_pos (by simpa using h)]
set_option maxHeartbeats 4000000 in
set_option maxRecDepth 100000 in
theorem pobound_any (w : World) (a b c k now : Int) (hn : -9223372036854775808 ≤ now ∧ now ≤ 9223372036854775807) :
    Calls Tryd.prog 13 #[.agg #[.int .i64 a, .int .i64 b, .int .i64 c], .int .i64 k, .int .i64 now] w fun e w' => e = .returned (.tuple #[.int .i64 (boundP (ofP a b c k) now), .bool (someP (ofP a b c k) now)]) ∧ Below w.heap.size w w' := by
  have HO : Hid (∀ W, Calls Tryd.prog 15 #[.agg #[.int .i64 a, .int .i64 b, .int .i64 c], .int .i64 k] W fun e w' => e = .returned (.int .i64 (ofP a b c k)) ∧ Below W.heap.size W w') := Lib.hid fun W => poof_any W a b c k
  obtain ⟨n, hN⟩ : ∃ n, n = ofP a b c k := ⟨_, rfl⟩
  rw [← hN] at HO ⊢
  clear hN
  have HB : Hid (boundP n now = if someP n now = true then now - n else 0) := Lib.hid rfl
  have HS : Hid (someP n now = (decide (0 < n) && decide (n ≤ now))) := Lib.hid rfl
  go_enter Tryd.func13, Tryd.ntmps13
  go_upto_region 1 with fail
  refine wp_name fun W1 hW1 => ?_
  obtain ⟨P, hP⟩ : ∃ P, P = w.heap.size := ⟨_, rfl⟩
  have HP : Hid (PolAt W1 P a b c) := Lib.hid (by rw [hW1.out, hP]; exact PolAt.new w a b c)
  have HB1 : Hid (Below w.heap.size w W1) := Lib.hid (by rw [hW1.out]; exact (Below.refl _ _).alloc (Nat.le_refl _) _)
  rw [← hP]
  obtain ⟨c0, c1, c2, -, -, -⟩ := HP.out.cells
  clear hW1 hP
  go_wp2_with fail
  refine (HO.out W1).mono ?_
  rintro e W2 ⟨rfl, hb⟩
  have HB2 := Lib.hid (HB1.out.trans (hb.mono HB1.out.size))
  clear hb c0 c1 c2 HP HB1
  dsimp only
  by_cases h0 : n ≤ 0
  · have t0 : decide (n ≤ 0) = true := decide_eq_true h0
    go_wp2
    go_ret2
    have e1 : someP n now = false := by rw [HS.out, decide_eq_false (by omega)]; rfl
    exact ⟨by rw [HB.out, e1]; rfl, HB2.out⟩
  · have t0 : decide (n ≤ 0) = false := decide_eq_false h0
    by_cases h1 : now < n
    · have t1 : decide (now < n) = true := decide_eq_true h1
      go_wp2
      go_ret2
      have e1 : someP n now = false := by rw [HS.out, decide_eq_false (show ¬ n ≤ now by omega), Bool.and_false]
      exact ⟨by rw [HB.out, e1]; rfl, HB2.out⟩
    · have t1 : decide (now < n) = false := decide_eq_false h1
      go_wp2
      go_ret2
      have e1 : someP n now = true := by rw [HS.out, decide_eq_true (show n ≤ now by omega), decide_eq_true (show 0 < n by omega)]; rfl
      exact ⟨by rw [HB.out, e1]; rfl, HB2.out⟩
set_option maxHeartbeats 4000000 in
set_option maxRecDepth 100000 in
theorem pogone_any (w : World) (a b c k frm hi now : Int) (hn : -9223372036854775808 ≤ now ∧ now ≤ 9223372036854775807) :
    Calls Tryd.prog 9 #[.agg #[.int .i64 a, .int .i64 b, .int .i64 c], .int .i64 k, .agg #[.int .i64 frm, .int .i64 hi], .int .i64 now] w fun e w' => e = .returned (.bool (goneP (ofP a b c k) hi now)) ∧ Below w.heap.size w w' := by
  have HO : Hid (∀ W, Calls Tryd.prog 13 #[.agg #[.int .i64 a, .int .i64 b, .int .i64 c], .int .i64 k, .int .i64 now] W fun e w' => e = .returned (.tuple #[.int .i64 (boundP (ofP a b c k) now), .bool (someP (ofP a b c k) now)]) ∧ Below W.heap.size W w') := Lib.hid fun W => pobound_any W a b c k now hn
  obtain ⟨n, hN⟩ : ∃ n, n = ofP a b c k := ⟨_, rfl⟩
  rw [← hN] at HO ⊢
  clear hN
  have HB : Hid (boundP n now = if someP n now = true then now - n else 0) := Lib.hid rfl
  have HG : Hid (goneP n hi now = (someP n now && decide (hi ≤ now - n))) := Lib.hid rfl
  obtain ⟨B, hB⟩ : ∃ B, B = boundP n now := ⟨_, rfl⟩
  obtain ⟨M, hM⟩ : ∃ M, M = someP n now := ⟨_, rfl⟩
  rw [← hM, ← hB] at HB HO
  rw [← hM] at HG
  clear hB hM
  go_enter Tryd.func9, Tryd.ntmps9
  go_upto_region 1 with fail
  refine wp_name fun W1 hW1 => ?_
  obtain ⟨P, hP⟩ : ∃ P, P = w.heap.size := ⟨_, rfl⟩
  have e2 : (w.alloc (.cells #[.int .i64 a, .int .i64 b, .int .i64 c] 23)).heap.size = P + 1 := by rw [hP]; simp
  have HP : Hid (PolAt W1 P a b c) := Lib.hid (by rw [hW1.out, hP]; exact (PolAt.new w a b c).old _)
  have HR : Hid (RgAt W1 (P + 1) frm hi) := Lib.hid (by rw [hW1.out, ← e2]; exact RgAt.new _ frm hi)
  have HB1 : Hid (Below w.heap.size w W1) := Lib.hid (by rw [hW1.out]; exact ((Below.refl _ _).alloc (Nat.le_refl _) _).alloc (by simp) _)
  rw [← hP]
  obtain ⟨c0, c1, c2, -, -, -⟩ := HP.out.cells
  clear hW1 hP e2
  go_wp2_with fail
  refine (HO.out W1).mono ?_
  rintro e W2 ⟨rfl, hb⟩
  have HB2 := Lib.hid (HB1.out.trans (hb.mono HB1.out.size))
  have HR2 := Lib.hid (HR.out.keep hb)
  clear hb c0 c1 c2 HP HB1 HR
  dsimp only
  obtain ⟨r0, r1, -, -⟩ := HR2.out.cells
  cases M with
  | false =>
    go_wp2
    go_ret
    exact ⟨by rw [HG.out]; rfl, HB2.out⟩
  | true =>
    go_wp2
    go_ret
    have e1 : B = now - n := by have := HB.out; simpa using this
    exact ⟨by rw [HG.out, e1]; rfl, HB2.out⟩
end Go.Proofs.YtbcbignlngcoiaaDoor
