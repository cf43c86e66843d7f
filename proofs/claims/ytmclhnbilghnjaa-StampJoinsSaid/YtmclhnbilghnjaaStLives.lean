/- The law's own lives, walked. -/
import Derived.Test.YtmclhnbilghnjaaStSplit
namespace Go.Proofs.Ytmclhnbilghnjaa
open Go.RowKit

theorem split_100 : splitS 1 5 (List.replicate 100 0) = [⟨1, 5, false, List.replicate 47 0⟩, ⟨1, 6, false, List.replicate 47 0⟩, ⟨1, 7, true, List.replicate 6 0⟩] := by rfl
theorem made_zero (n : Nat) : (madeCells (Value.int .u8 0).cells (n * 1)).toList = u8s (List.replicate n 0) := by
  unfold u8s
  rw [List.map_replicate, Nat.mul_one]
  exact made_rep (v := .int .u8 0) (N := 1) (by omega)

set_option maxHeartbeats 4000000 in
theorem lives_any (w : World) : Calls Try.prog 5 #[] w fun e w' => e = .returned (.bool true) ∧ Below w.heap.size w w' := by
  obtain ⟨i0, hi0, hi1, hi2, hi3⟩ := info_parts infoU8
  have HI := Lib.hid (⟨hi0, hi1, hi2, by rw [hi3]; omega⟩ : Try.prog.info? 5 = some i0 ∧ i0.zero = some (.int .u8 0) ∧ i0.size = 1 ∧ i0.bytes * 100 ≤ 281474976710656)
  clear hi0 hi1 hi2 hi3
  go_enter Try.func5, Try.ntmps5
  go_wp2_with (refine wpList_make_full _ rfl (.const (.int .i64 100)) (.const (.int .i64 100)) 25 rfl w.heap.size 5 i0 _ 1 Try.underlying25 HI.out.1 HI.out.2.1 HI.out.2.2.1 .i64 .i64 100 100 100 rfl rfl rfl rfl HI.out.2.2.2 (by unfold maxLen; omega) (Nat.le_refl _) ?_; intro W1 hown hgr; rw [made_zero] at hown; have HO1 := Lib.hid hown; have HB1 : Hid (Below w.heap.size w W1) := Lib.hid ((Only.grown hgr).below (Nat.le_refl _) (fun k hk => by cases hk)); clear hown hgr)
  refine (split_any (t := 1) (p := 5) (D := List.replicate 100 0) (by have h := ownsRow_lies HO1.out; exact h) (by omega) (by simp)).mono ?_
  rintro e w2 (⟨h0, _⟩ | ⟨_, g, r, rfl, hr, hg, ha, hl, hb2⟩)
  · exact absurd (by decide : splitE 1 5 100 = 0) (by simpa using h0)
  rw [split_100] at hr
  obtain ⟨x0, x1, x2, rfl⟩ : ∃ x0 x1 x2, r = [x0, x1, x2] := by
    have hlen : r.length = 3 := by rw [← List.length_map (f := Prod.fst), hr]; rfl
    match r, hlen with
    | [x0, x1, x2], _ => exact ⟨x0, x1, x2, rfl⟩
  obtain ⟨s0, u0⟩ := x0
  obtain ⟨s1, u1⟩ := x1
  obtain ⟨s2, u2⟩ := x2
  simp only [List.map_cons, List.map_nil, List.cons.injEq, and_true] at hr
  obtain ⟨rfl, rfl, rfl⟩ := hr
  obtain ⟨a0, c0, h0⟩ := lies_len (hl _ List.mem_cons_self).1.lies
  obtain ⟨a2, c2, h2⟩ := lies_len (hl _ (List.mem_cons_of_mem _ (List.mem_cons_of_mem _ List.mem_cons_self))).1.lies
  simp only [List.length_replicate] at h0 h2
  subst h0
  subst h2
  have q3 : w2.cell? ⟨g, 3, none⟩ = some (.slice a0 47 c0) := ha.cell rfl
  have q6 : w2.cell? ⟨g, 6, none⟩ = some (.bool false) := ha.cell rfl
  have q8 : w2.cell? ⟨g, 8, none⟩ = some (.int .u32 1) := ha.cell rfl
  have q9 : w2.cell? ⟨g, 9, none⟩ = some (.int .u32 7) := ha.cell rfl
  have q10 : w2.cell? ⟨g, 10, none⟩ = some (.bool true) := ha.cell rfl
  have q11 : w2.cell? ⟨g, 11, none⟩ = some (.slice a2 6 c2) := ha.cell rfl
  have HB2 : Hid (Below w.heap.size w w2) := Lib.hid (HB1.out.trans (hb2.mono HB1.out.size))
  clear ha hl hb2 hg
  go_wp2
  go_ret
  exact ⟨rfl, HB2.out⟩
end Go.Proofs.Ytmclhnbilghnjaa
