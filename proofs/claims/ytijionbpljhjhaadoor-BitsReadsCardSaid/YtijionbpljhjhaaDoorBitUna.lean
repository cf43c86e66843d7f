/- Unary and Rest of the reader, walked. -/
import Derived.Test.YtijionbpljhjhaaDoorBitGet
namespace Go.Proofs.YtijionbpljhjhaaDoor
open Go.RowKit

theorem peek_one {B : Nat} {w : World} {R : Nat} {bs : List Nat} {n k : Nat} (h : ReaderAt B w R bs n) (hb : ∀ x ∈ bs, x < 256) (hbig : bs.length ≤ 1000000000) (hk : n + k < 8 * bs.length) (h1 : bitIn bs (n + k) = 1) :
    Calls Tryd.prog 23 #[.pointer (some ⟨R, 0, none⟩), .int .i64 (k : Int)] w fun e w' => e = .returned (.int .u8 1) ∧ w = w' :=
  (peek_any h hb hbig hk).mono fun e w' ⟨he, hw⟩ => ⟨by rw [he, h1]; rfl, hw⟩
theorem peek_zero {B : Nat} {w : World} {R : Nat} {bs : List Nat} {n k : Nat} (h : ReaderAt B w R bs n) (hb : ∀ x ∈ bs, x < 256) (hbig : bs.length ≤ 1000000000) (hk : n + k < 8 * bs.length) (h1 : bitIn bs (n + k) = 0) :
    Calls Tryd.prog 23 #[.pointer (some ⟨R, 0, none⟩), .int .i64 (k : Int)] w fun e w' => e = .returned (.int .u8 0) ∧ w = w' :=
  (peek_any h hb hbig hk).mono fun e w' ⟨he, hw⟩ => ⟨by rw [he, h1]; rfl, hw⟩

set_option maxHeartbeats 1000000 in
theorem runary_ok {B : Nat} {w : World} {R n t M : Nat} {most : Int} {bs : List Nat} (hm : most = M ∨ most < 0 ∧ M = 0) (h : ReaderAt B w R bs n) (hb : ∀ x ∈ bs, x < 256) (hbig : bs.length ≤ 1000000000) (hn : n ≤ 8 * bs.length) (ht : t < 8 * bs.length - n) (htm : t ≤ M) (h1 : ∀ j, j < t → bitIn bs (n + j) = 1) (h0 : bitIn bs (n + t) = 0) :
    Calls Tryd.prog 15 #[.pointer (some ⟨R, 0, none⟩), .int .i64 most] w fun e w' =>
      e = .returned (.tuple #[.int .i64 (t : Int), .int .i64 0]) ∧ ReaderAt B w' R bs (n + (t + 1)) ∧ Only (fun j => j = R) w w' := by
  have HR := Lib.hid h
  have HB := Lib.hid hb
  have H1 := Lib.hid h1
  have H0 := Lib.hid h0
  clear h hb h1 h0
  rcases hm with rfl | ⟨hneg, rfl⟩
  all_goals
    go_enter Tryd.func15, Tryd.ntmps15
    go_wp2_with (go_at_call 18; refine (left_any HR.out hbig hn).mono ?_; rintro e w' ⟨rfl, m, rfl⟩)
  · go_loop [13] (fun i => ∃ q : Nat, q ≤ t ∧ i = .int .i64 q) (fun i => t - (intOf i).toNat)
    case atStart => exact ⟨0, by omega, rfl⟩
    case round =>
      obtain ⟨q, hq, rfl⟩ := hrel
      by_cases hlt : q < t
      · have hqm : ((q : Int) == M) = false := by simp; omega
        have hqm2 : (q == M) = false := by simp; omega
        go_wp2_with fail
        refine (peek_one (HR.out.drewN _) HB.out hbig (by omega) (H1.out q hlt)).mono ?_
        rintro e w' ⟨rfl, rfl⟩
        go_wp2
        go_round
        case rel => exact ⟨q + 1, by omega, by go_num⟩
        case measure => simp [intOf]; omega
      · obtain rfl : q = t := by omega
        obtain ⟨_, v, hh, _⟩ := HR.out
        obtain ⟨c0, c1, f0, f1⟩ := cells2 hh
        clear hh
        go_wp2_with fail
        refine (peek_zero (HR.out.drewN _) HB.out hbig (by omega) H0.out).mono ?_
        rintro e w' ⟨rfl, rfl⟩
        go_wp2
        go_ret2
        obtain ⟨h1, h2⟩ := (HR.out.drewN m).set (n + (q + 1)) (u := (n : Int) + (q + 1)) (by simp)
        exact ⟨rfl, h1, (only_drewN _ _ _).trans h2 (fun i _ h => h)⟩
  · obtain rfl : t = 0 := by omega
    refine wp_loop_rounds 1 ?_
    rw [rounds_succ]
    obtain ⟨_, v, hh, _⟩ := HR.out
    obtain ⟨c0, c1, f0, f1⟩ := cells2 hh
    clear hh
    go_wp2_with fail
    refine (peek_zero (HR.out.drewN _) HB.out hbig (by omega) H0.out).mono ?_
    rintro e w' ⟨rfl, rfl⟩
    go_wp2
    go_ret2
    obtain ⟨h1, h2⟩ := (HR.out.drewN m).set (n + (0 + 1)) (u := (n : Int) + 1) (by simp)
    exact ⟨rfl, h1, (only_drewN _ _ _).trans h2 (fun i _ h => h)⟩

set_option maxHeartbeats 1000000 in
theorem runary_long {B : Nat} {w : World} {R n M : Nat} {most : Int} {bs : List Nat} (hm : most = M ∨ most < 0 ∧ M = 0) (h : ReaderAt B w R bs n) (hb : ∀ x ∈ bs, x < 256) (hbig : bs.length ≤ 1000000000) (hn : n ≤ 8 * bs.length) (ht : M < 8 * bs.length - n) (h1 : ∀ j, j ≤ M → bitIn bs (n + j) = 1) :
    Calls Tryd.prog 15 #[.pointer (some ⟨R, 0, none⟩), .int .i64 most] w fun e w' => e = .returned (.tuple #[.int .i64 0, .int .i64 12]) ∧ ∃ m, w' = w.drewN m := by
  have HR := Lib.hid h
  have HB := Lib.hid hb
  have H1 := Lib.hid h1
  clear h hb h1
  rcases hm with rfl | ⟨hneg, rfl⟩
  all_goals
    go_enter Tryd.func15, Tryd.ntmps15
    go_wp2_with (go_at_call 18; refine (left_any HR.out hbig hn).mono ?_; rintro e w' ⟨rfl, m, rfl⟩)
  · go_loop [13] (fun i => ∃ q : Nat, q ≤ M ∧ i = .int .i64 q) (fun i => M - (intOf i).toNat)
    case atStart => exact ⟨0, by omega, rfl⟩
    case round =>
      obtain ⟨q, hq, rfl⟩ := hrel
      by_cases hlt : q < M
      · have hqm : ((q : Int) == M) = false := by simp; omega
        have hqm2 : (q == M) = false := by simp; omega
        go_wp2_with fail
        refine (peek_one (HR.out.drewN _) HB.out hbig (by omega) (H1.out q (by omega))).mono ?_
        rintro e w' ⟨rfl, rfl⟩
        go_wp2
        go_round
        case rel => exact ⟨q + 1, by omega, by go_num⟩
        case measure => simp [intOf]; omega
      · obtain rfl : q = M := by omega
        go_wp2_with fail
        refine (peek_one (HR.out.drewN _) HB.out hbig (by omega) (H1.out q (by omega))).mono ?_
        rintro e w' ⟨rfl, rfl⟩
        go_wp2
        go_ret2
        exact ⟨rfl, _, rfl⟩
  · refine wp_loop_rounds 1 ?_
    rw [rounds_succ]
    go_wp2_with fail
    refine (peek_one (HR.out.drewN _) HB.out hbig (by omega) (H1.out 0 (by omega))).mono ?_
    rintro e w' ⟨rfl, rfl⟩
    go_wp2
    go_ret2
    exact ⟨rfl, _, rfl⟩

set_option maxHeartbeats 1000000 in
theorem runary_short {B : Nat} {w : World} {R n M : Nat} {most : Int} {bs : List Nat} (hm : most = M ∨ most < 0 ∧ M = 0) (h : ReaderAt B w R bs n) (hb : ∀ x ∈ bs, x < 256) (hbig : bs.length ≤ 1000000000) (hn : n ≤ 8 * bs.length) (ht : 8 * bs.length - n ≤ M) (h1 : ∀ j, j < 8 * bs.length - n → bitIn bs (n + j) = 1) :
    Calls Tryd.prog 15 #[.pointer (some ⟨R, 0, none⟩), .int .i64 most] w fun e w' => e = .returned (.tuple #[.int .i64 0, .int .i64 4]) ∧ ∃ m, w' = w.drewN m := by
  have HR := Lib.hid h
  have HB := Lib.hid hb
  have H1 := Lib.hid h1
  clear h hb h1
  rcases hm with rfl | ⟨hneg, rfl⟩
  all_goals
    go_enter Tryd.func15, Tryd.ntmps15
    go_wp2_with (go_at_call 18; refine (left_any HR.out hbig hn).mono ?_; rintro e w' ⟨rfl, m, rfl⟩)
  · go_loop [13] (fun i => ∃ q : Nat, q ≤ 8 * bs.length - n ∧ i = .int .i64 q) (fun i => 8 * bs.length - n - (intOf i).toNat)
    case atStart => exact ⟨0, by omega, rfl⟩
    case round =>
      obtain ⟨q, hq, rfl⟩ := hrel
      by_cases hlt : q < 8 * bs.length - n
      · have hqm : ((q : Int) == M) = false := by simp; omega
        have hqm2 : (q == M) = false := by simp; omega
        go_wp2_with fail
        refine (peek_one (HR.out.drewN _) HB.out hbig (by omega) (H1.out q hlt)).mono ?_
        rintro e w' ⟨rfl, rfl⟩
        go_wp2
        go_round
        case rel => exact ⟨q + 1, by omega, by go_num⟩
        case measure => simp [intOf]; omega
      · have hqe : ¬ ((q : Int) < ((8 * bs.length - n : Nat) : Int)) := by omega
        go_wp2
        go_ret2
        exact ⟨rfl, _, rfl⟩
  · have h0 : 8 * bs.length - n = 0 := by omega
    refine wp_loop_rounds 1 ?_
    rw [rounds_succ]
    go_wp2
    go_ret2
    exact ⟨rfl, _, rfl⟩

/-- are fewer than 8 bits left, all 0? -/
def clean (bs : List Nat) (n : Nat) : Prop := 8 * bs.length - n < 8 ∧ ∀ j, j < 8 * bs.length - n → bitIn bs (n + j) = 0

set_option maxHeartbeats 1000000 in
theorem rest_yes {B : Nat} {w : World} {R n : Nat} {bs : List Nat} (h : ReaderAt B w R bs n) (hb : ∀ x ∈ bs, x < 256) (hbig : bs.length ≤ 1000000000) (hn : n ≤ 8 * bs.length) (h8 : 8 * bs.length - n < 8) (h0 : ∀ j, j < 8 * bs.length - n → bitIn bs (n + j) = 0) :
    Calls Tryd.prog 17 #[.pointer (some ⟨R, 0, none⟩)] w fun e w' => e = .returned (.int .i64 0) ∧ ∃ m, w' = w.drewN m := by
  have HR := Lib.hid h
  have HB := Lib.hid hb
  have H0 := Lib.hid h0
  clear h hb h0
  go_enter Tryd.func17, Tryd.ntmps17
  go_wp2_with (go_at_call 18; refine (left_any HR.out hbig hn).mono ?_; rintro e w' ⟨rfl, m, rfl⟩)
  go_loop [12] (fun i => ∃ q : Nat, q ≤ 8 * bs.length - n ∧ i = .int .i64 q) (fun i => 8 * bs.length - n - (intOf i).toNat)
  case atStart => exact ⟨0, by omega, rfl⟩
  case round =>
    obtain ⟨q, hq, rfl⟩ := hrel
    by_cases hlt : q < 8 * bs.length - n
    · go_wp2_with fail
      refine (peek_zero (HR.out.drewN _) HB.out hbig (by omega) (H0.out q hlt)).mono ?_
      rintro e w' ⟨rfl, rfl⟩
      go_wp2
      go_round
      case rel => exact ⟨q + 1, by omega, by go_num⟩
      case measure => simp [intOf]; omega
    · have hqe : ¬ ((q : Int) < ((8 * bs.length - n : Nat) : Int)) := by omega
      go_wp2
      go_ret
      exact ⟨rfl, _, rfl⟩

set_option maxHeartbeats 1000000 in
theorem rest_no {B : Nat} {w : World} {R n : Nat} {bs : List Nat} (h : ReaderAt B w R bs n) (hb : ∀ x ∈ bs, x < 256) (hbig : bs.length ≤ 1000000000) (hn : n ≤ 8 * bs.length) (hc : ¬ clean bs n) :
    Calls Tryd.prog 17 #[.pointer (some ⟨R, 0, none⟩)] w fun e w' => e = .returned (.int .i64 2) ∧ ∃ m, w' = w.drewN m := by
  have HR := Lib.hid h
  have HB := Lib.hid hb
  clear h hb
  by_cases h8 : 8 * bs.length - n < 8
  · -- the first bit 1
    have hex : ∃ t, t < 8 * bs.length - n ∧ (∀ j, j < t → bitIn bs (n + j) = 0) ∧ bitIn bs (n + t) = 1 := by
      have h1 : ∃ t, t < 8 * bs.length - n ∧ bitIn bs (n + t) = 1 := Classical.byContradiction fun hno => hc ⟨h8, fun j hj => by
        have := bitIn_le bs (n + j)
        rcases Nat.lt_or_ge (bitIn bs (n + j)) 1 with h | h
        · omega
        · exact absurd ⟨j, hj, by omega⟩ hno⟩
      obtain ⟨t, ht, h1⟩ := h1
      clear hc
      induction t using Nat.strongRecOn with
      | _ t ih =>
        by_cases hs : ∃ j, j < t ∧ bitIn bs (n + j) = 1
        · obtain ⟨j, hj, h2⟩ := hs
          exact ih j hj (by omega) h2
        · refine ⟨t, ht, fun j hj => ?_, h1⟩
          have := bitIn_le bs (n + j)
          rcases Nat.lt_or_ge (bitIn bs (n + j)) 1 with h | h
          · omega
          · exact absurd ⟨j, hj, by omega⟩ hs
    obtain ⟨t, ht, h0, h1⟩ := hex
    have H0 := Lib.hid h0
    have H1 := Lib.hid h1
    clear h0 h1 hc
    go_enter Tryd.func17, Tryd.ntmps17
    go_wp2_with (go_at_call 18; refine (left_any HR.out hbig hn).mono ?_; rintro e w' ⟨rfl, m, rfl⟩)
    go_loop [12] (fun i => ∃ q : Nat, q ≤ t ∧ i = .int .i64 q) (fun i => t - (intOf i).toNat)
    case atStart => exact ⟨0, by omega, rfl⟩
    case round =>
      obtain ⟨q, hq, rfl⟩ := hrel
      by_cases hlt : q < t
      · go_wp2_with fail
        refine (peek_zero (HR.out.drewN _) HB.out hbig (by omega) (H0.out q hlt)).mono ?_
        rintro e w' ⟨rfl, rfl⟩
        go_wp2
        go_round
        case rel => exact ⟨q + 1, by omega, by go_num⟩
        case measure => simp [intOf]; omega
      · obtain rfl : q = t := by omega
        go_wp2_with fail
        refine (peek_one (HR.out.drewN _) HB.out hbig (by omega) H1.out).mono ?_
        rintro e w' ⟨rfl, rfl⟩
        go_wp2
        go_ret
        exact ⟨rfl, _, rfl⟩
  · clear hc
    go_enter Tryd.func17, Tryd.ntmps17
    go_wp2_with (go_at_call 18; refine (left_any HR.out hbig hn).mono ?_; rintro e w' ⟨rfl, m, rfl⟩)
    go_ret
    exact ⟨rfl, _, rfl⟩
end Go.Proofs.YtijionbpljhjhaaDoor
