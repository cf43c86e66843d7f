/- Package window: what is cut of a range. Written by py/wi-cut.py. -/
import Derived.Test.YtfbipeppnffmeaaWiRg
import Derived.Maps.AppendAt
import Derived.Deep.DeepCutAuto
namespace Go.Proofs.Ytfbipeppnffmeaa
open Go.RowKit

theorem infoRg : (Try.prog.info? 25).map (fun i => (i.zero, i.size, i.bytes)) = some (some (.agg #[.int .i64 0, .int .i64 0]), 2, 16) := by kernel_rfl
/-- a row of ranges, the call's own -/
def RgRow (B : Nat) (w : World) (v : Value) (l : List (Int × Int)) : Prop := w.ownsRow B 25 2 v l.length (cellsR l)
theorem RgRow.keep {B : Nat} {w w' : World} {v : Value} {l : List (Int × Int)} (h : RgRow B w v l) (hb : Below w.heap.size w w') : RgRow B w' v l := ownsRow_beyond h hb
theorem RgRow.nil (B : Nat) (w : World) : RgRow B w (.slice none 0 0) [] := World.ownsRow_nil _ _ _ _
theorem cellsR_append (a b : List (Int × Int)) : cellsR (a ++ b) = cellsR a ++ cellsR b := by simp [cellsR]
theorem RgRow.snoc {B : Nat} {w : World} {v : Value} {l : List (Int × Int)} {x y : Int} (h : w.ownsRow B 25 2 v (l.length + 1) (cellsR l ++ [.int .i64 x, .int .i64 y])) : RgRow B w v (l ++ [(x, y)]) := by
  unfold RgRow
  rw [cellsR_append, List.length_append]
  exact h
theorem part_yes {a b : Int} (h : decide (a < b) = true) : partR a b = [(a, b)] := by unfold partR; rw [if_pos (of_decide_eq_true h)]
theorem part_no {a b : Int} (h : decide (a < b) = false) : partR a b = [] := by unfold partR; rw [if_neg (of_decide_eq_false h)]
theorem cut_meets {a b c d : Int} (h : meetsR a b c d = true) : cutR a b c d = partR a c ++ partR d b := by unfold cutR; rw [if_pos h]
theorem cut_apart {a b c d : Int} (h : meetsR a b c d = false) : cutR a b c d = partR a b ++ partR b b := by
  unfold cutR; rw [if_neg (by simp [h]), part_no (a := b) (by simp), List.append_nil]
/-- what the first rounds leave -/
def takeR (a x y b : Int) : Nat → List (Int × Int)
  | 0 => []
  | 1 => partR a x
  | _ => partR a x ++ partR y b
theorem take_part0 {a x y b : Int} : takeR a x y b (0 + 1) = takeR a x y b 0 ++ partR a x := rfl
theorem take_part1 {a x y b : Int} : takeR a x y b (1 + 1) = takeR a x y b 1 ++ partR y b := rfl
theorem part_len (a b : Int) : (partR a b).length ≤ 1 := by unfold partR; split <;> simp
theorem take_len (a x y b : Int) (k : Nat) : (takeR a x y b k).length ≤ 2 := by
  have h1 := part_len a x
  have h2 := part_len y b
  match k with
  | 0 => simp [takeR]
  | 1 => simp only [takeR]; omega
  | k + 2 => simp only [takeR, List.length_append]; omega
set_option maxHeartbeats 16000000 in
set_option maxRecDepth 1000000 in
theorem wicut_any (w : World) (a b c d : Int) :
    Calls Try.prog 18 #[.agg #[.int .i64 a, .int .i64 b], .agg #[.int .i64 c, .int .i64 d]] w fun e w' => ∃ v, e = .returned v ∧ RgRow w.heap.size w' v (cutR a b c d) ∧ Below w.heap.size w w' := by
  obtain ⟨i0, hi, hz0, hz1, hz2⟩ := info_parts infoRg
  have HM : Hid (∀ W, Calls Try.prog 17 #[.agg #[.int .i64 a, .int .i64 b], .agg #[.int .i64 c, .int .i64 d]] W fun e w' => e = .returned (.bool (meetsR a b c d)) ∧ Below W.heap.size W w') := Lib.hid fun W => wimeets_any W a b c d
  have HCM : Hid (meetsR a b c d = true → cutR a b c d = takeR a c d b 2) := Lib.hid cut_meets
  have HCA : Hid (meetsR a b c d = false → cutR a b c d = takeR a b b b 2) := Lib.hid cut_apart
  obtain ⟨C, hC⟩ : ∃ C, C = cutR a b c d := ⟨_, rfl⟩
  obtain ⟨M, hM⟩ : ∃ M, M = meetsR a b c d := ⟨_, rfl⟩
  rw [← hC] at HCM HCA ⊢
  rw [← hM] at HM HCM HCA
  clear hC hM
  go_enter Try.func18, Try.ntmps18
  repeat (first | go_values | go_skip | go_guarded | go_step)
  refine calls_name ?_
  intro W1 hW1
  obtain ⟨P, hP⟩ : ∃ P, P = w.heap.size := ⟨_, rfl⟩
  have e1 : (w.alloc (.cells #[.int .i64 a, .int .i64 b] 25)).heap.size = P + 1 := by rw [hP]; simp
  have HA1 : Hid (RgAt W1 P a b) := Lib.hid (by rw [hW1.out, hP]; exact (RgAt.new w a b).old _)
  have HY1 : Hid (RgAt W1 (P + 1) c d) := Lib.hid (by rw [hW1.out, ← e1]; exact RgAt.new _ c d)
  have HB1 : Hid (Below w.heap.size w W1) := Lib.hid (by rw [hW1.out]; exact ((Below.refl _ _).alloc (Nat.le_refl _) _).alloc (by simp) _)
  have HQ := Lib.hid hP
  rw [← hP]
  clear hW1 hP e1
  refine (HM.out W1).mono ?_
  rintro e W2 ⟨rfl, hb⟩
  have HA2 := Lib.hid (HA1.out.keep hb)
  have HY2 := Lib.hid (HY1.out.keep hb)
  have HB2 := Lib.hid (HB1.out.trans (hb.mono HB1.out.size))
  clear hb HA1 HY1 HB1
  dsimp only
  cases M with
  | true =>
    have HC : Hid (C = takeR a c d b 2) := Lib.hid (HCM.out rfl)
    have HA3 := Lib.hid HA2.out
    have HY3 := Lib.hid HY2.out
    have HB3 := Lib.hid HB2.out
    clear HA2 HY2 HB2 HCM HCA HM
    obtain ⟨a0, a1, -, -⟩ := HA3.out.cells
    obtain ⟨b0, b1, -, -⟩ := HY3.out.cells
    repeat (first | go_values | go_skip | go_guarded | go_step)
    go_loopw [5, 28] (fun v z wr => ∃ k : Nat, k ≤ 2 ∧ z = .int .i64 k ∧ RgRow w.heap.size wr v (takeR a c d b k) ∧ Below w.heap.size w wr) (fun _ z _ => 2 - (intOf z).toNat)
    case atStart => exact ⟨0, by decide, rfl, RgRow.nil _ _, HB3.out⟩
    case round =>
      obtain ⟨k, hk, hc, hrow, hbw⟩ := hrel
      obtain ⟨W4, hW4⟩ : ∃ W4, W4 = wr := ⟨_, rfl⟩
      subst hW4
      have HR4 := Lib.hid hrow
      have HB4 := Lib.hid hbw
      have HL : Hid ((takeR a c d b k).length ≤ 2) := Lib.hid (take_len a c d b k)
      clear hrow hbw
      obtain rfl | rfl | rfl : k = 0 ∨ k = 1 ∨ k = 2 := by omega
      · obtain rfl : u28 = .int .i64 0 := hc
        have hx : (Instr.index 39 (.agg #[.int .i64 a, .int .i64 c, .int .i64 d, .int .i64 b]) (.int .i64 0)).run Try.prog W4 = .ok (.agg #[.int .i64 a, .int .i64 c]) W4 := run_index_agg W4 _ 25 2 2 _ _ .i64 0 Try.underlying39 _ Try.underlying25 rfl (by kernel_rfl) (by decide) rfl
        by_cases hk : a < c
        · have tk : decide (a < c) = true := decide_eq_true hk
          have HP0 : Hid (partR a c = [(a, c)]) := Lib.hid (part_yes tk)
          have HFK : Hid (∀ W, Calls Try.prog 21 #[.agg #[.int .i64 a, .int .i64 c]] W fun e w' => e = .returned (.bool true) ∧ Below W.heap.size W w') := Lib.hid fun W => by have h := wifilled_any W a c; rw [tk] at h; exact h
          clear hk tk
          repeat (first | go_values | go_skip | go_guarded | go_step)
          refine calls_name ?_
          intro W5 hW5
          have HT5 : Hid (RgAt W5 W4.heap.size a c) := Lib.hid (by rw [hW5.out]; exact RgAt.new W4 a c)
          have hb5 : Below W4.heap.size W4 W5 := by rw [hW5.out]; exact (Below.refl _ W4).alloc (Nat.le_refl _) _
          have HR5 := Lib.hid (HR4.out.keep hb5)
          have HB5 := Lib.hid (HB4.out.trans (hb5.mono HB4.out.size))
          have HN5 : Hid (u5.ownBlock ≠ some W4.heap.size) := Lib.hid (fun h => by have := (HR4.out.lt _ h).2; omega)
          obtain ⟨T, hT⟩ : ∃ T, T = W4.heap.size := ⟨_, rfl⟩
          rw [← hT] at HT5 HN5 ⊢
          clear hb5 hW5 HR4 HB4 hT
          refine (HFK.out W5).mono ?_
          rintro e W6 ⟨rfl, hb6⟩
          have HT6 := Lib.hid (HT5.out.keep hb6)
          have HR6 := Lib.hid (HR5.out.keep hb6)
          have HB6 := Lib.hid (HB5.out.trans (hb6.mono HB5.out.size))
          clear hb6 HT5 HR5 HB5 HFK
          dsimp only
          obtain ⟨t0, t1, -, -⟩ := HT6.out.cells
          have hz6 := HB6.out.size
          go_wp2_with (at_builtin; refine wpList_append_own_at _ rfl (.tmp 33) (.tmp 35) 35 rfl w.heap.size 25 i0 (.agg #[.int .i64 0, .int .i64 0]) 2 16 Try.underlying35 hi hz0 hz1 hz2 rfl (by decide) _ _ _ rfl (HR6.out.keep ((Below.refl _ W6).alloc (Nat.le_refl _) _)) ⟨W6.heap.size, 0, none⟩ 1 1 [.int .i64 a, .int .i64 c] rfl rfl (World.news_of_block (heap_alloc_new W6 _)) (by simp [Value.oneCell']) (by first | (simp; unfold maxLen; omega) | (unfold maxLen; have := HL.out; omega)) (by have := HL.out; omega) (by simp; omega) ?_; intro v7 W7 hown7 hgrow7 _ hwhere7; have HR7 := Lib.hid (RgRow.snoc (l := takeR a c d b 0) hown7); have HB7 : Hid (Below w.heap.size w W7) := Lib.hid ((HB6.out.alloc hz6 _).grown hgrow7 (by simp; omega) (fun b hb => (HR6.out.lt b hb).1)); clear hown7 hgrow7 hwhere7)
          go_roundw
          case rel => exact ⟨1, by decide, rfl, by rw [take_part0, HP0.out]; exact HR7.out, HB7.out⟩
          case measure => simp [intOf]
        · have tk : decide (a < c) = false := decide_eq_false hk
          have HP0 : Hid (partR a c = []) := Lib.hid (part_no tk)
          have HFK : Hid (∀ W, Calls Try.prog 21 #[.agg #[.int .i64 a, .int .i64 c]] W fun e w' => e = .returned (.bool false) ∧ Below W.heap.size W w') := Lib.hid fun W => by have h := wifilled_any W a c; rw [tk] at h; exact h
          clear hk tk
          repeat (first | go_values | go_skip | go_guarded | go_step)
          refine calls_name ?_
          intro W5 hW5
          have HT5 : Hid (RgAt W5 W4.heap.size a c) := Lib.hid (by rw [hW5.out]; exact RgAt.new W4 a c)
          have hb5 : Below W4.heap.size W4 W5 := by rw [hW5.out]; exact (Below.refl _ W4).alloc (Nat.le_refl _) _
          have HR5 := Lib.hid (HR4.out.keep hb5)
          have HB5 := Lib.hid (HB4.out.trans (hb5.mono HB4.out.size))
          have HN5 : Hid (u5.ownBlock ≠ some W4.heap.size) := Lib.hid (fun h => by have := (HR4.out.lt _ h).2; omega)
          obtain ⟨T, hT⟩ : ∃ T, T = W4.heap.size := ⟨_, rfl⟩
          rw [← hT] at HT5 HN5 ⊢
          clear hb5 hW5 HR4 HB4 hT
          refine (HFK.out W5).mono ?_
          rintro e W6 ⟨rfl, hb6⟩
          have HT6 := Lib.hid (HT5.out.keep hb6)
          have HR6 := Lib.hid (HR5.out.keep hb6)
          have HB6 := Lib.hid (HB5.out.trans (hb6.mono HB5.out.size))
          clear hb6 HT5 HR5 HB5 HFK
          dsimp only
          obtain ⟨t0, t1, -, -⟩ := HT6.out.cells
          repeat (first | go_values | go_skip | go_guarded | go_step | go_upon)
          go_roundw
          case rel => exact ⟨1, by decide, rfl, by rw [take_part0, HP0.out]; rw [List.append_nil]; exact HR6.out, HB6.out⟩
          case measure => simp [intOf]
      · obtain rfl : u28 = .int .i64 1 := hc
        have hx : (Instr.index 39 (.agg #[.int .i64 a, .int .i64 c, .int .i64 d, .int .i64 b]) (.int .i64 1)).run Try.prog W4 = .ok (.agg #[.int .i64 d, .int .i64 b]) W4 := run_index_agg W4 _ 25 2 2 _ _ .i64 1 Try.underlying39 _ Try.underlying25 rfl (by kernel_rfl) (by decide) rfl
        by_cases hk : d < b
        · have tk : decide (d < b) = true := decide_eq_true hk
          have HP0 : Hid (partR d b = [(d, b)]) := Lib.hid (part_yes tk)
          have HFK : Hid (∀ W, Calls Try.prog 21 #[.agg #[.int .i64 d, .int .i64 b]] W fun e w' => e = .returned (.bool true) ∧ Below W.heap.size W w') := Lib.hid fun W => by have h := wifilled_any W d b; rw [tk] at h; exact h
          clear hk tk
          repeat (first | go_values | go_skip | go_guarded | go_step)
          refine calls_name ?_
          intro W5 hW5
          have HT5 : Hid (RgAt W5 W4.heap.size d b) := Lib.hid (by rw [hW5.out]; exact RgAt.new W4 d b)
          have hb5 : Below W4.heap.size W4 W5 := by rw [hW5.out]; exact (Below.refl _ W4).alloc (Nat.le_refl _) _
          have HR5 := Lib.hid (HR4.out.keep hb5)
          have HB5 := Lib.hid (HB4.out.trans (hb5.mono HB4.out.size))
          have HN5 : Hid (u5.ownBlock ≠ some W4.heap.size) := Lib.hid (fun h => by have := (HR4.out.lt _ h).2; omega)
          obtain ⟨T, hT⟩ : ∃ T, T = W4.heap.size := ⟨_, rfl⟩
          rw [← hT] at HT5 HN5 ⊢
          clear hb5 hW5 HR4 HB4 hT
          refine (HFK.out W5).mono ?_
          rintro e W6 ⟨rfl, hb6⟩
          have HT6 := Lib.hid (HT5.out.keep hb6)
          have HR6 := Lib.hid (HR5.out.keep hb6)
          have HB6 := Lib.hid (HB5.out.trans (hb6.mono HB5.out.size))
          clear hb6 HT5 HR5 HB5 HFK
          dsimp only
          obtain ⟨t0, t1, -, -⟩ := HT6.out.cells
          have hz6 := HB6.out.size
          go_wp2_with (at_builtin; refine wpList_append_own_at _ rfl (.tmp 33) (.tmp 35) 35 rfl w.heap.size 25 i0 (.agg #[.int .i64 0, .int .i64 0]) 2 16 Try.underlying35 hi hz0 hz1 hz2 rfl (by decide) _ _ _ rfl (HR6.out.keep ((Below.refl _ W6).alloc (Nat.le_refl _) _)) ⟨W6.heap.size, 0, none⟩ 1 1 [.int .i64 d, .int .i64 b] rfl rfl (World.news_of_block (heap_alloc_new W6 _)) (by simp [Value.oneCell']) (by first | (simp; unfold maxLen; omega) | (unfold maxLen; have := HL.out; omega)) (by have := HL.out; omega) (by simp; omega) ?_; intro v7 W7 hown7 hgrow7 _ hwhere7; have HR7 := Lib.hid (RgRow.snoc (l := takeR a c d b 1) hown7); have HB7 : Hid (Below w.heap.size w W7) := Lib.hid ((HB6.out.alloc hz6 _).grown hgrow7 (by simp; omega) (fun b hb => (HR6.out.lt b hb).1)); clear hown7 hgrow7 hwhere7)
          go_roundw
          case rel => exact ⟨2, by decide, rfl, by rw [take_part1, HP0.out]; exact HR7.out, HB7.out⟩
          case measure => simp [intOf]
        · have tk : decide (d < b) = false := decide_eq_false hk
          have HP0 : Hid (partR d b = []) := Lib.hid (part_no tk)
          have HFK : Hid (∀ W, Calls Try.prog 21 #[.agg #[.int .i64 d, .int .i64 b]] W fun e w' => e = .returned (.bool false) ∧ Below W.heap.size W w') := Lib.hid fun W => by have h := wifilled_any W d b; rw [tk] at h; exact h
          clear hk tk
          repeat (first | go_values | go_skip | go_guarded | go_step)
          refine calls_name ?_
          intro W5 hW5
          have HT5 : Hid (RgAt W5 W4.heap.size d b) := Lib.hid (by rw [hW5.out]; exact RgAt.new W4 d b)
          have hb5 : Below W4.heap.size W4 W5 := by rw [hW5.out]; exact (Below.refl _ W4).alloc (Nat.le_refl _) _
          have HR5 := Lib.hid (HR4.out.keep hb5)
          have HB5 := Lib.hid (HB4.out.trans (hb5.mono HB4.out.size))
          have HN5 : Hid (u5.ownBlock ≠ some W4.heap.size) := Lib.hid (fun h => by have := (HR4.out.lt _ h).2; omega)
          obtain ⟨T, hT⟩ : ∃ T, T = W4.heap.size := ⟨_, rfl⟩
          rw [← hT] at HT5 HN5 ⊢
          clear hb5 hW5 HR4 HB4 hT
          refine (HFK.out W5).mono ?_
          rintro e W6 ⟨rfl, hb6⟩
          have HT6 := Lib.hid (HT5.out.keep hb6)
          have HR6 := Lib.hid (HR5.out.keep hb6)
          have HB6 := Lib.hid (HB5.out.trans (hb6.mono HB5.out.size))
          clear hb6 HT5 HR5 HB5 HFK
          dsimp only
          obtain ⟨t0, t1, -, -⟩ := HT6.out.cells
          repeat (first | go_values | go_skip | go_guarded | go_step | go_upon)
          go_roundw
          case rel => exact ⟨2, by decide, rfl, by rw [take_part1, HP0.out]; rw [List.append_nil]; exact HR6.out, HB6.out⟩
          case measure => simp [intOf]
      · obtain rfl : u28 = .int .i64 2 := hc
        repeat (first | go_values | go_skip | go_guarded | go_step | go_upon)
        go_ret
        exact ⟨_, rfl, by rw [HC.out]; exact HR4.out, HB4.out⟩
  | false =>
    have HC : Hid (C = takeR a b b b 2) := Lib.hid (HCA.out rfl)
    obtain ⟨q0, q1, -, -⟩ := HA2.out.cells
    obtain ⟨g0, g1, g2, g3⟩ := HY2.out.cells
    go_upto_region 3 with fail
    refine wp_name fun W3 hW3 => ?_
    have ho : Only (fun k => k = P + 1) W2 W3 := by rw [hW3.out]; exact setRg_only W2 (P + 1) (.int .i64 b) (.int .i64 b)
    have HY3 : Hid (RgAt W3 (P + 1) b b) := Lib.hid (by rw [hW3.out]; exact HY2.out.set b b)
    have HA3 : Hid (RgAt W3 P a b) := Lib.hid (HA2.out.only ho (by omega))
    have HB3 : Hid (Below w.heap.size w W3) := Lib.hid (HB2.out.trans (ho.below HB2.out.size (fun k hk => by rw [hk, HQ.out]; omega)))
    clear ho hW3 q0 q1 g0 g1 g2 g3 HA2 HY2 HB2 HCM HCA HM
    obtain ⟨a0, a1, -, -⟩ := HA3.out.cells
    obtain ⟨b0, b1, -, -⟩ := HY3.out.cells
    repeat (first | go_values | go_skip | go_guarded | go_step)
    go_loopw [5, 28] (fun v z wr => ∃ k : Nat, k ≤ 2 ∧ z = .int .i64 k ∧ RgRow w.heap.size wr v (takeR a b b b k) ∧ Below w.heap.size w wr) (fun _ z _ => 2 - (intOf z).toNat)
    case atStart => exact ⟨0, by decide, rfl, RgRow.nil _ _, HB3.out⟩
    case round =>
      obtain ⟨k, hk, hc, hrow, hbw⟩ := hrel
      obtain ⟨W4, hW4⟩ : ∃ W4, W4 = wr := ⟨_, rfl⟩
      subst hW4
      have HR4 := Lib.hid hrow
      have HB4 := Lib.hid hbw
      have HL : Hid ((takeR a b b b k).length ≤ 2) := Lib.hid (take_len a b b b k)
      clear hrow hbw
      obtain rfl | rfl | rfl : k = 0 ∨ k = 1 ∨ k = 2 := by omega
      · obtain rfl : u28 = .int .i64 0 := hc
        have hx : (Instr.index 39 (.agg #[.int .i64 a, .int .i64 b, .int .i64 b, .int .i64 b]) (.int .i64 0)).run Try.prog W4 = .ok (.agg #[.int .i64 a, .int .i64 b]) W4 := run_index_agg W4 _ 25 2 2 _ _ .i64 0 Try.underlying39 _ Try.underlying25 rfl (by kernel_rfl) (by decide) rfl
        by_cases hk : a < b
        · have tk : decide (a < b) = true := decide_eq_true hk
          have HP0 : Hid (partR a b = [(a, b)]) := Lib.hid (part_yes tk)
          have HFK : Hid (∀ W, Calls Try.prog 21 #[.agg #[.int .i64 a, .int .i64 b]] W fun e w' => e = .returned (.bool true) ∧ Below W.heap.size W w') := Lib.hid fun W => by have h := wifilled_any W a b; rw [tk] at h; exact h
          clear hk tk
          repeat (first | go_values | go_skip | go_guarded | go_step)
          refine calls_name ?_
          intro W5 hW5
          have HT5 : Hid (RgAt W5 W4.heap.size a b) := Lib.hid (by rw [hW5.out]; exact RgAt.new W4 a b)
          have hb5 : Below W4.heap.size W4 W5 := by rw [hW5.out]; exact (Below.refl _ W4).alloc (Nat.le_refl _) _
          have HR5 := Lib.hid (HR4.out.keep hb5)
          have HB5 := Lib.hid (HB4.out.trans (hb5.mono HB4.out.size))
          have HN5 : Hid (u5.ownBlock ≠ some W4.heap.size) := Lib.hid (fun h => by have := (HR4.out.lt _ h).2; omega)
          obtain ⟨T, hT⟩ : ∃ T, T = W4.heap.size := ⟨_, rfl⟩
          rw [← hT] at HT5 HN5 ⊢
          clear hb5 hW5 HR4 HB4 hT
          refine (HFK.out W5).mono ?_
          rintro e W6 ⟨rfl, hb6⟩
          have HT6 := Lib.hid (HT5.out.keep hb6)
          have HR6 := Lib.hid (HR5.out.keep hb6)
          have HB6 := Lib.hid (HB5.out.trans (hb6.mono HB5.out.size))
          clear hb6 HT5 HR5 HB5 HFK
          dsimp only
          obtain ⟨t0, t1, -, -⟩ := HT6.out.cells
          have hz6 := HB6.out.size
          go_wp2_with (at_builtin; refine wpList_append_own_at _ rfl (.tmp 33) (.tmp 35) 35 rfl w.heap.size 25 i0 (.agg #[.int .i64 0, .int .i64 0]) 2 16 Try.underlying35 hi hz0 hz1 hz2 rfl (by decide) _ _ _ rfl (HR6.out.keep ((Below.refl _ W6).alloc (Nat.le_refl _) _)) ⟨W6.heap.size, 0, none⟩ 1 1 [.int .i64 a, .int .i64 b] rfl rfl (World.news_of_block (heap_alloc_new W6 _)) (by simp [Value.oneCell']) (by first | (simp; unfold maxLen; omega) | (unfold maxLen; have := HL.out; omega)) (by have := HL.out; omega) (by simp; omega) ?_; intro v7 W7 hown7 hgrow7 _ hwhere7; have HR7 := Lib.hid (RgRow.snoc (l := takeR a b b b 0) hown7); have HB7 : Hid (Below w.heap.size w W7) := Lib.hid ((HB6.out.alloc hz6 _).grown hgrow7 (by simp; omega) (fun b hb => (HR6.out.lt b hb).1)); clear hown7 hgrow7 hwhere7)
          go_roundw
          case rel => exact ⟨1, by decide, rfl, by rw [take_part0, HP0.out]; exact HR7.out, HB7.out⟩
          case measure => simp [intOf]
        · have tk : decide (a < b) = false := decide_eq_false hk
          have HP0 : Hid (partR a b = []) := Lib.hid (part_no tk)
          have HFK : Hid (∀ W, Calls Try.prog 21 #[.agg #[.int .i64 a, .int .i64 b]] W fun e w' => e = .returned (.bool false) ∧ Below W.heap.size W w') := Lib.hid fun W => by have h := wifilled_any W a b; rw [tk] at h; exact h
          clear hk tk
          repeat (first | go_values | go_skip | go_guarded | go_step)
          refine calls_name ?_
          intro W5 hW5
          have HT5 : Hid (RgAt W5 W4.heap.size a b) := Lib.hid (by rw [hW5.out]; exact RgAt.new W4 a b)
          have hb5 : Below W4.heap.size W4 W5 := by rw [hW5.out]; exact (Below.refl _ W4).alloc (Nat.le_refl _) _
          have HR5 := Lib.hid (HR4.out.keep hb5)
          have HB5 := Lib.hid (HB4.out.trans (hb5.mono HB4.out.size))
          have HN5 : Hid (u5.ownBlock ≠ some W4.heap.size) := Lib.hid (fun h => by have := (HR4.out.lt _ h).2; omega)
          obtain ⟨T, hT⟩ : ∃ T, T = W4.heap.size := ⟨_, rfl⟩
          rw [← hT] at HT5 HN5 ⊢
          clear hb5 hW5 HR4 HB4 hT
          refine (HFK.out W5).mono ?_
          rintro e W6 ⟨rfl, hb6⟩
          have HT6 := Lib.hid (HT5.out.keep hb6)
          have HR6 := Lib.hid (HR5.out.keep hb6)
          have HB6 := Lib.hid (HB5.out.trans (hb6.mono HB5.out.size))
          clear hb6 HT5 HR5 HB5 HFK
          dsimp only
          obtain ⟨t0, t1, -, -⟩ := HT6.out.cells
          repeat (first | go_values | go_skip | go_guarded | go_step | go_upon)
          go_roundw
          case rel => exact ⟨1, by decide, rfl, by rw [take_part0, HP0.out]; rw [List.append_nil]; exact HR6.out, HB6.out⟩
          case measure => simp [intOf]
      · obtain rfl : u28 = .int .i64 1 := hc
        have hx : (Instr.index 39 (.agg #[.int .i64 a, .int .i64 b, .int .i64 b, .int .i64 b]) (.int .i64 1)).run Try.prog W4 = .ok (.agg #[.int .i64 b, .int .i64 b]) W4 := run_index_agg W4 _ 25 2 2 _ _ .i64 1 Try.underlying39 _ Try.underlying25 rfl (by kernel_rfl) (by decide) rfl
        by_cases hk : b < b
        · have tk : decide (b < b) = true := decide_eq_true hk
          have HP0 : Hid (partR b b = [(b, b)]) := Lib.hid (part_yes tk)
          have HFK : Hid (∀ W, Calls Try.prog 21 #[.agg #[.int .i64 b, .int .i64 b]] W fun e w' => e = .returned (.bool true) ∧ Below W.heap.size W w') := Lib.hid fun W => by have h := wifilled_any W b b; rw [tk] at h; exact h
          clear hk tk
          repeat (first | go_values | go_skip | go_guarded | go_step)
          refine calls_name ?_
          intro W5 hW5
          have HT5 : Hid (RgAt W5 W4.heap.size b b) := Lib.hid (by rw [hW5.out]; exact RgAt.new W4 b b)
          have hb5 : Below W4.heap.size W4 W5 := by rw [hW5.out]; exact (Below.refl _ W4).alloc (Nat.le_refl _) _
          have HR5 := Lib.hid (HR4.out.keep hb5)
          have HB5 := Lib.hid (HB4.out.trans (hb5.mono HB4.out.size))
          have HN5 : Hid (u5.ownBlock ≠ some W4.heap.size) := Lib.hid (fun h => by have := (HR4.out.lt _ h).2; omega)
          obtain ⟨T, hT⟩ : ∃ T, T = W4.heap.size := ⟨_, rfl⟩
          rw [← hT] at HT5 HN5 ⊢
          clear hb5 hW5 HR4 HB4 hT
          refine (HFK.out W5).mono ?_
          rintro e W6 ⟨rfl, hb6⟩
          have HT6 := Lib.hid (HT5.out.keep hb6)
          have HR6 := Lib.hid (HR5.out.keep hb6)
          have HB6 := Lib.hid (HB5.out.trans (hb6.mono HB5.out.size))
          clear hb6 HT5 HR5 HB5 HFK
          dsimp only
          obtain ⟨t0, t1, -, -⟩ := HT6.out.cells
          have hz6 := HB6.out.size
          go_wp2_with (at_builtin; refine wpList_append_own_at _ rfl (.tmp 33) (.tmp 35) 35 rfl w.heap.size 25 i0 (.agg #[.int .i64 0, .int .i64 0]) 2 16 Try.underlying35 hi hz0 hz1 hz2 rfl (by decide) _ _ _ rfl (HR6.out.keep ((Below.refl _ W6).alloc (Nat.le_refl _) _)) ⟨W6.heap.size, 0, none⟩ 1 1 [.int .i64 b, .int .i64 b] rfl rfl (World.news_of_block (heap_alloc_new W6 _)) (by simp [Value.oneCell']) (by first | (simp; unfold maxLen; omega) | (unfold maxLen; have := HL.out; omega)) (by have := HL.out; omega) (by simp; omega) ?_; intro v7 W7 hown7 hgrow7 _ hwhere7; have HR7 := Lib.hid (RgRow.snoc (l := takeR a b b b 1) hown7); have HB7 : Hid (Below w.heap.size w W7) := Lib.hid ((HB6.out.alloc hz6 _).grown hgrow7 (by simp; omega) (fun b hb => (HR6.out.lt b hb).1)); clear hown7 hgrow7 hwhere7)
          go_roundw
          case rel => exact ⟨2, by decide, rfl, by rw [take_part1, HP0.out]; exact HR7.out, HB7.out⟩
          case measure => simp [intOf]
        · have tk : decide (b < b) = false := decide_eq_false hk
          have HP0 : Hid (partR b b = []) := Lib.hid (part_no tk)
          have HFK : Hid (∀ W, Calls Try.prog 21 #[.agg #[.int .i64 b, .int .i64 b]] W fun e w' => e = .returned (.bool false) ∧ Below W.heap.size W w') := Lib.hid fun W => by have h := wifilled_any W b b; rw [tk] at h; exact h
          clear hk tk
          repeat (first | go_values | go_skip | go_guarded | go_step)
          refine calls_name ?_
          intro W5 hW5
          have HT5 : Hid (RgAt W5 W4.heap.size b b) := Lib.hid (by rw [hW5.out]; exact RgAt.new W4 b b)
          have hb5 : Below W4.heap.size W4 W5 := by rw [hW5.out]; exact (Below.refl _ W4).alloc (Nat.le_refl _) _
          have HR5 := Lib.hid (HR4.out.keep hb5)
          have HB5 := Lib.hid (HB4.out.trans (hb5.mono HB4.out.size))
          have HN5 : Hid (u5.ownBlock ≠ some W4.heap.size) := Lib.hid (fun h => by have := (HR4.out.lt _ h).2; omega)
          obtain ⟨T, hT⟩ : ∃ T, T = W4.heap.size := ⟨_, rfl⟩
          rw [← hT] at HT5 HN5 ⊢
          clear hb5 hW5 HR4 HB4 hT
          refine (HFK.out W5).mono ?_
          rintro e W6 ⟨rfl, hb6⟩
          have HT6 := Lib.hid (HT5.out.keep hb6)
          have HR6 := Lib.hid (HR5.out.keep hb6)
          have HB6 := Lib.hid (HB5.out.trans (hb6.mono HB5.out.size))
          clear hb6 HT5 HR5 HB5 HFK
          dsimp only
          obtain ⟨t0, t1, -, -⟩ := HT6.out.cells
          repeat (first | go_values | go_skip | go_guarded | go_step | go_upon)
          go_roundw
          case rel => exact ⟨2, by decide, rfl, by rw [take_part1, HP0.out]; rw [List.append_nil]; exact HR6.out, HB6.out⟩
          case measure => simp [intOf]
      · obtain rfl : u28 = .int .i64 2 := hc
        repeat (first | go_values | go_skip | go_guarded | go_step | go_upon)
        go_ret
        exact ⟨_, rfl, by rw [HC.out]; exact HR4.out, HB4.out⟩
end Go.Proofs.Ytfbipeppnffmeaa
