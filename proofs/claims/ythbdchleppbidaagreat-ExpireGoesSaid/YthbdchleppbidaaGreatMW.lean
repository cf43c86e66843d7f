/- WiRow, WiRt, WiRg, WiSt, WiOf: laid into one. -/
import Derived.Test.YthbdchleppbidaaGreatMA
import Derived.Laws.ResultCell
import Derived.Test.YthbdchleppbidaaGreatMB
import Derived.Test.YthbdchleppbidaaGreatMC
/- Package window: a range stored, a range told. -/
namespace Go.Proofs.YthbdchleppbidaaGreat
open Go.RowKit

theorem ret_rg {fn : Func} {p : Tmp} (h : fn.results = #[.cell p 41]) {tmps : Array Value} {w : World} {Q : Nat} {x y : Value} (hp : tmps.getD p undef = .pointer (some ⟨Q, 0, none⟩)) (hq : w.heap[Q]? = some (.cells #[x, y] 41 (0, 0))) :
    (results fn tmps).run Tryz.prog w = .ok (.agg #[x, y]) w := by
  have c0 : w.cell? ⟨Q, 0, none⟩ = some x := by rw [cell_of_row w Q 0 _ _ _ hq]; rfl
  have c1 : w.cell? ⟨Q, 1, none⟩ = some y := by rw [cell_of_row w Q 1 _ _ _ hq]; rfl
  rw [results_cell h, hp]
  go_simp
theorem ret_rg2 {fn : Func} {p u : Tmp} (h : fn.results = #[.cell p 41, .tmp u]) {tmps : Array Value} {w : World} {Q : Nat} {x y : Value} (hp : tmps.getD p undef = .pointer (some ⟨Q, 0, none⟩)) (hq : w.heap[Q]? = some (.cells #[x, y] 41 (0, 0))) :
    (results fn tmps).run Tryz.prog w = .ok (.tuple #[.agg #[x, y], tmps.getD u undef]) w := by
  have c0 : w.cell? ⟨Q, 0, none⟩ = some x := by rw [cell_of_row w Q 0 _ _ _ hq]; rfl
  have c1 : w.cell? ⟨Q, 1, none⟩ = some y := by rw [cell_of_row w Q 1 _ _ _ hq]; rfl
  rw [results_cell_tmp h, hp]
  go_simp
/-- a range stored -/
def setRg (w : World) (P : Nat) (x y : Value) : World := (w.setCell ⟨P, 0, none⟩ x).setCell ⟨P, 1, none⟩ y
theorem setRg_only (w : World) (P : Nat) (x y : Value) : Only (fun k => k = P) w (setRg w P x y) :=
  (Only.setCell (S := fun k => k = P) _ rfl _).trans (Only.setCell (S := fun k => k = P) _ rfl _) (fun _ _ h => h)
theorem setRg_at {w : World} {P : Nat} {a b : Value} {t : TypeId} (h : w.heap[P]? = some (.cells #[a, b] t (0, 0))) (x y : Value) : (setRg w P x y).heap[P]? = some (.cells #[x, y] t (0, 0)) := by
  have h1 := heap_setCell_same w P 0 _ _ x h
  have h2 := heap_setCell_same _ P 1 _ _ y h1
  unfold setRg
  rw [h2]; simp
end Go.Proofs.YthbdchleppbidaaGreat
/- Package window: which ranges are right, what is in them. -/
namespace Go.Proofs.YthbdchleppbidaaGreat
open Go.RowKit

set_option maxHeartbeats 4000000 in
theorem wifilled_any (w : World) (a b : Int) :
    Calls Tryz.prog 92 #[.agg #[.int .i64 a, .int .i64 b]] w fun e w' => e = .returned (.bool (decide (a < b))) ∧ Below w.heap.size w w' := by
  go_enter Tryz.func92, Tryz.ntmps92
  go_wp2
  go_ret
  exact ⟨rfl, (Below.refl _ _).alloc (Nat.le_refl _) _⟩
set_option maxHeartbeats 4000000 in
theorem wiright_any (w : World) (a b : Int) :
    Calls Tryz.prog 45 #[.agg #[.int .i64 a, .int .i64 b]] w fun e w' => e = .returned (.bool (rightR a b)) ∧ Below w.heap.size w w' := by
  have HF : Hid (∀ W, Calls Tryz.prog 92 #[.agg #[.int .i64 a, .int .i64 b]] W fun e w' => e = .returned (.bool (decide (a < b))) ∧ Below W.heap.size W w') := Lib.hid fun W => wifilled_any W a b
  have HR : Hid (rightR a b = (decide (0 ≤ a) && decide (a < b) && decide (b ≤ 1099511627777))) := Lib.hid rfl
  by_cases h0 : 0 ≤ a
  · have t0 : decide (0 ≤ a) = true := decide_eq_true h0
    clear h0
    by_cases h1 : a < b
    · have t1 : decide (a < b) = true := decide_eq_true h1
      clear h1
      rw [t1] at HF
      go_enter Tryz.func45, Tryz.ntmps45
      repeat (first | go_values | go_skip | go_guarded | go_step)
      refine calls_name ?_
      intro W1 hW1
      obtain ⟨P, hP⟩ : ∃ P, P = w.heap.size := ⟨_, rfl⟩
      have HP : Hid (RgAt W1 P a b) := Lib.hid (by rw [hW1.out, hP]; exact RgAt.new w a b)
      have HB : Hid (Below w.heap.size w W1) := Lib.hid (by rw [hW1.out]; exact (Below.refl _ _).alloc (Nat.le_refl _) _)
      rw [← hP]
      clear hW1 hP
      refine (HF.out W1).mono ?_
      rintro e W2 ⟨rfl, hb⟩
      have HP2 := Lib.hid (HP.out.keep hb)
      have HB2 := Lib.hid (HB.out.trans (hb.mono HB.out.size))
      clear hb HP HB
      dsimp only
      obtain ⟨c0, c1, -, -⟩ := HP2.out.cells
      repeat (first | go_values | go_skip | go_guarded | go_step | go_upon)
      go_ret
      exact ⟨by rw [HR.out, t0, t1]; rfl, HB2.out⟩
    · have t1 : decide (a < b) = false := decide_eq_false h1
      clear h1
      rw [t1] at HF
      go_enter Tryz.func45, Tryz.ntmps45
      repeat (first | go_values | go_skip | go_guarded | go_step)
      refine calls_name ?_
      intro W1 hW1
      obtain ⟨P, hP⟩ : ∃ P, P = w.heap.size := ⟨_, rfl⟩
      have HP : Hid (RgAt W1 P a b) := Lib.hid (by rw [hW1.out, hP]; exact RgAt.new w a b)
      have HB : Hid (Below w.heap.size w W1) := Lib.hid (by rw [hW1.out]; exact (Below.refl _ _).alloc (Nat.le_refl _) _)
      rw [← hP]
      clear hW1 hP
      refine (HF.out W1).mono ?_
      rintro e W2 ⟨rfl, hb⟩
      have HP2 := Lib.hid (HP.out.keep hb)
      have HB2 := Lib.hid (HB.out.trans (hb.mono HB.out.size))
      clear hb HP HB
      dsimp only
      obtain ⟨c0, c1, -, -⟩ := HP2.out.cells
      repeat (first | go_values | go_skip | go_guarded | go_step | go_upon)
      go_ret
      exact ⟨by rw [HR.out, t0, t1]; rfl, HB2.out⟩
  · have t0 : decide (0 ≤ a) = false := decide_eq_false h0
    clear h0
    go_enter Tryz.func45, Tryz.ntmps45
    repeat (first | go_values | go_skip | go_guarded | go_step | go_upon)
    go_ret
    exact ⟨by rw [HR.out, t0]; rfl, (Below.refl _ _).alloc (Nat.le_refl _) _⟩
end Go.Proofs.YthbdchleppbidaaGreat
/- Package window: ranges: what two have in common. -/
namespace Go.Proofs.YthbdchleppbidaaGreat
open Go.RowKit

theorem RgAt.set {W : World} {P : Nat} {a b : Int} (h : RgAt W P a b) (x y : Int) : RgAt (setRg W P (.int .i64 x) (.int .i64 y)) P x y := setRg_at h _ _
/-- what two ranges have in common -/
def bothR (a b c d : Int) : Int × Int := if meetsR a b c d = true then (max a c, min b d) else (0, 0)
set_option maxHeartbeats 4000000 in
set_option maxRecDepth 100000 in
theorem wiboth_any (w : World) (a b c d : Int) :
    Calls Tryz.prog 87 #[.agg #[.int .i64 a, .int .i64 b], .agg #[.int .i64 c, .int .i64 d]] w fun e w' => e = .returned (.tuple #[.agg #[.int .i64 (bothR a b c d).1, .int .i64 (bothR a b c d).2], .bool (meetsR a b c d)]) ∧ Below w.heap.size w w' := by
  obtain ⟨p, hp⟩ : ∃ p, p = max a c := ⟨_, rfl⟩
  obtain ⟨q, hq⟩ : ∃ q, q = min b d := ⟨_, rfl⟩
  have em : (if a < c then c else a) = p := by rw [hp]; split <;> omega
  have en : (if d < b then d else b) = q := by rw [hq]; split <;> omega
  have HF : Hid (∀ W, Calls Tryz.prog 92 #[.agg #[.int .i64 p, .int .i64 q]] W fun e w' => e = .returned (.bool (meetsR a b c d)) ∧ Below W.heap.size W w') := Lib.hid fun W => by
    have h := wifilled_any W p q
    rw [hp, hq] at h ⊢
    exact h
  have HR : Hid (bothR a b c d = if meetsR a b c d = true then (p, q) else (0, 0)) := Lib.hid (by rw [hp, hq]; rfl)
  obtain ⟨R, hR⟩ : ∃ R, R = bothR a b c d := ⟨_, rfl⟩
  obtain ⟨M, hM⟩ : ∃ M, M = meetsR a b c d := ⟨_, rfl⟩
  rw [← hR, ← hM] at HR ⊢
  rw [← hM] at HF
  clear hR hM hp hq
  go_enter Tryz.func87, Tryz.ntmps87
  repeat (first | go_values | go_skip | go_guarded | go_step)
  refine calls_name ?_
  intro W1 hW1
  obtain ⟨P, hP⟩ : ∃ P, P = w.heap.size := ⟨_, rfl⟩
  have e2 : ((w.alloc (.cells #[.int .i64 a, .int .i64 b] 41)).alloc (.cells #[.int .i64 c, .int .i64 d] 41)).heap.size = P + 1 + 1 := by rw [hP]; simp
  have e3 : (((w.alloc (.cells #[.int .i64 a, .int .i64 b] 41)).alloc (.cells #[.int .i64 c, .int .i64 d] 41)).alloc (.cells #[.int .i64 0, .int .i64 0] 41)).heap.size = P + 1 + 1 + 1 := by rw [hP]; simp
  have HZ : Hid (RgAt W1 (P + 1 + 1) 0 0) := Lib.hid (by rw [hW1.out, ← e2]; exact (RgAt.new _ 0 0).old _)
  have HX : Hid (RgAt W1 (P + 1 + 1 + 1) p q) := Lib.hid (by rw [hW1.out, ← e3]; exact RgAt.new _ p q)
  have HB : Hid (Below w.heap.size w W1) := Lib.hid (by rw [hW1.out]; exact ((((Below.refl _ _).alloc (Nat.le_refl _) _).alloc (by simp) _).alloc (by simp; omega) _).alloc (by simp; omega) _)
  have HQ := Lib.hid hP
  rw [← hP]
  clear hW1 hP e2 e3
  refine (HF.out W1).mono ?_
  rintro e W2 ⟨rfl, hb⟩
  have HZ2 := Lib.hid (HZ.out.keep hb)
  have HX2 := Lib.hid (HX.out.keep hb)
  have HB2 := Lib.hid (HB.out.trans (hb.mono HB.out.size))
  clear hb HZ HX HB
  dsimp only
  obtain ⟨c0, c1, -, -⟩ := HX2.out.cells
  obtain ⟨z0, z1, f0, f1⟩ := HZ2.out.cells
  cases M with
  | false =>
    repeat (first | go_values | go_skip | go_guarded | go_step | go_upon)
    refine bodyPost_ret (ret_rg2 (Q := P + 1 + 1) rfl rfl (HZ2.out.set 0 0)) rfl ?_
    exact ⟨by rw [HR.out]; rfl, HB2.out.trans ((setRg_only _ _ _ _).below HB2.out.size (fun k hk => by rw [hk, HQ.out]; omega))⟩
  | true =>
    repeat (first | go_values | go_skip | go_guarded | go_step | go_upon)
    refine bodyPost_ret (ret_rg2 (Q := P + 1 + 1) rfl rfl (HZ2.out.set p q)) rfl ?_
    exact ⟨by rw [HR.out]; rfl, HB2.out.trans ((setRg_only _ _ _ _).below HB2.out.size (fun k hk => by rw [hk, HQ.out]; omega))⟩
set_option maxHeartbeats 4000000 in
set_option maxRecDepth 100000 in
theorem wimeets_any (w : World) (a b c d : Int) :
    Calls Tryz.prog 42 #[.agg #[.int .i64 a, .int .i64 b], .agg #[.int .i64 c, .int .i64 d]] w fun e w' => e = .returned (.bool (meetsR a b c d)) ∧ Below w.heap.size w w' := by
  have HX : Hid (∀ W, Calls Tryz.prog 87 #[.agg #[.int .i64 a, .int .i64 b], .agg #[.int .i64 c, .int .i64 d]] W fun e w' => (∃ p q, e = .returned (.tuple #[.agg #[.int .i64 p, .int .i64 q], .bool (meetsR a b c d)])) ∧ Below W.heap.size W w') := Lib.hid fun W => (wiboth_any W a b c d).mono fun e w' h => ⟨⟨_, _, h.1⟩, h.2⟩
  obtain ⟨M, hM⟩ : ∃ M, M = meetsR a b c d := ⟨_, rfl⟩
  rw [← hM] at HX ⊢
  clear hM
  go_enter Tryz.func42, Tryz.ntmps42
  repeat (first | go_values | go_skip | go_guarded | go_step)
  refine calls_name ?_
  intro W1 hW1
  have HB : Hid (Below w.heap.size w W1) := Lib.hid (by rw [hW1.out]; exact ((Below.refl _ _).alloc (Nat.le_refl _) _).alloc (by simp) _)
  clear hW1
  refine (HX.out W1).mono ?_
  rintro e W2 ⟨⟨p, q, rfl⟩, hb⟩
  have HB2 := Lib.hid (HB.out.trans (hb.mono HB.out.size))
  clear hb HB
  dsimp only
  repeat (first | go_values | go_skip | go_guarded | go_step | go_upon)
  go_ret
  exact ⟨rfl, HB2.out.alloc HB2.out.size _⟩
end Go.Proofs.YthbdchleppbidaaGreat
/- Package window: a tier's width, and where a window begins. -/
namespace Go.Proofs.YthbdchleppbidaaGreat
open Go.RowKit

set_option maxHeartbeats 2000000 in
theorem wiwidth_any (w : World) (t : Int) (h0 : -9223372036854775808 ≤ t) (h1 : t ≤ 9223372036854775807) :
    Calls Tryz.prog 90 #[.int .i64 t] w fun e w' => e = .returned (.int .i64 (widthW t)) ∧ w' = w := by
  rcases width_four t with ⟨rfl, e⟩ | ⟨rfl, e⟩ | ⟨rfl, e⟩ | ⟨n0, n1, n2, e⟩
  · rw [e]
    go_enter Tryz.func90, Tryz.ntmps90
    go_wp2
    go_ret
    exact ⟨rfl, rfl⟩
  · rw [e]
    go_enter Tryz.func90, Tryz.ntmps90
    go_wp2
    go_ret
    exact ⟨rfl, rfl⟩
  · rw [e]
    go_enter Tryz.func90, Tryz.ntmps90
    go_wp2
    go_ret
    exact ⟨rfl, rfl⟩
  · rw [e]
    have t0 : (t == 0) = false := by simpa using n0
    have t1 : (t == 1) = false := by simpa using n1
    have t2 : (t == 2) = false := by simpa using n2
    go_enter Tryz.func90, Tryz.ntmps90
    go_wp2
    go_ret
    exact ⟨rfl, rfl⟩
set_option maxHeartbeats 2000000 in
theorem wihas_any (w : World) (t a : Int) (h0 : -9223372036854775808 ≤ t) (h1 : t ≤ 9223372036854775807) :
    Calls Tryz.prog 88 #[.int .i64 t, .int .i64 a] w fun e w' => e = .returned (.bool (hasW t a)) ∧ w' = w := by
  have HW := Lib.hid (wiwidth_any w t h0 h1)
  obtain ⟨W, hW⟩ : ∃ W, W = widthW t := ⟨_, rfl⟩
  have HB : Hid (hasW t a = (decide (0 < W) && decide (0 ≤ a))) := Lib.hid (by rw [hW]; rfl)
  have hr : 0 ≤ W ∧ W ≤ 3600 := by rw [hW]; exact width_range t
  rw [← hW] at HW
  clear hW
  by_cases c : 0 < W
  · have tc : decide (0 < W) = true := decide_eq_true c
    by_cases d : 0 ≤ a
    · have td : decide (0 ≤ a) = true := decide_eq_true d
      go_enter Tryz.func88, Tryz.ntmps88
      go_wp2_with (go_at_call 90; refine HW.out.mono ?_; rintro e w1 ⟨rfl, rfl⟩)
      go_ret
      exact ⟨by rw [HB.out, tc, td]; rfl, rfl⟩
    · have td : decide (0 ≤ a) = false := decide_eq_false d
      go_enter Tryz.func88, Tryz.ntmps88
      go_wp2_with (go_at_call 90; refine HW.out.mono ?_; rintro e w1 ⟨rfl, rfl⟩)
      go_ret
      exact ⟨by rw [HB.out, tc, td]; rfl, rfl⟩
  · have tc : decide (0 < W) = false := decide_eq_false c
    go_enter Tryz.func88, Tryz.ntmps88
    go_wp2_with (go_at_call 90; refine HW.out.mono ?_; rintro e w1 ⟨rfl, rfl⟩)
    go_ret
    exact ⟨by rw [HB.out, tc]; rfl, rfl⟩
set_option maxHeartbeats 2000000 in
theorem wistart_any (w : World) (t a : Int) (h0 : -9223372036854775808 ≤ t) (h1 : t ≤ 9223372036854775807) (h2 : -9223372036854775808 ≤ a) (h3 : a ≤ 9223372036854775807) :
    Calls Tryz.prog 89 #[.int .i64 t, .int .i64 a] w fun e w' => e = .returned (.int .i64 (startW t a)) ∧ w' = w := by
  have HH := Lib.hid (wihas_any w t a h0 h1)
  have HW := Lib.hid (wiwidth_any w t h0 h1)
  cases hh : hasW t a with
  | false =>
    have hs : startW t a = 0 := by unfold startW; rw [hh]; rfl
    rw [hs]
    rw [hh] at HH
    go_enter Tryz.func89, Tryz.ntmps89
    go_wp2_with (go_at_call 88; refine HH.out.mono ?_; rintro e w1 ⟨rfl, rfl⟩)
    go_ret
    exact ⟨rfl, rfl⟩
  | true =>
    have hs : startW t a = a - a % widthW t := by unfold startW; rw [if_pos hh]
    rw [hs]
    rw [hh] at HH
    obtain ⟨W, hW⟩ : ∃ W, W = widthW t := ⟨_, rfl⟩
    have hi := has_iff.1 hh
    have hr : 0 < W ∧ W ≤ 3600 ∧ 0 ≤ a := by rw [hW]; exact ⟨hi.1, (width_range t).2, hi.2⟩
    rw [← hW] at HW ⊢
    clear hW hi hs hh
    have e1 : a.tmod W = a % W := Int.tmod_eq_emod_of_nonneg hr.2.2
    have r1 : 0 ≤ a % W := Int.emod_nonneg a (by omega)
    have r2 : a % W < W := Int.emod_lt_of_pos a hr.1
    have r3 : a % W ≤ a := by have h5 := Int.emod_add_mul_ediv a W; have h6 : 0 ≤ W * (a / W) := Int.mul_nonneg (by omega) (Int.ediv_nonneg hr.2.2 (by omega)); omega
    have e2 : wrap64 (a % W) = a % W := by first | (apply wrap64_id <;> omega) | (unfold wrap64; omega)
    have z1 : (W == 0) = false := by simp; omega
    go_enter Tryz.func89, Tryz.ntmps89
    go_wp2_with (first | (go_at_call 88; refine HH.out.mono ?_; rintro e w1 ⟨rfl, rfl⟩) | (go_at_call 90; refine HW.out.mono ?_; rintro e w1 ⟨rfl, rfl⟩))
    go_ret
    exact ⟨rfl, rfl⟩
end Go.Proofs.YthbdchleppbidaaGreat
/- Package window: the window of a tick, and whether it is closed. -/
namespace Go.Proofs.YthbdchleppbidaaGreat
open Go.RowKit

set_option maxHeartbeats 4000000 in
set_option maxRecDepth 100000 in
theorem wiof_any (w : World) (t a : Int) (h0 : -9223372036854775808 ≤ t) (h1 : t ≤ 9223372036854775807) (h2 : -9223372036854775808 ≤ a) (h3 : a ≤ 9223372036854775807) :
    Calls Tryz.prog 43 #[.int .i64 t, .int .i64 a] w fun e w' => e = .returned (.agg #[.int .i64 (startW t a), .int .i64 (endW t a)]) ∧ Below w.heap.size w w' := by
  have HH : Hid (∀ W, Calls Tryz.prog 88 #[.int .i64 t, .int .i64 a] W fun e w' => e = .returned (.bool (hasW t a)) ∧ w' = W) := Lib.hid fun W => wihas_any W t a h0 h1
  have HS : Hid (∀ W, Calls Tryz.prog 89 #[.int .i64 t, .int .i64 a] W fun e w' => e = .returned (.int .i64 (startW t a)) ∧ w' = W) := Lib.hid fun W => wistart_any W t a h0 h1 h2 h3
  have HW : Hid (∀ W, Calls Tryz.prog 90 #[.int .i64 t] W fun e w' => e = .returned (.int .i64 (widthW t)) ∧ w' = W) := Lib.hid fun W => wiwidth_any W t h0 h1
  obtain ⟨S, hS⟩ : ∃ S, S = startW t a := ⟨_, rfl⟩
  obtain ⟨E, hE⟩ : ∃ E, E = endW t a := ⟨_, rfl⟩
  have HEQ : Hid (S = startW t a ∧ E = endW t a) := Lib.hid ⟨hS, hE⟩
  have hr := start_range t h3
  rw [← hS, ← hE]
  rw [← hS] at HS hr
  clear hS hE
  go_enter Tryz.func43, Tryz.ntmps43
  repeat (first | go_values | go_skip | go_guarded | go_step)
  refine calls_name ?_
  intro W1 hW1
  obtain ⟨P, hP⟩ : ∃ P, P = w.heap.size := ⟨_, rfl⟩
  have HP1 : Hid (W1.heap[P]? = some (.cells #[.int .i64 0, .int .i64 0] 41 (0, 0))) := Lib.hid (by rw [hW1.out, hP]; exact heap_alloc_new w _)
  have HB1 : Hid (Below w.heap.size w W1) := Lib.hid (by rw [hW1.out]; exact (Below.refl _ _).alloc (Nat.le_refl _) _)
  have HQ := Lib.hid hP
  rw [← hP]
  clear hW1 hP
  refine (HH.out W1).mono ?_
  rintro e Wx ⟨rfl, hw⟩; replace hw := hw.symm; subst hw
  dsimp only
  obtain ⟨c0, c1, f0, f1⟩ := cells2 HP1.out
  cases hh : hasW t a with
  | false =>
    have hs : startW t a = 0 := by unfold startW; rw [hh]; rfl
    have he : endW t a = 0 := by unfold endW; rw [hh]; rfl
    obtain rfl : S = 0 := HEQ.out.1.trans hs
    obtain rfl : E = 0 := HEQ.out.2.trans he
    clear hs he
    repeat (first | go_values | go_skip | go_guarded | go_step | go_upon)
    refine bodyPost_ret (ret_rg (Q := P) rfl rfl (setRg_at HP1.out (.int .i64 0) (.int .i64 0))) rfl ?_
    exact ⟨rfl, HB1.out.trans ((setRg_only _ _ _ _).below HB1.out.size (fun k hk => by rw [hk, HQ.out]; exact Nat.le_refl _))⟩
  | true =>
    have he : endW t a = startW t a + min (widthW t) (9223372036854775807 - startW t a) := by unfold endW; rw [if_pos hh]
    have hv := width_range t
    have hv0 := (has_iff.1 hh).1
    obtain ⟨W, hW⟩ : ∃ W, W = widthW t := ⟨_, rfl⟩
    rw [← hW] at HW hv hv0
    obtain ⟨M, hM⟩ : ∃ M, M = min W (9223372036854775807 - S) := ⟨_, rfl⟩
    obtain rfl : E = S + M := HEQ.out.2.trans (by rw [he, ← HEQ.out.1, hM, hW])
    have em : (if 9223372036854775807 - S < W then 9223372036854775807 - S else W) = M := by rw [hM]; split <;> omega
    have e2 : wrap64 (S + M) = S + M := by first | (apply wrap64_id <;> omega) | (unfold wrap64; omega)
    clear hM
    clear hW hh he HEQ
    repeat (first | go_values | go_skip | go_guarded | go_step)
    refine (HS.out W1).mono ?_
    rintro e Wx ⟨rfl, hw⟩; replace hw := hw.symm; subst hw
    dsimp only
    repeat (first | go_values | go_skip | go_guarded | go_step)
    refine (HW.out W1).mono ?_
    rintro e Wx ⟨rfl, hw⟩; replace hw := hw.symm; subst hw
    dsimp only
    have e1 : wrap64 (9223372036854775807 - S) = 9223372036854775807 - S := by first | (apply wrap64_id <;> omega) | (unfold wrap64; omega)
    repeat (first | go_values | go_skip | go_guarded | go_step | go_upon)
    refine bodyPost_ret (ret_rg (Q := P) rfl rfl (setRg_at HP1.out (.int .i64 S) (.int .i64 (S + M)))) rfl ?_
    exact ⟨rfl, HB1.out.trans ((setRg_only _ _ _ _).below HB1.out.size (fun k hk => by rw [hk, HQ.out]; exact Nat.le_refl _))⟩
end Go.Proofs.YthbdchleppbidaaGreat
