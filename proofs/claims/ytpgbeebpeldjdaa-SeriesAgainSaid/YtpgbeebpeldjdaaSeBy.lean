/- Package series: which ticks may be put; ticks compared; points cloned. -/
import Derived.Test.YtpgbeebpeldjdaaPtRow
import Derived.Test.YtpgbeebpeldjdaaGenOpC
import Derived.Test.YtpgbeebpeldjdaaSeC
import Derived.Maps.AppendAt
namespace Go.Proofs.Ytpgbeebpeldjdaa
open Go.RowKit

/-- a point in a block of its own -/
def PtAt (W : World) (P : Nat) (p : Pt) : Prop := W.heap[P]? = some (.cells #[.int .i64 p.a, .int .i64 p.v] 26 (0, 0))
theorem PtAt.keep {W W' : World} {P : Nat} {p : Pt} (h : PtAt W P p) (hb : Below W.heap.size W W') : PtAt W' P p := (hb.block P (lt_of_block h)).trans h
theorem PtAt.old {W : World} {P : Nat} {p : Pt} (h : PtAt W P p) (o : Obj) : PtAt (W.alloc o) P p := (Below.heap_alloc _ _ _ (lt_of_block h)).trans h
theorem PtAt.new (W : World) (p : Pt) : PtAt (W.alloc (.cells #[.int .i64 p.a, .int .i64 p.v] 26)) W.heap.size p := heap_alloc_new W _
theorem PtAt.cells {W : World} {P : Nat} {p : Pt} (h : PtAt W P p) : W.cell? ⟨P, 0, none⟩ = some (.int .i64 p.a) ∧ W.cell? ⟨P, 1, none⟩ = some (.int .i64 p.v) ∧ W.frozen? ⟨P, 0, none⟩ = false ∧ W.frozen? ⟨P, 1, none⟩ = false := cells2 h
theorem PtAt.only {S : Nat → Prop} {W W' : World} {P : Nat} {p : Pt} (h : PtAt W P p) (ho : Only S W W') (hS : ¬ S P) : PtAt W' P p := (ho.block P (lt_of_block h) hS).trans h
/-- a point as a value -/
def Pt.val (p : Pt) : Value := .agg #[.int .i64 p.a, .int .i64 p.v]

/-- may a tick not be put? -/
def outP (p : Pt) : Bool := decide (p.a < 0) || decide (1099511627776 < p.a)
set_option maxHeartbeats 4000000 in
theorem seout_any (w : World) (p : Pt) :
    Calls Try.prog 20 #[.agg #[.int .i64 p.a, .int .i64 p.v]] w fun e w' => e = .returned (.bool (outP p)) ∧ Below w.heap.size w w' := by
  have HR : Hid (outP p = (decide (p.a < 0) || decide (1099511627776 < p.a))) := Lib.hid rfl
  obtain ⟨R, hR⟩ : ∃ R, R = outP p := ⟨_, rfl⟩
  rw [← hR] at HR ⊢
  obtain ⟨a, v⟩ := p
  simp only at HR ⊢
  clear hR
  by_cases h0 : a < 0
  · have t0 : decide (a < 0) = true := decide_eq_true h0
    clear h0
    go_enter Try.func20, Try.ntmps20
    repeat (first | go_values | go_skip | go_guarded | go_step | go_upon)
    go_ret
    exact ⟨by rw [HR.out, t0]; rfl, (Below.refl _ _).alloc (Nat.le_refl _) _⟩
  · have t0 : decide (a < 0) = false := decide_eq_false h0
    clear h0
    go_enter Try.func20, Try.ntmps20
    repeat (first | go_values | go_skip | go_guarded | go_step | go_upon)
    go_ret
    exact ⟨by rw [HR.out, t0]; rfl, (Below.refl _ _).alloc (Nat.le_refl _) _⟩

/-- which of two is the greater one -/
def cmpI (x y : Int) : Int := if x < y then -1 else if y < x then 1 else 0
theorem senan_any (w : World) (x : Int) : Calls Try.prog 39 #[.int .i64 x] w fun e w' => e = .returned (.bool false) ∧ w' = w := by
  have t0 : (x != x) = false := by simp
  go_enter Try.func39, Try.ntmps39
  go_wp2
  go_ret
  exact ⟨rfl, rfl⟩
set_option maxHeartbeats 4000000 in
theorem secmp_any (w : World) (x y : Int) : Calls Try.prog 34 #[.int .i64 x, .int .i64 y] w fun e w' => e = .returned (.int .i64 (cmpI x y)) ∧ w' = w := by
  have HX : Hid (∀ W, Calls Try.prog 39 #[.int .i64 x] W fun e w' => e = .returned (.bool false) ∧ w' = W) := Lib.hid fun W => senan_any W x
  have HY : Hid (∀ W, Calls Try.prog 39 #[.int .i64 y] W fun e w' => e = .returned (.bool false) ∧ w' = W) := Lib.hid fun W => senan_any W y
  have HR : Hid (cmpI x y = if x < y then -1 else if y < x then 1 else 0) := Lib.hid rfl
  obtain ⟨R, hR⟩ : ∃ R, R = cmpI x y := ⟨_, rfl⟩
  rw [← hR] at HR ⊢
  clear hR
  go_enter Try.func34, Try.ntmps34
  repeat (first | go_values | go_skip | go_guarded | go_step)
  refine (HX.out w).mono ?_
  rintro e W1 ⟨rfl, rfl⟩
  dsimp only
  repeat (first | go_values | go_skip | go_guarded | go_step)
  refine (HY.out W1).mono ?_
  rintro e W2 ⟨rfl, rfl⟩
  dsimp only
  by_cases h0 : x < y
  · have HE : Hid (R = -1) := Lib.hid (by rw [HR.out, if_pos h0])
    have t0 : decide (x < y) = true := decide_eq_true h0
    clear h0
    go_wp2
    go_ret
    exact ⟨by rw [HE.out]; rfl, rfl⟩
  · have t0 : decide (x < y) = false := decide_eq_false h0
    by_cases h1 : y < x
    · have HE : Hid (R = 1) := Lib.hid (by rw [HR.out, if_neg h0, if_pos h1])
      have t1 : decide (y < x) = true := decide_eq_true h1
      clear h0 h1
      go_wp2
      go_ret
      exact ⟨by rw [HE.out]; rfl, rfl⟩
    · have HE : Hid (R = 0) := Lib.hid (by rw [HR.out, if_neg h0, if_neg h1])
      have t1 : decide (y < x) = false := decide_eq_false h1
      clear h0 h1
      go_wp2
      go_ret
      exact ⟨by rw [HE.out]; rfl, rfl⟩
set_option maxHeartbeats 4000000 in
theorem seat_any (w : World) (a v x : Int) : Calls Try.prog 33 #[.agg #[.int .i64 a, .int .i64 v], .int .i64 x] w fun e w' => e = .returned (.int .i64 (cmpI a x)) ∧ Below w.heap.size w w' := by
  have HC : Hid (∀ W, Calls Try.prog 34 #[.int .i64 a, .int .i64 x] W fun e w' => e = .returned (.int .i64 (cmpI a x)) ∧ w' = W) := Lib.hid fun W => secmp_any W a x
  obtain ⟨R, hR⟩ : ∃ R, R = cmpI a x := ⟨_, rfl⟩
  rw [← hR] at HC ⊢
  clear hR
  go_enter Try.func33, Try.ntmps33
  repeat (first | go_values | go_skip | go_guarded | go_step)
  refine (HC.out _).mono ?_
  rintro e W2 ⟨rfl, rfl⟩
  go_wp2
  go_ret
  exact ⟨rfl, (Below.refl _ _).alloc (Nat.le_refl _) _⟩
end Go.Proofs.Ytpgbeebpeldjdaa
