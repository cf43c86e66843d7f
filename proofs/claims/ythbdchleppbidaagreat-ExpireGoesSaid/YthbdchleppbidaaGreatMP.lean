/- PolAt, PoOf, PoMay: laid into one. -/
import Derived.Test.YthbdchleppbidaaGreatMA
import Derived.Laws.ResultCell
import Derived.Test.YthbdchleppbidaaGreatML
import Derived.Test.YthbdchleppbidaaGreatMC
import Derived.Lib.MinMax
import Derived.Deep.DeepCutAuto
import Derived.StillTailTactics
/- A policy in a block of its own. No function of the program. -/
namespace Go.Proofs.YthbdchleppbidaaGreat
open Go.RowKit

/-- a policy in a block of its own -/
def PolAt (W : World) (P : Nat) (a b c : Int) : Prop := W.heap[P]? = some (.cells #[.int .i64 a, .int .i64 b, .int .i64 c] 25 (0, 0))
theorem PolAt.keep {W W' : World} {P : Nat} {a b c : Int} (h : PolAt W P a b c) (hb : Below W.heap.size W W') : PolAt W' P a b c := (hb.block P (lt_of_block h)).trans h
theorem PolAt.old {W : World} {P : Nat} {a b c : Int} (h : PolAt W P a b c) (o : Obj) : PolAt (W.alloc o) P a b c := (Below.heap_alloc _ _ _ (lt_of_block h)).trans h
theorem PolAt.new (W : World) (a b c : Int) : PolAt (W.alloc (.cells #[.int .i64 a, .int .i64 b, .int .i64 c] 25)) W.heap.size a b c := heap_alloc_new W _
theorem PolAt.cells {W : World} {P : Nat} {a b c : Int} (h : PolAt W P a b c) : W.cell? ⟨P, 0, none⟩ = some (.int .i64 a) ∧ W.cell? ⟨P, 1, none⟩ = some (.int .i64 b) ∧ W.cell? ⟨P, 2, none⟩ = some (.int .i64 c) ∧
    W.frozen? ⟨P, 0, none⟩ = false ∧ W.frozen? ⟨P, 1, none⟩ = false ∧ W.frozen? ⟨P, 2, none⟩ = false := cells3 h
theorem PolAt.only {S : Nat → Prop} {W W' : World} {P : Nat} {a b c : Int} (h : PolAt W P a b c) (ho : Only S W W') (hS : ¬ S P) : PolAt W' P a b c := (ho.block P (lt_of_block h) hS).trans h
theorem PolAt.drew {W : World} {P : Nat} {a b c : Int} (h : PolAt W P a b c) : PolAt W.drew P a b c := h
theorem ret_pol {fn : Func} {p : Tmp} (h : fn.results = #[.cell p 25]) {tmps : Array Value} {w : World} {Q : Nat} {x y z : Value} (hp : tmps.getD p undef = .pointer (some ⟨Q, 0, none⟩)) (hq : w.heap[Q]? = some (.cells #[x, y, z] 25 (0, 0))) :
    (results fn tmps).run Tryz.prog w = .ok (.agg #[x, y, z]) w := by
  have c0 : w.cell? ⟨Q, 0, none⟩ = some x := by rw [cell_of_row w Q 0 _ _ _ hq]; rfl
  have c1 : w.cell? ⟨Q, 1, none⟩ = some y := by rw [cell_of_row w Q 1 _ _ _ hq]; rfl
  have c2 : w.cell? ⟨Q, 2, none⟩ = some z := by rw [cell_of_row w Q 2 _ _ _ hq]; rfl
  rw [results_cell h, hp]
  go_simp
/-- a policy stored -/
def setPol (w : World) (P : Nat) (x y z : Value) : World := ((w.setCell ⟨P, 0, none⟩ x).setCell ⟨P, 1, none⟩ y).setCell ⟨P, 2, none⟩ z
theorem setPol_only (w : World) (P : Nat) (x y z : Value) : Only (fun k => k = P) w (setPol w P x y z) :=
  ((Only.setCell (S := fun k => k = P) _ rfl _).trans (Only.setCell (S := fun k => k = P) _ rfl _) (fun _ _ h => h)).trans (Only.setCell (S := fun k => k = P) _ rfl _) (fun _ _ h => h)
theorem setPol_at {w : World} {P : Nat} {a b c : Value} {t : TypeId} (h : w.heap[P]? = some (.cells #[a, b, c] t (0, 0))) (x y z : Value) : (setPol w P x y z).heap[P]? = some (.cells #[x, y, z] t (0, 0)) := by
  have h1 := heap_setCell_same w P 0 _ _ x h
  have h2 := heap_setCell_same _ P 1 _ _ y h1
  have h3 := heap_setCell_same _ P 2 _ _ z h2
  unfold setPol
  rw [h3]; simp
theorem PolAt.set {W : World} {P : Nat} {a b c : Int} (h : PolAt W P a b c) (x y z : Int) : PolAt (setPol W P (.int .i64 x) (.int .i64 y) (.int .i64 z)) P x y z := setPol_at h _ _ _
end Go.Proofs.YthbdchleppbidaaGreat
/- Package policy: Of, Bound, Gone, Stricter. -/
namespace Go.Proofs.YthbdchleppbidaaGreat
open Go.RowKit

set_option maxHeartbeats 4000000 in
set_option maxRecDepth 100000 in
theorem poof_any (w : World) (a b c k : Int) :
    Calls Tryz.prog 94 #[.agg #[.int .i64 a, .int .i64 b, .int .i64 c], .int .i64 k] w fun e w' => e = .returned (.int .i64 (ofP a b c k)) ∧ Below w.heap.size w w' := by
  have HR : Hid (ofP a b c k = if k = 0 then a else if k = 1 then b else if k = 2 then c else 0) := Lib.hid rfl
  go_enter Tryz.func94, Tryz.ntmps94
  go_wp2
  all_goals go_ret
  all_goals refine ⟨ret_i64 (HR.out.trans ?_).symm, (Below.refl _ _).alloc (Nat.le_refl _) _⟩
  all_goals (first | rfl | (simp_all; done))
set_option maxHeartbeats 4000000 in
set_option maxRecDepth 100000 in
theorem pobound_any (w : World) (a b c k now : Int) (hn : -9223372036854775808 ≤ now ∧ now ≤ 9223372036854775807) :
    Calls Tryz.prog 76 #[.agg #[.int .i64 a, .int .i64 b, .int .i64 c], .int .i64 k, .int .i64 now] w fun e w' => e = .returned (.tuple #[.int .i64 (boundP (ofP a b c k) now), .bool (someP (ofP a b c k) now)]) ∧ Below w.heap.size w w' := by
  have HO : Hid (∀ W, Calls Tryz.prog 94 #[.agg #[.int .i64 a, .int .i64 b, .int .i64 c], .int .i64 k] W fun e w' => e = .returned (.int .i64 (ofP a b c k)) ∧ Below W.heap.size W w') := Lib.hid fun W => poof_any W a b c k
  obtain ⟨n, hN⟩ : ∃ n, n = ofP a b c k := ⟨_, rfl⟩
  rw [← hN] at HO ⊢
  clear hN
  have HB : Hid (boundP n now = if someP n now = true then now - n else 0) := Lib.hid rfl
  have HS : Hid (someP n now = (decide (0 < n) && decide (n ≤ now))) := Lib.hid rfl
  go_enter Tryz.func76, Tryz.ntmps76
  go_upto_region 1 with fail
  refine wp_name fun W1 hW1 => ?_
  obtain ⟨P, hP⟩ : ∃ P, P = w.heap.size := ⟨_, rfl⟩
  have HP : Hid (PolAt W1 P a b c) := Lib.hid (by rw [hW1.out, hP]; exact PolAt.new w a b c)
  have HB1 : Hid (Below w.heap.size w W1) := Lib.hid (by rw [hW1.out]; exact (Below.refl _ _).alloc (Nat.le_refl _) _)
  rw [← hP]
  obtain ⟨c0, c1, c2, -, -, -⟩ := HP.out.cells
  clear hW1 hP
  go_wp2_with fail
  refine (HO.out W1).mono ?_
  rintro e W2 ⟨rfl, hb⟩
  have HB2 := Lib.hid (HB1.out.trans (hb.mono HB1.out.size))
  clear hb c0 c1 c2 HP HB1
  dsimp only
  by_cases h0 : n ≤ 0
  · have t0 : decide (n ≤ 0) = true := decide_eq_true h0
    go_wp2
    go_ret2
    have e1 : someP n now = false := by rw [HS.out, decide_eq_false (by omega)]; rfl
    exact ⟨by rw [HB.out, e1]; rfl, HB2.out⟩
  · have t0 : decide (n ≤ 0) = false := decide_eq_false h0
    by_cases h1 : now < n
    · have t1 : decide (now < n) = true := decide_eq_true h1
      go_wp2
      go_ret2
      have e1 : someP n now = false := by rw [HS.out, decide_eq_false (show ¬ n ≤ now by omega), Bool.and_false]
      exact ⟨by rw [HB.out, e1]; rfl, HB2.out⟩
    · have t1 : decide (now < n) = false := decide_eq_false h1
      go_wp2
      go_ret2
      have e1 : someP n now = true := by rw [HS.out, decide_eq_true (show n ≤ now by omega), decide_eq_true (show 0 < n by omega)]; rfl
      exact ⟨by rw [HB.out, e1]; rfl, HB2.out⟩
set_option maxHeartbeats 4000000 in
set_option maxRecDepth 100000 in
theorem pogone_any (w : World) (a b c k frm hi now : Int) (hn : -9223372036854775808 ≤ now ∧ now ≤ 9223372036854775807) :
    Calls Tryz.prog 35 #[.agg #[.int .i64 a, .int .i64 b, .int .i64 c], .int .i64 k, .agg #[.int .i64 frm, .int .i64 hi], .int .i64 now] w fun e w' => e = .returned (.bool (goneP (ofP a b c k) hi now)) ∧ Below w.heap.size w w' := by
  have HO : Hid (∀ W, Calls Tryz.prog 76 #[.agg #[.int .i64 a, .int .i64 b, .int .i64 c], .int .i64 k, .int .i64 now] W fun e w' => e = .returned (.tuple #[.int .i64 (boundP (ofP a b c k) now), .bool (someP (ofP a b c k) now)]) ∧ Below W.heap.size W w') := Lib.hid fun W => pobound_any W a b c k now hn
  obtain ⟨n, hN⟩ : ∃ n, n = ofP a b c k := ⟨_, rfl⟩
  rw [← hN] at HO ⊢
  clear hN
  have HB : Hid (boundP n now = if someP n now = true then now - n else 0) := Lib.hid rfl
  have HG : Hid (goneP n hi now = (someP n now && decide (hi ≤ now - n))) := Lib.hid rfl
  obtain ⟨B, hB⟩ : ∃ B, B = boundP n now := ⟨_, rfl⟩
  obtain ⟨M, hM⟩ : ∃ M, M = someP n now := ⟨_, rfl⟩
  rw [← hM, ← hB] at HB HO
  rw [← hM] at HG
  clear hB hM
  go_enter Tryz.func35, Tryz.ntmps35
  go_upto_region 1 with fail
  refine wp_name fun W1 hW1 => ?_
  obtain ⟨P, hP⟩ : ∃ P, P = w.heap.size := ⟨_, rfl⟩
  have e2 : (w.alloc (.cells #[.int .i64 a, .int .i64 b, .int .i64 c] 25)).heap.size = P + 1 := by rw [hP]; simp
  have HP : Hid (PolAt W1 P a b c) := Lib.hid (by rw [hW1.out, hP]; exact (PolAt.new w a b c).old _)
  have HR : Hid (RgAt W1 (P + 1) frm hi) := Lib.hid (by rw [hW1.out, ← e2]; exact RgAt.new _ frm hi)
  have HB1 : Hid (Below w.heap.size w W1) := Lib.hid (by rw [hW1.out]; exact ((Below.refl _ _).alloc (Nat.le_refl _) _).alloc (by simp) _)
  rw [← hP]
  obtain ⟨c0, c1, c2, -, -, -⟩ := HP.out.cells
  clear hW1 hP e2
  go_wp2_with fail
  refine (HO.out W1).mono ?_
  rintro e W2 ⟨rfl, hb⟩
  have HB2 := Lib.hid (HB1.out.trans (hb.mono HB1.out.size))
  have HR2 := Lib.hid (HR.out.keep hb)
  clear hb c0 c1 c2 HP HB1 HR
  dsimp only
  obtain ⟨r0, r1, -, -⟩ := HR2.out.cells
  cases M with
  | false =>
    go_wp2
    go_ret
    exact ⟨by rw [HG.out]; rfl, HB2.out⟩
  | true =>
    go_wp2
    go_ret
    have e1 : B = now - n := by have := HB.out; simpa using this
    exact ⟨by rw [HG.out, e1]; rfl, HB2.out⟩
end Go.Proofs.YthbdchleppbidaaGreat
/- Package policy: Right. -/
namespace Go.Proofs.YthbdchleppbidaaGreat
open Go.RowKit

theorem ret_boolM {x y : Bool} (h : x = y) : Ending.returned (.bool x) = .returned (.bool y) := by rw [h]
/-- is a number one that a policy may have? -/
def withinP (n : Int) : Bool := decide (0 ≤ n) && decide (n ≤ 1099511627776)
/-- is a number less than another one, 0 more than any? -/
def lessN (a b : Int) : Bool := !(a == 0) && ((b == 0) || decide (a < b))
set_option maxHeartbeats 4000000 in
theorem powithin_any (w : World) (n : Int) : Calls Tryz.prog 69 #[.int .i64 n] w fun e w' => e = .returned (.bool (withinP n)) ∧ w' = w := by
  have HR : Hid (withinP n = (decide (0 ≤ n) && decide (n ≤ 1099511627776))) := Lib.hid rfl
  by_cases h : 0 ≤ n
  · have t0 : decide (0 ≤ n) = true := decide_eq_true h
    go_enter Tryz.func69, Tryz.ntmps69
    go_wp2
    go_ret
    exact ⟨by rw [HR.out, t0]; rfl, rfl⟩
  · have t0 : decide (0 ≤ n) = false := decide_eq_false h
    go_enter Tryz.func69, Tryz.ntmps69
    go_wp2
    go_ret
    exact ⟨by rw [HR.out, t0]; rfl, rfl⟩
set_option maxHeartbeats 4000000 in
theorem poless_any (w : World) (a b : Int) : Calls Tryz.prog 70 #[.int .i64 a, .int .i64 b] w fun e w' => e = .returned (.bool (lessN a b)) ∧ w' = w := by
  have HR : Hid (lessN a b = (!(a == 0) && ((b == 0) || decide (a < b)))) := Lib.hid rfl
  cases ha : a == 0 with
  | true =>
    have ha2 : (a != 0) = false := by simp only [bne, ha, Bool.not_true]
    rw [ha] at HR
    go_enter Tryz.func70, Tryz.ntmps70
    go_wp2
    go_ret
    exact ⟨by rw [HR.out]; rfl, rfl⟩
  | false =>
    have ha2 : (a != 0) = true := by simp only [bne, ha, Bool.not_false]
    rw [ha] at HR
    cases hb : b == 0 with
    | true =>
      rw [hb] at HR
      go_enter Tryz.func70, Tryz.ntmps70
      go_wp2
      go_ret
      exact ⟨by rw [HR.out]; rfl, rfl⟩
    | false =>
      rw [hb] at HR
      go_enter Tryz.func70, Tryz.ntmps70
      go_wp2
      go_ret
      exact ⟨by rw [HR.out]; rfl, rfl⟩
theorem right_bool (a b c : Int) : rightP a b c = (withinP a && withinP b && withinP c && !lessN b a && !lessN c b) := by
  unfold rightP withinP lessN
  rw [Bool.eq_iff_iff, decide_eq_true_eq]
  simp only [Bool.and_eq_true, decide_eq_true_eq, Bool.not_eq_true', Bool.and_eq_false_iff, Bool.not_eq_false', beq_iff_eq, Bool.or_eq_false_iff, decide_eq_false_iff_not, beq_eq_false_iff_ne]
  unfold RightP
  omega
set_option maxHeartbeats 4000000 in
set_option maxRecDepth 100000 in
theorem poright_any (w : World) (a b c : Int) :
    Calls Tryz.prog 31 #[.agg #[.int .i64 a, .int .i64 b, .int .i64 c]] w fun e w' => e = .returned (.bool (rightP a b c)) ∧ Below w.heap.size w w' := by
  have HR : Hid (rightP a b c = (withinP a && withinP b && withinP c && !lessN b a && !lessN c b)) := Lib.hid (right_bool a b c)
  have HWA := Lib.hid fun W => powithin_any W a
  have HWB := Lib.hid fun W => powithin_any W b
  have HWC := Lib.hid fun W => powithin_any W c
  have HLB := Lib.hid fun W => poless_any W b a
  have HLC := Lib.hid fun W => poless_any W c b
  obtain ⟨WA, h1⟩ : ∃ x, x = withinP a := ⟨_, rfl⟩
  obtain ⟨WB, h2⟩ : ∃ x, x = withinP b := ⟨_, rfl⟩
  obtain ⟨WC, h3⟩ : ∃ x, x = withinP c := ⟨_, rfl⟩
  obtain ⟨LB, h4⟩ : ∃ x, x = lessN b a := ⟨_, rfl⟩
  obtain ⟨LC, h5⟩ : ∃ x, x = lessN c b := ⟨_, rfl⟩
  rw [← h1, ← h2, ← h3, ← h4, ← h5] at HR
  rw [← h1] at HWA
  rw [← h2] at HWB
  rw [← h3] at HWC
  rw [← h4] at HLB
  rw [← h5] at HLC
  clear h1 h2 h3 h4 h5
  go_enter Tryz.func31, Tryz.ntmps31
  go_upto_region 1 with fail
  refine wp_name fun W1 hW1 => ?_
  obtain ⟨P, hP⟩ : ∃ P, P = w.heap.size := ⟨_, rfl⟩
  have HP : Hid (PolAt W1 P a b c) := Lib.hid (by rw [hW1.out, hP]; exact PolAt.new w a b c)
  have HB : Hid (Below w.heap.size w W1) := Lib.hid (by rw [hW1.out]; exact (Below.refl _ _).alloc (Nat.le_refl _) _)
  rw [← hP]
  obtain ⟨c0, c1, c2, -, -, -⟩ := HP.out.cells
  clear hW1 hP
  cases WA with
  | false =>
    go_wp2_with fail
    refine (HWA.out W1).mono ?_
    rintro e w2 ⟨rfl, hw⟩; replace hw := hw.symm; subst hw
    dsimp only
    go_wp2
    go_ret
    exact ⟨by rw [HR.out]; rfl, HB.out⟩
  | true =>
    cases WB with
    | false =>
      go_wp2_with fail
      refine (HWA.out W1).mono ?_
      rintro e w2 ⟨rfl, hw⟩; replace hw := hw.symm; subst hw
      dsimp only
      go_wp2_with fail
      refine (HWB.out W1).mono ?_
      rintro e w2 ⟨rfl, hw⟩; replace hw := hw.symm; subst hw
      dsimp only
      go_wp2
      go_ret
      exact ⟨by rw [HR.out]; rfl, HB.out⟩
    | true =>
      cases WC with
      | false =>
        go_wp2_with fail
        refine (HWA.out W1).mono ?_
        rintro e w2 ⟨rfl, hw⟩; replace hw := hw.symm; subst hw
        dsimp only
        go_wp2_with fail
        refine (HWB.out W1).mono ?_
        rintro e w2 ⟨rfl, hw⟩; replace hw := hw.symm; subst hw
        dsimp only
        go_wp2_with fail
        refine (HWC.out W1).mono ?_
        rintro e w2 ⟨rfl, hw⟩; replace hw := hw.symm; subst hw
        dsimp only
        go_wp2
        go_ret
        exact ⟨by rw [HR.out]; rfl, HB.out⟩
      | true =>
        cases LB with
        | true =>
          go_wp2_with fail
          refine (HWA.out W1).mono ?_
          rintro e w2 ⟨rfl, hw⟩; replace hw := hw.symm; subst hw
          dsimp only
          go_wp2_with fail
          refine (HWB.out W1).mono ?_
          rintro e w2 ⟨rfl, hw⟩; replace hw := hw.symm; subst hw
          dsimp only
          go_wp2_with fail
          refine (HWC.out W1).mono ?_
          rintro e w2 ⟨rfl, hw⟩; replace hw := hw.symm; subst hw
          dsimp only
          go_wp2_with fail
          refine (HLB.out W1).mono ?_
          rintro e w2 ⟨rfl, hw⟩; replace hw := hw.symm; subst hw
          dsimp only
          go_wp2
          go_ret
          exact ⟨by rw [HR.out]; rfl, HB.out⟩
        | false =>
          cases LC with
          | true =>
            go_wp2_with fail
            refine (HWA.out W1).mono ?_
            rintro e w2 ⟨rfl, hw⟩; replace hw := hw.symm; subst hw
            dsimp only
            go_wp2_with fail
            refine (HWB.out W1).mono ?_
            rintro e w2 ⟨rfl, hw⟩; replace hw := hw.symm; subst hw
            dsimp only
            go_wp2_with fail
            refine (HWC.out W1).mono ?_
            rintro e w2 ⟨rfl, hw⟩; replace hw := hw.symm; subst hw
            dsimp only
            go_wp2_with fail
            refine (HLB.out W1).mono ?_
            rintro e w2 ⟨rfl, hw⟩; replace hw := hw.symm; subst hw
            dsimp only
            go_wp2_with fail
            refine (HLC.out W1).mono ?_
            rintro e w2 ⟨rfl, hw⟩; replace hw := hw.symm; subst hw
            dsimp only
            go_wp2
            go_ret
            exact ⟨by rw [HR.out]; rfl, HB.out⟩
          | false =>
            go_wp2_with fail
            refine (HWA.out W1).mono ?_
            rintro e w2 ⟨rfl, hw⟩; replace hw := hw.symm; subst hw
            dsimp only
            go_wp2_with fail
            refine (HWB.out W1).mono ?_
            rintro e w2 ⟨rfl, hw⟩; replace hw := hw.symm; subst hw
            dsimp only
            go_wp2_with fail
            refine (HWC.out W1).mono ?_
            rintro e w2 ⟨rfl, hw⟩; replace hw := hw.symm; subst hw
            dsimp only
            go_wp2_with fail
            refine (HLB.out W1).mono ?_
            rintro e w2 ⟨rfl, hw⟩; replace hw := hw.symm; subst hw
            dsimp only
            go_wp2_with fail
            refine (HLC.out W1).mono ?_
            rintro e w2 ⟨rfl, hw⟩; replace hw := hw.symm; subst hw
            dsimp only
            go_wp2
            go_ret
            exact ⟨by rw [HR.out]; rfl, HB.out⟩
end Go.Proofs.YthbdchleppbidaaGreat
