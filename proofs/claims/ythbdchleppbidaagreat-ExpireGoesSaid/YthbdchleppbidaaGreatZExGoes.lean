/- The law's own: does what ends at a tick go, as far as policy and marks tell? -/
import Derived.Test.YthbdchleppbidaaGreatML
import Derived.Test.YthbdchleppbidaaGreatMP
import Derived.Deep.DeepCutAuto
import Derived.BigQuiet
import Derived.Deep.CutBlock
import Derived.IntWalk
namespace Go.Proofs.YthbdchleppbidaaGreat
open Go.RowKit

/-- as far as policy and marks tell -/
def goesX (n til mark now : Int) : Bool := decide (0 < n) && (decide (til ≤ mark) && decide (til ≤ now - n))
set_option maxHeartbeats 4000000 in
set_option maxRecDepth 100000 in
theorem exkeep_any (w : World) (a b c k : Int) (hk : k = 0 ∨ k = 1 ∨ k = 2) :
    Calls Tryz.prog 38 #[.agg #[.int .i64 a, .int .i64 b, .int .i64 c], .int .i64 k] w fun e w' => e = .returned (.int .i64 (ofP a b c k)) ∧ Below w.heap.size w w' := by
  obtain ⟨R, hR⟩ : ∃ R, R = ofP a b c k := ⟨_, rfl⟩
  have HR : Hid ((k = 0 → R = a) ∧ (k = 1 → R = b) ∧ (k = 2 → R = c)) := Lib.hid ⟨fun h => by rw [hR, h]; rfl, fun h => by rw [hR, h]; rfl, fun h => by rw [hR, h]; rfl⟩
  rw [← hR]
  clear hR
  rcases hk with rfl | rfl | rfl
  · have HX : Hid (R = a) := Lib.hid (HR.out.1 rfl)
    clear HR
    go_enter Tryz.func38, Tryz.ntmps38
    go_upto_region 1 with fail
    refine wp_name fun W1 hW1 => ?_
    obtain ⟨P, hP⟩ : ∃ P, P = w.heap.size := ⟨_, rfl⟩
    have HP : Hid (PolAt W1 P a b c) := Lib.hid (by rw [hW1.out, hP]; exact PolAt.new w a b c)
    have HB1 : Hid (Below w.heap.size w W1) := Lib.hid (by rw [hW1.out]; exact (Below.refl _ _).alloc (Nat.le_refl _) _)
    rw [← hP]
    obtain ⟨c0, c1, c2, -, -, -⟩ := HP.out.cells
    clear hW1 hP
    obtain ⟨e0, e1, e2, -, -, -⟩ := cells3 (heap_alloc_new W1 (.cells #[.int .i64 a, .int .i64 b, .int .i64 c] 2))
    go_wp2
    go_ret
    exact ⟨by rw [HX.out]; rfl, HB1.out.alloc HB1.out.size _⟩
  · have HX : Hid (R = b) := Lib.hid (HR.out.2.1 rfl)
    clear HR
    go_enter Tryz.func38, Tryz.ntmps38
    go_upto_region 1 with fail
    refine wp_name fun W1 hW1 => ?_
    obtain ⟨P, hP⟩ : ∃ P, P = w.heap.size := ⟨_, rfl⟩
    have HP : Hid (PolAt W1 P a b c) := Lib.hid (by rw [hW1.out, hP]; exact PolAt.new w a b c)
    have HB1 : Hid (Below w.heap.size w W1) := Lib.hid (by rw [hW1.out]; exact (Below.refl _ _).alloc (Nat.le_refl _) _)
    rw [← hP]
    obtain ⟨c0, c1, c2, -, -, -⟩ := HP.out.cells
    clear hW1 hP
    obtain ⟨e0, e1, e2, -, -, -⟩ := cells3 (heap_alloc_new W1 (.cells #[.int .i64 a, .int .i64 b, .int .i64 c] 2))
    go_wp2
    go_ret
    exact ⟨by rw [HX.out]; rfl, HB1.out.alloc HB1.out.size _⟩
  · have HX : Hid (R = c) := Lib.hid (HR.out.2.2 rfl)
    clear HR
    go_enter Tryz.func38, Tryz.ntmps38
    go_upto_region 1 with fail
    refine wp_name fun W1 hW1 => ?_
    obtain ⟨P, hP⟩ : ∃ P, P = w.heap.size := ⟨_, rfl⟩
    have HP : Hid (PolAt W1 P a b c) := Lib.hid (by rw [hW1.out, hP]; exact PolAt.new w a b c)
    have HB1 : Hid (Below w.heap.size w W1) := Lib.hid (by rw [hW1.out]; exact (Below.refl _ _).alloc (Nat.le_refl _) _)
    rw [← hP]
    obtain ⟨c0, c1, c2, -, -, -⟩ := HP.out.cells
    clear hW1 hP
    obtain ⟨e0, e1, e2, -, -, -⟩ := cells3 (heap_alloc_new W1 (.cells #[.int .i64 a, .int .i64 b, .int .i64 c] 2))
    go_wp2
    go_ret
    exact ⟨by rw [HX.out]; rfl, HB1.out.alloc HB1.out.size _⟩
set_option maxHeartbeats 4000000 in
set_option maxRecDepth 100000 in
theorem exgoes_any (w : World) (a b c k til mark now : Int) (hk : k = 0 ∨ k = 1 ∨ k = 2) (hn : 0 ≤ ofP a b c k ∧ ofP a b c k ≤ 1099511627776) (hw : 0 ≤ now ∧ now ≤ 1099511627776) :
    Calls Tryz.prog 17 #[.agg #[.int .i64 a, .int .i64 b, .int .i64 c], .int .i64 k, .int .i64 til, .int .i64 mark, .int .i64 now] w fun e w' => e = .returned (.bool (goesX (ofP a b c k) til mark now)) ∧ Below w.heap.size w w' := by
  have HK : Hid (∀ W, Calls Tryz.prog 38 #[.agg #[.int .i64 a, .int .i64 b, .int .i64 c], .int .i64 k] W fun e w' => e = .returned (.int .i64 (ofP a b c k)) ∧ Below W.heap.size W w') := Lib.hid fun W => exkeep_any W a b c k hk
  obtain ⟨n, hN⟩ : ∃ n, n = ofP a b c k := ⟨_, rfl⟩
  rw [← hN] at HK hn ⊢
  have HR : Hid (goesX n til mark now = (decide (0 < n) && (decide (til ≤ mark) && decide (til ≤ now - n)))) := Lib.hid rfl
  have hw2 : IntKind.i64.wrap (now - n) = now - n := IntWalk.i64_in _ (by omega)
  clear hN hk
  go_enter Tryz.func17, Tryz.ntmps17
  go_upto_region 1 with fail
  refine wp_name fun W1 hW1 => ?_
  obtain ⟨P, hP⟩ : ∃ P, P = w.heap.size := ⟨_, rfl⟩
  have HP : Hid (PolAt W1 P a b c) := Lib.hid (by rw [hW1.out, hP]; exact PolAt.new w a b c)
  have HB1 : Hid (Below w.heap.size w W1) := Lib.hid (by rw [hW1.out]; exact (Below.refl _ _).alloc (Nat.le_refl _) _)
  rw [← hP]
  obtain ⟨c0, c1, c2, -, -, -⟩ := HP.out.cells
  clear hW1 hP
  go_wp2_with fail
  refine (HK.out W1).mono ?_
  rintro e W2 ⟨rfl, hb⟩
  have HB2 := Lib.hid (HB1.out.trans (hb.mono HB1.out.size))
  clear hb c0 c1 c2 HP HB1
  dsimp only
  cases h0 : decide (0 < n) with
  | false =>
    rw [h0] at HR
    go_wp2
    go_ret
    exact ⟨by rw [HR.out]; rfl, HB2.out⟩
  | true =>
    rw [h0] at HR
    cases h1 : decide (til ≤ mark) with
    | false =>
      rw [h1] at HR
      go_wp2
      go_ret
      exact ⟨by rw [HR.out]; rfl, HB2.out⟩
    | true =>
      rw [h1] at HR
      go_wp2
      go_ret
      exact ⟨by rw [HR.out]; rfl, HB2.out⟩
end Go.Proofs.YthbdchleppbidaaGreat
