/- Package window: ranges: what two have in common. -/
import Derived.Test.YtphgkkdpdiiioaaWiRow
import Derived.Test.YtphgkkdpdiiioaaRgAt
import Derived.Test.YtphgkkdpdiiioaaWiRt
namespace Go.Proofs.Ytphgkkdpdiiioaa
open Go.RowKit

theorem RgAt.set {W : World} {P : Nat} {a b : Int} (h : RgAt W P a b) (x y : Int) : RgAt (setRg W P (.int .i64 x) (.int .i64 y)) P x y := setRg_at h _ _
/-- what two ranges have in common -/
def bothR (a b c d : Int) : Int × Int := if meetsR a b c d = true then (max a c, min b d) else (0, 0)
set_option maxHeartbeats 4000000 in
set_option maxRecDepth 100000 in
theorem wiboth_any (w : World) (a b c d : Int) :
    Calls Try.prog 40 #[.agg #[.int .i64 a, .int .i64 b], .agg #[.int .i64 c, .int .i64 d]] w fun e w' => e = .returned (.tuple #[.agg #[.int .i64 (bothR a b c d).1, .int .i64 (bothR a b c d).2], .bool (meetsR a b c d)]) ∧ Below w.heap.size w w' := by
  obtain ⟨p, hp⟩ : ∃ p, p = max a c := ⟨_, rfl⟩
  obtain ⟨q, hq⟩ : ∃ q, q = min b d := ⟨_, rfl⟩
  have em : (if a < c then c else a) = p := by rw [hp]; split <;> omega
  have en : (if d < b then d else b) = q := by rw [hq]; split <;> omega
  have HF : Hid (∀ W, Calls Try.prog 37 #[.agg #[.int .i64 p, .int .i64 q]] W fun e w' => e = .returned (.bool (meetsR a b c d)) ∧ Below W.heap.size W w') := Lib.hid fun W => by
    have h := wifilled_any W p q
    rw [hp, hq] at h ⊢
    exact h
  have HR : Hid (bothR a b c d = if meetsR a b c d = true then (p, q) else (0, 0)) := Lib.hid (by rw [hp, hq]; rfl)
  obtain ⟨R, hR⟩ : ∃ R, R = bothR a b c d := ⟨_, rfl⟩
  obtain ⟨M, hM⟩ : ∃ M, M = meetsR a b c d := ⟨_, rfl⟩
  rw [← hR, ← hM] at HR ⊢
  rw [← hM] at HF
  clear hR hM hp hq
  go_enter Try.func40, Try.ntmps40
  repeat (first | go_values | go_skip | go_guarded | go_step)
  refine calls_name ?_
  intro W1 hW1
  obtain ⟨P, hP⟩ : ∃ P, P = w.heap.size := ⟨_, rfl⟩
  have e2 : ((w.alloc (.cells #[.int .i64 a, .int .i64 b] 24)).alloc (.cells #[.int .i64 c, .int .i64 d] 24)).heap.size = P + 1 + 1 := by rw [hP]; simp
  have e3 : (((w.alloc (.cells #[.int .i64 a, .int .i64 b] 24)).alloc (.cells #[.int .i64 c, .int .i64 d] 24)).alloc (.cells #[.int .i64 0, .int .i64 0] 24)).heap.size = P + 1 + 1 + 1 := by rw [hP]; simp
  have HZ : Hid (RgAt W1 (P + 1 + 1) 0 0) := Lib.hid (by rw [hW1.out, ← e2]; exact (RgAt.new _ 0 0).old _)
  have HX : Hid (RgAt W1 (P + 1 + 1 + 1) p q) := Lib.hid (by rw [hW1.out, ← e3]; exact RgAt.new _ p q)
  have HB : Hid (Below w.heap.size w W1) := Lib.hid (by rw [hW1.out]; exact ((((Below.refl _ _).alloc (Nat.le_refl _) _).alloc (by simp) _).alloc (by simp; omega) _).alloc (by simp; omega) _)
  have HQ := Lib.hid hP
  rw [← hP]
  clear hW1 hP e2 e3
  refine (HF.out W1).mono ?_
  rintro e W2 ⟨rfl, hb⟩
  have HZ2 := Lib.hid (HZ.out.keep hb)
  have HX2 := Lib.hid (HX.out.keep hb)
  have HB2 := Lib.hid (HB.out.trans (hb.mono HB.out.size))
  clear hb HZ HX HB
  dsimp only
  obtain ⟨c0, c1, -, -⟩ := HX2.out.cells
  obtain ⟨z0, z1, f0, f1⟩ := HZ2.out.cells
  cases M with
  | false =>
    repeat (first | go_values | go_skip | go_guarded | go_step | go_upon)
    refine bodyPost_ret (ret_rg2 (Q := P + 1 + 1) rfl rfl (HZ2.out.set 0 0)) rfl ?_
    exact ⟨by rw [HR.out]; rfl, HB2.out.trans ((setRg_only _ _ _ _).below HB2.out.size (fun k hk => by rw [hk, HQ.out]; omega))⟩
  | true =>
    repeat (first | go_values | go_skip | go_guarded | go_step | go_upon)
    refine bodyPost_ret (ret_rg2 (Q := P + 1 + 1) rfl rfl (HZ2.out.set p q)) rfl ?_
    exact ⟨by rw [HR.out]; rfl, HB2.out.trans ((setRg_only _ _ _ _).below HB2.out.size (fun k hk => by rw [hk, HQ.out]; omega))⟩
set_option maxHeartbeats 4000000 in
set_option maxRecDepth 100000 in
theorem wimeets_any (w : World) (a b c d : Int) :
    Calls Try.prog 29 #[.agg #[.int .i64 a, .int .i64 b], .agg #[.int .i64 c, .int .i64 d]] w fun e w' => e = .returned (.bool (meetsR a b c d)) ∧ Below w.heap.size w w' := by
  have HX : Hid (∀ W, Calls Try.prog 40 #[.agg #[.int .i64 a, .int .i64 b], .agg #[.int .i64 c, .int .i64 d]] W fun e w' => (∃ p q, e = .returned (.tuple #[.agg #[.int .i64 p, .int .i64 q], .bool (meetsR a b c d)])) ∧ Below W.heap.size W w') := Lib.hid fun W => (wiboth_any W a b c d).mono fun e w' h => ⟨⟨_, _, h.1⟩, h.2⟩
  obtain ⟨M, hM⟩ : ∃ M, M = meetsR a b c d := ⟨_, rfl⟩
  rw [← hM] at HX ⊢
  clear hM
  go_enter Try.func29, Try.ntmps29
  repeat (first | go_values | go_skip | go_guarded | go_step)
  refine calls_name ?_
  intro W1 hW1
  have HB : Hid (Below w.heap.size w W1) := Lib.hid (by rw [hW1.out]; exact ((Below.refl _ _).alloc (Nat.le_refl _) _).alloc (by simp) _)
  clear hW1
  refine (HX.out W1).mono ?_
  rintro e W2 ⟨⟨p, q, rfl⟩, hb⟩
  have HB2 := Lib.hid (HB.out.trans (hb.mono HB.out.size))
  clear hb HB
  dsimp only
  repeat (first | go_values | go_skip | go_guarded | go_step | go_upon)
  go_ret
  exact ⟨rfl, HB2.out.alloc HB2.out.size _⟩
end Go.Proofs.Ytphgkkdpdiiioaa
