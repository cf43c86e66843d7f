/- The chapter's example lives, over what package tier does. -/
import Derived.Test.YtmpphidiofhnlaaZTiDoes
import Derived.Test.YtmpphidiofhnlaaZTiVal
namespace Go.Proofs.Ytmpphidiofhnlaa
open Go.RowKit

def exT1 : List Pt := [⟨10, 1⟩, ⟨20, 2⟩]
def exT2 : List Pt := [⟨30, 0⟩]
def exS1 : Stk := ⟨[⟨10, 1⟩, ⟨20, 2⟩], [], [], 0, 0⟩
def exS2 : Stk := ⟨[⟨10, 1⟩, ⟨20, 2⟩], [⟨0, 2, 3, 1, 2⟩], [], 300, 0⟩
theorem exT_put : putR newS exT1 = (2, 0) ∧ putT newS exT1 = exS1 := by decide
theorem exT_roll : rollR exS1 300 = (1, 0) ∧ rollT exS1 300 = exS2 := by decide
theorem exT_bad : putR exS2 exT2 = (0, 14) ∧ putT exS2 exT2 = exS2 := by decide
theorem exT_aggs : aggsT exS2 1 0 1 = [⟨0, 2, 3, 1, 2⟩] := by decide
set_option maxHeartbeats 16000000 in
set_option maxRecDepth 1000000 in
theorem tilives_any (D : TierD) (w : World) : Calls Try.prog 6 #[] w fun e w' => e = .returned (.bool true) ∧ Below w.heap.size w w' := by
  go_enter Try.func6, Try.ntmps6
  go_wp2_with fail
  refine (D.new_ w).mono ?_
  rintro e W1 ⟨p, rfl, h1, h2, hb⟩
  have HS1 : Hid (OneS D w.heap.size W1 p newS) := Lib.hid ⟨h1, h2⟩
  have HB1 := Lib.hid hb
  clear h1 h2 hb
  dsimp only
  go_wp2_with fail
  refine calls_name ?_
  intro W2 hW2
  have hb2 : Below W1.heap.size W1 W2 := by rw [hW2.out]; exact (Below.refl _ _).alloc (Nat.le_refl _) _
  have hx2 : PLies W2 (.slice (some ⟨W1.heap.size, 0, none⟩) 2 2) exT1 := by rw [hW2.out]; exact builtV_lies W1 exT1
  have HS2 := Lib.hid (HS1.out.keep hb2)
  have HB2 := Lib.hid (HB1.out.trans (hb2.mono HB1.out.size))
  have hput := D.put HS2.out.sit hx2 (by intro p hp; simp [exT1] at hp; rcases hp with rfl | rfl <;> simp [Pt.fits]) (by decide)
  rw [exT_put.1, exT_put.2] at hput
  have HPU := Lib.hid hput
  clear hput hb2 hx2 hW2
  refine (HPU.out).mono ?_
  rintro e W3 ⟨rfl, h1, h2, h3⟩
  have hst := HS2.out.step HB2.out.size h1 h2 h3
  have HS3 := Lib.hid hst.1
  have HB3 := Lib.hid (HB2.out.trans hst.2)
  clear h1 h2 h3 hst HPU HS2 HB2
  dsimp only
  have hroll := D.roll (now := 300) HS3.out.sit (by omega) (by omega)
  rw [exT_roll.1, exT_roll.2] at hroll
  have HRO := Lib.hid hroll
  clear hroll
  go_wp2_with fail
  refine (HRO.out).mono ?_
  rintro e W4 ⟨rfl, h1, h2, h3⟩
  have hst := HS3.out.step HB3.out.size h1 h2 h3
  have HS4 := Lib.hid hst.1
  have HB4 := Lib.hid (HB3.out.trans hst.2)
  clear h1 h2 h3 hst HRO HS3 HB3
  dsimp only
  go_wp2_with fail
  refine calls_name ?_
  intro W5 hW5
  have hb5 : Below W4.heap.size W4 W5 := by rw [hW5.out]; exact (Below.refl _ _).alloc (Nat.le_refl _) _
  have hx5 : PLies W5 (.slice (some ⟨W4.heap.size, 0, none⟩) 1 1) exT2 := by rw [hW5.out]; exact builtV_lies W4 exT2
  have HS5 := Lib.hid (HS4.out.keep hb5)
  have HB5 := Lib.hid (HB4.out.trans (hb5.mono HB4.out.size))
  have hput := D.put HS5.out.sit hx5 (by intro p hp; simp [exT2] at hp; subst hp; simp [Pt.fits]) (by decide)
  rw [exT_bad.1, exT_bad.2] at hput
  have HPU := Lib.hid hput
  clear hput hb5 hx5 hW5
  refine (HPU.out).mono ?_
  rintro e W6 ⟨rfl, h1, h2, h3⟩
  have hst := HS5.out.step HB5.out.size h1 h2 h3
  have HS6 := Lib.hid hst.1
  have HB6 := Lib.hid (HB5.out.trans hst.2)
  clear h1 h2 h3 hst HPU HS5 HB5
  dsimp only
  have hag := D.aggs (t := 1) (a := 0) (b := 1) HS6.out.sit (by omega) (by omega) (by omega) (by omega) (by omega) (by omega)
  rw [exT_aggs] at hag
  have HAG := Lib.hid hag
  clear hag
  go_wp2_with fail
  refine (HAG.out).mono ?_
  rintro e W7 ⟨v7, rfl, hr7, hb⟩
  have HB7 := Lib.hid (HB6.out.trans (hb.mono HB6.out.size))
  obtain ⟨a7, b7, o7, k7, rfl, hadr7, hags7⟩ := hr7.lies
  have ea := hadr7 (by simp)
  subst ea
  obtain ⟨c0, c1, c2, c3, c4⟩ := hags7 0 ⟨0, 2, 3, 1, 2⟩ rfl
  simp only [List.length_cons, List.length_nil, Nat.zero_mul, Nat.add_zero, Nat.zero_add] at c0 c1 c2 c3 c4 ⊢
  clear hb hr7 hags7 hadr7 HAG HS6 HB6
  go_wp2_with fail
  go_ret
  exact ⟨rfl, HB7.out⟩
end Go.Proofs.Ytmpphidiofhnlaa
