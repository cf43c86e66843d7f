/- The chapter's example lives. -/
import Derived.Test.YtpgbeebpeldjdaaSeGet
import Derived.Test.YtpgbeebpeldjdaaSeCut
namespace Go.Proofs.Ytpgbeebpeldjdaa
open Go.RowKit

def exL : List Pt := [⟨5, 1⟩, ⟨3, 0⟩, ⟨5, 2⟩]
def exS : List Pt := [⟨3, 0⟩, ⟨5, 2⟩]
theorem ex_put : putE [] exL = (2, 0, exS) := by decide
theorem ex_get : getL exS 0 9 = exS := by decide
/-- a row of points just built lies -/
theorem built_lies (w : World) (k : List Pt) : PLies (w.alloc (.cells (k.flatMap Pt.cells).toArray 26)) (.slice (some ⟨w.heap.size, 0, none⟩) k.length k.length) k := by
  refine ⟨_, w.heap.size, 0, k.length, rfl, fun _ => rfl, fun i t ht => ?_⟩
  have hg : Arr (w.alloc (.cells (k.flatMap Pt.cells).toArray 26)) w.heap.size 26 (k.flatMap Pt.cells) := heap_alloc_new w _
  have h0 := flatP_get ht 0 (by omega)
  have h1 := flatP_get ht 1 (by omega)
  rw [Nat.zero_add]
  exact ⟨hg.cell h0, hg.cell h1⟩
set_option maxHeartbeats 8000000 in
set_option maxRecDepth 100000 in
theorem selives_any (w : World) : Calls Try.prog 6 #[] w fun e w' => e = .returned (.bool true) ∧ Below w.heap.size w w' := by
  go_enter Try.func6, Try.ntmps6
  go_wp2_with fail
  refine (senew_any w).mono ?_
  rintro e W1 ⟨rfl, hs, hb⟩
  obtain ⟨s, hsz⟩ : ∃ s, s = w.heap.size := ⟨_, rfl⟩
  have HQ := Lib.hid hsz
  have HS1 : Hid (SerV W1 s (.slice none 0 0) []) := Lib.hid (by rw [hsz]; exact hs)
  have HB1 := Lib.hid hb
  rw [← hsz]
  clear hs hb hsz
  dsimp only
  go_wp2_with fail
  refine calls_name ?_
  intro W2 hW2
  have hb2 : Below W1.heap.size W1 W2 := by rw [hW2.out]; exact (Below.refl _ _).alloc (Nat.le_refl _) _
  have HX2 : Hid (PLies W2 (.slice (some ⟨W1.heap.size, 0, none⟩) 3 3) exL) := Lib.hid (by rw [hW2.out]; exact built_lies W1 exL)
  have HS2 := Lib.hid (HS1.out.keep hb2)
  have HB2 := Lib.hid (HB1.out.trans (hb2.mono HB1.out.size))
  have hput := seput_any HS2.out HX2.out (by intro p hp; simp [exL] at hp; rcases hp with rfl | rfl | rfl <;> simp [Pt.fits]) (by decide)
  rw [ex_put] at hput
  have HPU := Lib.hid hput
  clear hput hb2 hW2 HX2
  refine (HPU.out).mono ?_
  rintro e W3 ⟨rfl, ⟨v3, hs3, -⟩, ho3⟩
  have HS3 : Hid (SerV W3 s v3 exS) := Lib.hid hs3
  have HB3 : Hid (Below w.heap.size w W3) := Lib.hid (HB2.out.trans (ho3.below HB2.out.size (fun k hk => by rw [hk, HQ.out]; exact Nat.le_refl _)))
  clear hs3 ho3 HPU HS2 HS1
  dsimp only
  go_wp2_with fail
  have hget := seget_any HS3.out 0 9
  rw [ex_get] at hget
  have HGE := Lib.hid hget
  clear hget
  refine (HGE.out).mono ?_
  rintro e W4 ⟨v4, rfl, hr4, hb4⟩
  have HB4 := Lib.hid (HB3.out.trans (hb4.mono HB3.out.size))
  have hpl := hr4.plies
  obtain ⟨a4, c4, e4⟩ := hpl.len
  subst e4
  obtain ⟨b, off, ea, g0, g1⟩ := hpl.get (i := 0) (p := ⟨3, 0⟩) rfl
  obtain ⟨b', off', ea', g2, g3⟩ := hpl.get (i := 1) (p := ⟨5, 2⟩) rfl
  rw [ea] at ea'
  injection ea' with ea'
  injection ea' with e1 e2 _
  subst e1; subst e2; subst ea
  simp only [exS, List.length_cons, List.length_nil, Nat.zero_mul, Nat.add_zero, Nat.one_mul, Nat.reduceAdd] at g0 g1 g2 g3 ⊢
  clear hr4 hb4 hpl HGE
  go_wp2_with fail
  go_ret
  exact ⟨rfl, HB4.out⟩
end Go.Proofs.Ytpgbeebpeldjdaa
