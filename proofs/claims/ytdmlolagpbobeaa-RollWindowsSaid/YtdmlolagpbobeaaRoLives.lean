/- The chapter's example lives. -/
import Derived.Test.YtdmlolagpbobeaaRoOf
import Derived.Test.YtdmlolagpbobeaaRoMean
import Derived.Test.YtdmlolagpbobeaaPtFit
namespace Go.Proofs.Ytdmlolagpbobeaa
open Go.RowKit

def exV : List Pt := [⟨0, 3⟩, ⟨0, -1⟩, ⟨0, 4⟩]
theorem ex_of : ofR 7 exV = ⟨7, 3, 6, -1, 4⟩ := by decide
theorem ex_mean : meanA ⟨7, 3, 6, -1, 4⟩ = 2 := by decide
/-- a row of points just built lies -/
theorem builtV_lies (w : World) (k : List Pt) : PLies (w.alloc (.cells (k.flatMap Pt.cells).toArray 31)) (.slice (some ⟨w.heap.size, 0, none⟩) k.length k.length) k := by
  refine ⟨_, w.heap.size, 0, k.length, rfl, fun _ => rfl, cells_pts fun i u hu => ?_⟩
  have hg : Arr (w.alloc (.cells (k.flatMap Pt.cells).toArray 31)) w.heap.size 31 (k.flatMap Pt.cells) := heap_alloc_new w _
  rw [Nat.zero_add]
  exact hg.cell hu
set_option maxHeartbeats 8000000 in
set_option maxRecDepth 100000 in
theorem rolives_any (w : World) : Calls Try.prog 8 #[] w fun e w' => e = .returned (.bool true) ∧ Below w.heap.size w w' := by
  go_enter Try.func8, Try.ntmps8
  go_wp2_with fail
  refine calls_name ?_
  intro W2 hW2
  have hb2 : Below w.heap.size w W2 := by rw [hW2.out]; exact (Below.refl _ _).alloc (Nat.le_refl _) _
  have hx2 : PLies W2 (.slice (some ⟨w.heap.size, 0, none⟩) 3 3) exV := by rw [hW2.out]; exact builtV_lies w exV
  have hcall := roof_any (k := 7) (by omega) (by omega) hx2 (by intro p hp; simp [exV] at hp; rcases hp with rfl | rfl | rfl <;> simp [Pt.fits]) (by decide)
  rw [ex_of] at hcall
  have HC := Lib.hid hcall
  have HB2 := Lib.hid hb2
  clear hcall hb2 hx2 hW2
  refine (HC.out).mono ?_
  rintro e W3 ⟨rfl, hb3⟩
  have HB3 := Lib.hid (HB2.out.trans (hb3.mono HB2.out.size))
  clear hb3 HC HB2
  unfold agV
  go_upto_region 2 with fail
  refine wp_name fun W4 hW4 => ?_
  obtain ⟨M, hM⟩ : ∃ M, M = W3.heap.size := ⟨_, rfl⟩
  have hb4 : Below W3.heap.size W3 W4 := by rw [hW4.out]; exact (Below.refl _ _).alloc (Nat.le_refl _) _
  have HM4 : Hid (AgAt W4 M ⟨7, 3, 6, -1, 4⟩) := Lib.hid (by rw [hW4.out, hM]; exact AgAt.new W3 ⟨7, 3, 6, -1, 4⟩)
  have HB4 := Lib.hid (HB3.out.trans (hb4.mono HB3.out.size))
  have hmean := romean_any W4 (t := ⟨7, 3, 6, -1, 4⟩) ⟨by simp, by simp, by simp, by simp, by simp, by simp, by simp, by simp, by simp, by simp⟩
  rw [ex_mean] at hmean
  have HME := Lib.hid hmean
  rw [← hM]
  clear hb4 hW4 hM HB3 hmean
  obtain ⟨c0, c1, c2, c3, c4, -, -, -, -, -⟩ := HM4.out.cells
  dsimp only at c0 c1 c2 c3 c4
  go_wp2_with fail
  refine (HME.out).mono ?_
  rintro e W5 ⟨rfl, hb5⟩
  have HB5 := Lib.hid (HB4.out.trans (hb5.mono HB4.out.size))
  clear hb5
  dsimp only
  go_wp2
  go_ret
  exact ⟨rfl, HB5.out⟩
end Go.Proofs.Ytdmlolagpbobeaa
