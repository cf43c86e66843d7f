/- Points cloned. -/
import Derived.Test.YtpgbeebpeldjdaaPtRow
import Derived.Test.YtpgbeebpeldjdaaGenOpC
import Derived.Maps.AppendAt
import Derived.Lib.SliceRun
namespace Go.Proofs.Ytpgbeebpeldjdaa
open Go.RowKit

/-- a row of points of one's own, at base B -/
def PtRowB (B : Nat) (w : World) (v : Value) (l : List Pt) : Prop := w.ownsRow B 26 2 v l.length (l.flatMap Pt.cells)
theorem PtRowB.keep {B : Nat} {w w' : World} {v : Value} {l : List Pt} (h : PtRowB B w v l) (hb : Below w.heap.size w w') : PtRowB B w' v l := ownsRow_beyond h hb
theorem PtRowB.base {B B' : Nat} {w : World} {v : Value} {l : List Pt} (h : PtRowB B w v l) (hB : B' ≤ B) : PtRowB B' w v l := row_base h hB
theorem PtRowB.plies {B : Nat} {w : World} {v : Value} {l : List Pt} (h : PtRowB B w v l) : PLies w v l := plies_row h
theorem PtRowB.nil (B : Nat) (w : World) : PtRowB B w (.slice none 0 0) [] := World.ownsRow_nil _ _ _ _
set_option maxHeartbeats 4000000 in
set_option maxRecDepth 100000 in
theorem seclo_any {w : World} {v : Value} {l : List Pt} (hv : PLies w v l) (hn : l.length ≤ 1000000000000) :
    Calls Try.prog 21 #[v] w fun e w' => ∃ v', e = .returned v' ∧ PtRowB w.heap.size w' v' l ∧ Below w.heap.size w w' := by
  obtain ⟨i0, hi, hz0, hz1, hz2⟩ := info_parts infoPt
  obtain ⟨a, b, off, cap, rfl, hadr, hpts⟩ := hv
  cases a with
  | none =>
    have hl : l = [] := Classical.byContradiction fun h => by have := hadr h; cases this
    subst hl
    have hq := Lib.run_eql_slice_nil (P := Try.prog) w 24 26 none 0 cap 0 0 Try.underlying24
    clear hadr hpts hi
    go_enter Try.func21, Try.ntmps21
    go_wp2
    go_ret
    exact ⟨_, rfl, PtRowB.nil _ _, Below.refl _ _⟩
  | some ad =>
    have HNW : Hid (∀ j u, (l.flatMap Pt.cells)[j]? = some u → (w.alloc (.cells #[] 26)).cell? (ad.add j) = some u) := Lib.hid fun j u hu => by
      have hne : l ≠ [] := by rintro rfl; simp at hu
      have e := hadr hne
      injection e with e; subst e
      rw [add_at]
      have hc := pts_cells hpts j u hu
      rw [← hc]
      exact World.cell?_of_block (w := w) (Below.heap_alloc _ _ _ (by have := cell_lt hc; exact this))
    have HLN := Lib.hid hn
    have HE : Hid ((w.alloc (.cells #[] 26)).ownsRow w.heap.size 26 2 (.slice (some ⟨w.heap.size, 0, none⟩) 0 0) 0 []) := Lib.hid (World.ownsRow_made w #[] 0 (Nat.le_refl _) (Nat.zero_le _) rfl)
    have hq := Lib.run_eql_slice_nil (P := Try.prog) w 24 26 (some ad) l.length cap 0 0 Try.underlying24
    clear hadr hpts hn
    go_enter Try.func21, Try.ntmps21
    go_wp2_with (at_builtin; refine wpList_append_own_at _ rfl (.tmp 5) (.tmp 6) 24 rfl w.heap.size 26 i0 (.agg #[.int .i64 0, .int .i64 0]) 2 16 Try.underlying24 hi hz0 hz1 hz2 rfl (by decide) _ _ _ rfl HE.out ad l.length cap (l.flatMap Pt.cells) rfl (flatP_length l) HNW.out (flatP_one l) (by have := HLN.out; unfold maxLen; omega) (by have := HLN.out; omega) (by simp) ?_; intro v7 W7 hown7 hgrow7 _ hwhere7; have HR7 : Hid (PtRowB w.heap.size W7 v7 l) := Lib.hid (by unfold PtRowB; simpa using hown7); have HB7 : Hid (Below w.heap.size w W7) := Lib.hid (((Below.refl _ w).alloc (Nat.le_refl _) _).grown hgrow7 (by simp) (fun b hb => (HE.out.lt b hb).1)); clear hown7 hgrow7 hwhere7)
    go_ret
    exact ⟨_, rfl, HR7.out, HB7.out⟩
end Go.Proofs.Ytpgbeebpeldjdaa
