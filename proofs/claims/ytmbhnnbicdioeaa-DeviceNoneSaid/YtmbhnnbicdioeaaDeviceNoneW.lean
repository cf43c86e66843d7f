/- DeviceNone, walked. -/
import Derived.Test.YtmbhnnbicdioeaaDvFull
import Derived.Test.YtmbhnnbicdioeaaDvWaits
namespace Go.Proofs.Ytmbhnnbicdioeaa
open Go.RowKit Go.Shelf

attribute [local go_sem] Oper.semAt_some

set_option maxRecDepth 1000000 in
set_option maxHeartbeats 8000000 in
theorem deviceNone_walk {x y : Int} (_hx1 : -9223372036854775808 ≤ x) (_hx2 : x ≤ 9223372036854775807) (_hy1 : -9223372036854775808 ≤ y) (_hy2 : y ≤ 9223372036854775807) {w : World} :
    Calls Try.prog 4 #[.int .i64 x, .int .i64 y] w fun e w' => e = .returned (.bool true) ∧ Below w.heap.size w w' := by
  refine (callsIn_wide (n := 4)).1 ?_
  refine callsIn_of_wp_marks Try.func4 rfl trivial ?_ rfl
  simp only [Try.ntmps4, List.size_toArray, List.length_cons, List.length_nil, Nat.reduceAdd, Nat.reduceSub, Array.replicate_succ, Array.replicate_zero, List.push_toArray, List.append_toArray, List.nil_append, List.cons_append]
  gi_wp2_with (first | (refine ⟨trivial, ?_⟩; gi_at_call 6; refine (callsIn_wide.2 (lives_any _)).mono ?_; rintro e w1 ⟨rfl, hb1⟩; have HB1 := Lib.hid hb1; clear hb1) | (refine ⟨trivial, ?_⟩; gi_at_call 13; refine (callsIn_wide.2 (up_none _)).mono ?_; rintro e w2 ⟨rfl, rfl⟩) | (refine ⟨trivial, ?_⟩; gi_at_call 10; refine (callsIn_wide.2 (crash_none _ _ _ _)).mono ?_; rintro e w2 ⟨rfl, rfl⟩) | (refine ⟨trivial, ?_⟩; gi_at_call 14; refine (callsIn_wide.2 (arm_none _ _ _ _ _)).mono ?_; rintro e w2 ⟨rfl, rfl⟩) | (refine ⟨trivial, ?_⟩; gi_at_call 15; refine (callsIn_wide.2 (read_none _ _ _)).mono ?_; rintro e w2 ⟨rfl, rfl⟩) | (refine ⟨trivial, ?_⟩; gi_at_call 16; refine (callsIn_wide.2 (waits_none _)).mono ?_; rintro e w3 ⟨rfl, rfl⟩))
  obtain ⟨B, hB⟩ : ∃ B, B = w2.heap.size := ⟨_, rfl⟩
  have c0 : ((w2.alloc (.cells #[.int .i64 0] 3)).alloc (.cells #[.slice none 0 0] 57)).cell? ⟨B, 0, none⟩ = some (.int .i64 0) := by
    rw [hB, World.cell?_of_block (w := w2.alloc (.cells #[.int .i64 0] 3)) (Below.heap_alloc _ _ _ (by simp))]
    exact cell_of_row _ w2.heap.size 0 _ _ _ (heap_alloc_new w2 _)
  have c1 : ((w2.alloc (.cells #[.int .i64 0] 3)).alloc (.cells #[.slice none 0 0] 57)).cell? ⟨B + 1, 0, none⟩ = some (.slice none 0 0) := by
    have h := cell_of_row _ _ 0 _ _ _ (heap_alloc_new (w2.alloc (.cells #[.int .i64 0] 3)) (.cells #[.slice none 0 0] 57))
    rw [World.size_alloc] at h
    rw [hB]; exact h
  have hb0 : Below w2.heap.size w2 ((w2.alloc (.cells #[.int .i64 0] 3)).alloc (.cells #[.slice none 0 0] 57)) := ((Below.refl _ w2).alloc (Nat.le_refl _) _).alloc (by simp) _
  have hsz : ((w2.alloc (.cells #[.int .i64 0] 3)).alloc (.cells #[.slice none 0 0] 57)).heap.size = B + 2 := by rw [hB]; simp
  rw [← hB] at hb0 ⊢
  obtain ⟨W, hW⟩ : ∃ W, W = (w2.alloc (.cells #[.int .i64 0] 3)).alloc (.cells #[.slice none 0 0] 57) := ⟨_, rfl⟩
  rw [← hW] at c0 c1 hb0 hsz ⊢
  have HB := Lib.hid hB
  clear hB hW
  refine wpIn_rangeFunc_ownF (α := Empty) rfl (by omega) (gf := 23) (lb := #[.pointer (some ⟨B + 1, 0, none⟩)]) rfl trivial (enters_of Try.func23 (by kernel_rfl) rfl)
    (waits_stops Fence.wide 3 trivial rfl (B + 1) B _ (by omega) c1) belowK_t (belowK_b (by omega)) (Below.refl _ _) (fun x => x.elim)
    (fun _ W' => W'.cell? ⟨B, 0, none⟩ = some (.int .i64 0) ∧ Below B w2 W')
    (fun _ _ _ => False)
    (OwnFrom.and (Own.from (fun s A B' row hs hg hr => cell_kept hs hg hr) _) (ownFrom_below (by rw [HB.out]; exact Nat.le_refl _) (by omega)))
    (fun _ _ _ _ _ hs _ _ => hs)
    ⟨c0, hb0⟩
    (fun x => x.elim) ?assign ?body ?done ?stop
  case assign =>
    intro l x
    exact x.elim
  case body =>
    rintro l pre x
    exact x.elim
  case stop =>
    rintro D c pre W _ h _
    exact h.elim
  case done =>
    rintro D ys W' hD rfl ⟨hc, hBW⟩ hK
    gi_wp2_with fail
    refine wpIn_wide.2 ?_
    have hck : ∀ k, (W'.drewN k).cell? ⟨B, 0, none⟩ = some (.int .i64 0) := fun _ => hc
    go_quiet (first | (go_at_call 17; with_reducible refine Calls.quiet_of_same (down_none _)) | (go_at_call 8; with_reducible refine Calls.quiet_of_same (write_none _ _ _)) | (go_at_call 9; with_reducible refine Calls.quiet_of_same (flush_none _)) | (go_at_call 18; with_reducible refine Calls.quiet_of_same (len_none _)) | (go_at_call 12; with_reducible refine Calls.quiet_of_same (image_none _)) | (go_at_call 19; with_reducible refine Calls.quiet_of_same (copy_none _)))
    gi_wp2
    have hK2 : (W'.drewN nq).heap[D]? = some (.deferred (some [])) := hK
    refine ⟨by simp, .inl ⟨_, _, rfl, run_takeDeferred hK2, ?_⟩⟩
    refine ⟨_, results_tmp rfl _ _ _, rfl, ?_⟩
    have hle : w.heap.size ≤ B := by rw [HB.out]; exact HB1.out.size
    have h1 : Below w.heap.size w (W'.drewN nq) := (HB1.out.trans (hBW.mono hle)).trans ((only_drewN (fun _ => False) W' nq).below (Nat.le_trans hle (by have := hBW.size; rw [← HB.out] at this; exact this)) (fun _ h => h.elim))
    exact h1.trans (belowK_b (w := w2) (by rw [← HB.out]; exact hle) (W'.drewN nq) D _ _ (by rw [← HB.out]; omega) hK2 rfl rfl)
end Go.Proofs.Ytmbhnnbicdioeaa
