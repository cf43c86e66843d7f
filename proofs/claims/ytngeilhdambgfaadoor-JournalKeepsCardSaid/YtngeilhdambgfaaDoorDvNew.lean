/- A new device. -/
import Derived.Test.YtngeilhdambgfaaDoorDvLaws
namespace Go.Proofs.YtngeilhdambgfaaDoor
open Go.RowKit

theorem built_dev (n g1 g2 : Nat) : Tryd.prog.built 56 [(0, .slice (some ⟨g1, 0, none⟩) n n), (1, .slice (some ⟨g2, 0, none⟩) n n)] = some (dcells g1 g2 (.slice none 0 0) (Dev.fresh n)).toArray := by
  have h : ∀ ps, Tryd.prog.built 56 ps = Instr.fill (#[((0 : Nat), (1 : Nat)), (1, 1), (2, 1), (3, 1), (4, 1), (5, 3)][·]?) [.slice none 0 0, .slice none 0 0, .slice none 0 0, .bool false, .int .i64 0, .int .u64 0, .int .i64 0, .int .i64 0].toArray ps := by intro ps; kernel_rfl
  rw [h, fill_next _ _ 0 0 1 _ [.slice (some ⟨g1, 0, none⟩) n n] _ rfl rfl rfl (by simp), fill_last _ _ 1 1 1 _ [.slice (some ⟨g2, 0, none⟩) n n] rfl rfl rfl (by simp [splice])]
  simp [splice, dcells, Dev.fresh]
theorem fresh_in {w : World} {B P g1 g2 n : Nat} (h1 : 1 ≤ n) (h2 : n ≤ 8192) (hP : Arr w P 56 (dcells g1 g2 (.slice none 0 0) (Dev.fresh n))) (ha : Arr w g1 62 (u8s (List.replicate n (List.replicate 64 0)).flatten)) (hb : Arr w g2 62 (u8s (List.replicate n (List.replicate 64 0)).flatten))
    (hne : g1 ≠ g2) (l0 : B ≤ P) (l1 : B ≤ g1) (l2 : B ≤ g2) : DevAt w B P (Dev.fresh n) :=
  ⟨g1, g2, _, hP, ha, hb, World.ownsRow_nil _ _ _ _, hne, ⟨l0, l1, l2⟩, Dev.fresh_ok h1 h2⟩

theorem new_end {w W1 W2 : World} {ga gb n : Nat} (ha : Arr W1 ga 62 (u8s (List.replicate n (List.replicate 64 0)).flatten)) (hb : Below w.heap.size w W1) (hga : ga = w.heap.size)
    (ha2 : Arr W2 gb 62 (u8s (List.replicate n (List.replicate 64 0)).flatten)) (hb2 : Below W1.heap.size W1 W2) (hgb : gb = W1.heap.size) :
    Below w.heap.size w W2 ∧ w.heap.size ≤ W2.heap.size ∧ ga ≠ gb ∧ w.heap.size ≤ ga ∧ w.heap.size ≤ gb ∧ (∀ o, Arr (W2.alloc o) ga 62 (u8s (List.replicate n (List.replicate 64 0)).flatten)) ∧ (∀ o, Arr (W2.alloc o) gb 62 (u8s (List.replicate n (List.replicate 64 0)).flatten)) := by
  have l1 := ha.lt
  have l2 := hb.size
  have l3 := hb2.size
  have e : Arr W2 ga 62 (u8s (List.replicate n (List.replicate 64 0)).flatten) := ha.only (only_beyond (S := fun _ => False) hb2) (fun h => h)
  exact ⟨hb.trans ⟨hb2.os, hb2.tape, hb2.output, hb2.size, fun k hk => hb2.block k (by omega)⟩, by omega, by omega, by omega, by omega, fun o => e.alloc o, fun o => ha2.alloc o⟩

set_option maxRecDepth 1000000 in
set_option maxHeartbeats 4000000 in
theorem new_ok {n : Nat} (h1 : 1 ≤ n) (h2 : n ≤ 8192) (w : World) : Calls Tryd.prog 8 #[.int .i64 (n : Int)] w fun e w' => ∃ P, e = .returned (.tuple #[.pointer (some ⟨P, 0, none⟩), .int .i64 0]) ∧ DevAt w' w.heap.size P (Dev.fresh n) ∧ Below w.heap.size w w' := by
  have t1 : decide ((n : Int) < 1) = false := by simp; omega
  have t2 : decide ((8192 : Int) < (n : Int)) = false := by simp; omega
  go_enter Tryd.func8, Tryd.ntmps8
  repeat (first | go_values | go_skip | go_guarded | go_step | go_upon)
  refine wp_region_held_drew (S := fun _ => True) (by kernel_rfl) trivial (fun _ => ?_)
  refine anyH_take (i := 0) (some 10) (v := _) rfl rfl (by kernel_rfl) (by kernel_rfl) (by kernel_rfl) (fun _ _ _ h => h) (by rfl) (trivial) (by intro w hSw; go_simp; try with_reducible rfl) ?_
  (try simp only [Act.put, List.setIfInBounds_toArray, List.set_cons_zero, List.set_cons_succ])
  refine anyH_take (i := 2) (some 12) (v := _) rfl rfl (by kernel_rfl) (by kernel_rfl) (by kernel_rfl) (fun _ _ _ h => h) (by rfl) (trivial) (by intro w hSw; go_simp; try with_reducible rfl) ?_
  (try simp only [Act.put, List.setIfInBounds_toArray, List.set_cons_zero, List.set_cons_succ])
  refine wpAnyH_ready (rs := [1, 3]) (by kernel_rfl) (by simp) (AllReadyH.cons rfl (fun K hK => ?_) (AllReadyH.cons rfl (fun K hK => ?_) AllReadyH.nil))
  · refine step_make_sect (some 11) rfl rfl (.tmp 10) (.tmp 10) rfl n h2 rfl rfl ?_
    intro W1 ga haga hbga hnga
    have HAga := Lib.hid haga
    have HBga := Lib.hid hbga
    have HNga := Lib.hid hnga
    clear haga hbga hnga
    refine hK.out _ _ (trivial) (fun _ => ?_)
    clear hK K
    (try simp only [Act.put, List.setIfInBounds_toArray, List.set_cons_zero, List.set_cons_succ])
    refine wpAnyH_ready (rs := [3]) (by kernel_rfl) (by simp) (AllReadyH.cons rfl (fun K hK => ?_) AllReadyH.nil)
    refine step_make_sect (some 13) rfl rfl (.tmp 12) (.tmp 12) rfl n h2 rfl rfl ?_
    intro W2 gb hagb hbgb hngb
    have HAgb := Lib.hid hagb
    have HBgb := Lib.hid hbgb
    have HNgb := Lib.hid hngb
    clear hagb hbgb hngb
    refine hK.out _ _ (trivial) (fun _ => ?_)
    clear hK K
    (try simp only [Act.put, List.setIfInBounds_toArray, List.set_cons_zero, List.set_cons_succ])
    refine anyH_take (i := 4) (some 14) (v := _) rfl rfl (by kernel_rfl) (by kernel_rfl) (by kernel_rfl) (fun _ _ _ h => h) (by rfl) (trivial) (fun W _ => run_built_op W 56 #[(0, .tmp 11), (1, .tmp 13)] rfl _ (by simp [Act.eval]) _ (built_dev n ga gb)) ?_
    (try simp only [Act.put, List.setIfInBounds_toArray, List.set_cons_zero, List.set_cons_succ])
    refine wpAnyH_ready (rs := [5]) (by kernel_rfl) (by simp) (AllReadyH.cons rfl (fun K hK => ?_) AllReadyH.nil)
    refine step_runs (some 15) rfl rfl (run_box_op _ 56 (.tmp 14) rfl _ rfl) ?_
    refine hK.out _ _ (trivial) (fun _ => ?_)
    clear hK K
    (try simp only [Act.put, List.setIfInBounds_toArray, List.set_cons_zero, List.set_cons_succ])
    refine anyH_take (i := 6) (some 2) (v := _) rfl rfl (by kernel_rfl) (by kernel_rfl) (by kernel_rfl) (fun _ _ _ h => h) (by rfl) (trivial) (by intro w hSw; go_simp; try with_reducible rfl) ?_
    (try simp only [Act.put, List.setIfInBounds_toArray, List.set_cons_zero, List.set_cons_succ])
    refine anyH_take (i := 7) (some 3) (v := _) rfl rfl (by kernel_rfl) (by kernel_rfl) (by kernel_rfl) (fun _ _ _ h => h) (by rfl) (trivial) (by intro w hSw; go_simp; try with_reducible rfl) ?_
    (try simp only [Act.put, List.setIfInBounds_toArray, List.set_cons_zero, List.set_cons_succ])
    refine wpAnyH_done (by kernel_rfl) ?_ _
    repeat (first | go_values | go_skip | go_guarded | go_step | go_upon)
    go_ret2
    obtain ⟨a1, a2, a3, a4, a5, a6, a7⟩ := new_end (w := w) HAga.out (below_undrew HBga.out) HNga.out HAgb.out HBgb.out HNgb.out
    exact ⟨_, rfl, fresh_in h1 h2 (arr_new W2 _ _) (a6 _) (a7 _) a3 a2 a4 a5, a1.alloc a2 _⟩
  · refine step_make_sect (some 13) rfl rfl (.tmp 12) (.tmp 12) rfl n h2 rfl rfl ?_
    intro W1 ga haga hbga hnga
    have HAga := Lib.hid haga
    have HBga := Lib.hid hbga
    have HNga := Lib.hid hnga
    clear haga hbga hnga
    refine hK.out _ _ (trivial) (fun _ => ?_)
    clear hK K
    (try simp only [Act.put, List.setIfInBounds_toArray, List.set_cons_zero, List.set_cons_succ])
    refine wpAnyH_ready (rs := [1]) (by kernel_rfl) (by simp) (AllReadyH.cons rfl (fun K hK => ?_) AllReadyH.nil)
    refine step_make_sect (some 11) rfl rfl (.tmp 10) (.tmp 10) rfl n h2 rfl rfl ?_
    intro W2 gb hagb hbgb hngb
    have HAgb := Lib.hid hagb
    have HBgb := Lib.hid hbgb
    have HNgb := Lib.hid hngb
    clear hagb hbgb hngb
    refine hK.out _ _ (trivial) (fun _ => ?_)
    clear hK K
    (try simp only [Act.put, List.setIfInBounds_toArray, List.set_cons_zero, List.set_cons_succ])
    refine anyH_take (i := 4) (some 14) (v := _) rfl rfl (by kernel_rfl) (by kernel_rfl) (by kernel_rfl) (fun _ _ _ h => h) (by rfl) (trivial) (fun W _ => run_built_op W 56 #[(0, .tmp 11), (1, .tmp 13)] rfl _ (by simp [Act.eval]) _ (built_dev n gb ga)) ?_
    (try simp only [Act.put, List.setIfInBounds_toArray, List.set_cons_zero, List.set_cons_succ])
    refine wpAnyH_ready (rs := [5]) (by kernel_rfl) (by simp) (AllReadyH.cons rfl (fun K hK => ?_) AllReadyH.nil)
    refine step_runs (some 15) rfl rfl (run_box_op _ 56 (.tmp 14) rfl _ rfl) ?_
    refine hK.out _ _ (trivial) (fun _ => ?_)
    clear hK K
    (try simp only [Act.put, List.setIfInBounds_toArray, List.set_cons_zero, List.set_cons_succ])
    refine anyH_take (i := 6) (some 2) (v := _) rfl rfl (by kernel_rfl) (by kernel_rfl) (by kernel_rfl) (fun _ _ _ h => h) (by rfl) (trivial) (by intro w hSw; go_simp; try with_reducible rfl) ?_
    (try simp only [Act.put, List.setIfInBounds_toArray, List.set_cons_zero, List.set_cons_succ])
    refine anyH_take (i := 7) (some 3) (v := _) rfl rfl (by kernel_rfl) (by kernel_rfl) (by kernel_rfl) (fun _ _ _ h => h) (by rfl) (trivial) (by intro w hSw; go_simp; try with_reducible rfl) ?_
    (try simp only [Act.put, List.setIfInBounds_toArray, List.set_cons_zero, List.set_cons_succ])
    refine wpAnyH_done (by kernel_rfl) ?_ _
    repeat (first | go_values | go_skip | go_guarded | go_step | go_upon)
    go_ret2
    obtain ⟨a1, a2, a3, a4, a5, a6, a7⟩ := new_end (w := w) HAga.out (below_undrew HBga.out) HNga.out HAgb.out HBgb.out HNgb.out
    exact ⟨_, rfl, fresh_in h1 h2 (arr_new W2 _ _) (a7 _) (a6 _) (fun h => a3 h.symm) a2 a5 a4, a1.alloc a2 _⟩
end Go.Proofs.YtngeilhdambgfaaDoor
