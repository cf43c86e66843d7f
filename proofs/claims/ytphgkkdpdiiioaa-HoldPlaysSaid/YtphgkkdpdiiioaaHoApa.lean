/- Package hold: a hold apart. -/
import Derived.Test.YtphgkkdpdiiioaaHoNam
namespace Go.Proofs.Ytphgkkdpdiiioaa
open Go.RowKit

/-- between two operations: what is cloned lies, what is told waits -/
def ApQ (w : World) (B : Nat) (n s : ByteArray) (a b : Int) (W : World) : Prop :=
  W.heap[B]? = some (.cells #[.string n, .string s, .int .i64 a, .int .i64 b] 30 (0, 0)) ∧ W.heap[B + 1]? = some (.cells #[.string ⟨#[]⟩, .string ⟨#[]⟩, .int .i64 0, .int .i64 0] 30 (0, 0)) ∧ Below w.heap.size w W ∧ B = w.heap.size
abbrev ApS (w : World) (B : Nat) (n s : ByteArray) (a b : Int) (W : World) : Prop := W.cell? ⟨B, 0, none⟩ = some (.string n) ∧ W.cell? ⟨B, 1, none⟩ = some (.string s) ∧ W.frozen? ⟨B, 0, none⟩ = false ∧ W.frozen? ⟨B, 1, none⟩ = false ∧ ApQ w B n s a b W
theorem ApQ.s {w W : World} {B : Nat} {n s : ByteArray} {a b : Int} (q : ApQ w B n s a b W) : ApS w B n s a b W :=
  ⟨by rw [cell_of_row W B 0 _ _ _ q.1]; rfl, by rw [cell_of_row W B 1 _ _ _ q.1]; rfl, by simp [World.frozen?, q.1], by simp [World.frozen?, q.1], q⟩
theorem ApS.draw {w W : World} {B : Nat} {n s : ByteArray} {a b : Int} (q : ApS w B n s a b W) : ApS w B n s a b W.drew := ApQ.s ⟨q.2.2.2.2.1, q.2.2.2.2.2.1, below_drew q.2.2.2.2.2.2.1, q.2.2.2.2.2.2.2⟩
theorem ApS.beyond {w W W' : World} {B : Nat} {n s : ByteArray} {a b : Int} (q : ApS w B n s a b W) (hb : Below W.heap.size W W') : ApS w B n s a b W' := by
  obtain ⟨-, -, -, -, q1, q2, q3, q4⟩ := q
  exact ApQ.s ⟨(hb.block _ (lt_of_block q1)).trans q1, (hb.block _ (lt_of_block q2)).trans q2, q3.trans (hb.mono q3.size), q4⟩
theorem ApS.set0 {w W : World} {B : Nat} {n s : ByteArray} {a b : Int} (q : ApS w B n s a b W) : ApS w B n s a b (W.setCell ⟨B, 0, none⟩ (.string n)) := by
  obtain ⟨-, -, -, -, q1, q2, q3, q4⟩ := q
  have o : Only (fun k => k = B) W (W.setCell ⟨B, 0, none⟩ (.string n)) := Only.setCell (S := fun k => k = B) _ rfl _
  refine ApQ.s ⟨by rw [heap_setCell_same W B 0 _ _ _ q1]; simp, (o.block _ (lt_of_block q2) (by omega)).trans q2, q3.trans (o.below q3.size (fun k hk => by omega)), q4⟩
theorem ApS.set1 {w W : World} {B : Nat} {n s : ByteArray} {a b : Int} (q : ApS w B n s a b W) : ApS w B n s a b (W.setCell ⟨B, 1, none⟩ (.string s)) := by
  obtain ⟨-, -, -, -, q1, q2, q3, q4⟩ := q
  have o : Only (fun k => k = B) W (W.setCell ⟨B, 1, none⟩ (.string s)) := Only.setCell (S := fun k => k = B) _ rfl _
  refine ApQ.s ⟨by rw [heap_setCell_same W B 1 _ _ _ q1]; simp, (o.block _ (lt_of_block q2) (by omega)).trans q2, q3.trans (o.below q3.size (fun k hk => by omega)), q4⟩
/-- a hold stored -/
def setHo (w : World) (P : Nat) (n s : ByteArray) (a b : Int) : World := (((w.setCell ⟨P, 0, none⟩ (.string n)).setCell ⟨P, 1, none⟩ (.string s)).setCell ⟨P, 2, none⟩ (.int .i64 a)).setCell ⟨P, 3, none⟩ (.int .i64 b)
theorem setHo_only (w : World) (P : Nat) (n s : ByteArray) (a b : Int) : Only (fun k => k = P) w (setHo w P n s a b) :=
  (((Only.setCell (S := fun k => k = P) _ rfl _).trans (Only.setCell (S := fun k => k = P) _ rfl _) (fun _ _ h => h)).trans (Only.setCell (S := fun k => k = P) _ rfl _) (fun _ _ h => h)).trans (Only.setCell (S := fun k => k = P) _ rfl _) (fun _ _ h => h)
theorem setHo_at {w : World} {P : Nat} {v0 v1 v2 v3 : Value} {t : TypeId} (h : w.heap[P]? = some (.cells #[v0, v1, v2, v3] t (0, 0))) (n s : ByteArray) (a b : Int) : (setHo w P n s a b).heap[P]? = some (.cells #[.string n, .string s, .int .i64 a, .int .i64 b] t (0, 0)) := by
  have h1 := heap_setCell_same w P 0 _ _ (.string n) h
  have h2 := heap_setCell_same _ P 1 _ _ (.string s) h1
  have h3 := heap_setCell_same _ P 2 _ _ (.int .i64 a) h2
  have h4 := heap_setCell_same _ P 3 _ _ (.int .i64 b) h3
  unfold setHo
  rw [h4]; simp
theorem ret_ho {fn : Func} {p : Tmp} (h : fn.results = #[.cell p 30]) {tmps : Array Value} {w : World} {Q : Nat} {v0 v1 v2 v3 : Value} (hp : tmps.getD p undef = .pointer (some ⟨Q, 0, none⟩)) (hq : w.heap[Q]? = some (.cells #[v0, v1, v2, v3] 30 (0, 0))) :
    (results fn tmps).run Try.prog w = .ok (.agg #[v0, v1, v2, v3]) w := by
  have c0 : w.cell? ⟨Q, 0, none⟩ = some v0 := by rw [cell_of_row w Q 0 _ _ _ hq]; rfl
  have c1 : w.cell? ⟨Q, 1, none⟩ = some v1 := by rw [cell_of_row w Q 1 _ _ _ hq]; rfl
  have c2 : w.cell? ⟨Q, 2, none⟩ = some v2 := by rw [cell_of_row w Q 2 _ _ _ hq]; rfl
  have c3 : w.cell? ⟨Q, 3, none⟩ = some v3 := by rw [cell_of_row w Q 3 _ _ _ hq]; rfl
  rw [results_cell h, hp]
  go_simp
set_option maxHeartbeats 8000000 in
theorem hoapart_any (w : World) (n s : ByteArray) (a b : Int) (hn : n.size < 1000000000000) (hs : s.size < 1000000000000) :
    Calls Try.prog 22 #[.agg #[.string n, .string s, .int .i64 a, .int .i64 b]] w fun e w' => e = .returned (.agg #[.string n, .string s, .int .i64 a, .int .i64 b]) ∧ Below w.heap.size w w' := by
  have H1 : Hid (∀ W, Calls Try.prog 38 #[.string n] W fun e w' => e = .returned (.string n) ∧ Below W.heap.size W w') := Lib.hid fun W => clone_text W n hn
  have H2 : Hid (∀ W, Calls Try.prog 38 #[.string s] W fun e w' => e = .returned (.string s) ∧ Below W.heap.size W w') := Lib.hid fun W => clone_text W s hs
  clear hn hs
  go_enter Try.func22, Try.ntmps22
  go_wp2_with fail
  refine wp_name fun W hW => ?_
  obtain ⟨B, hB⟩ : ∃ B, B = w.heap.size := ⟨_, rfl⟩
  have HQ : Hid (ApS w B n s a b W) := Lib.hid (ApQ.s ⟨by rw [hW.out, hB]; exact (Below.heap_alloc _ _ _ (by simp)).trans (heap_alloc_new _ _), by rw [hW.out, hB]; have := heap_alloc_new (w.alloc (.cells #[.string n, .string s, .int .i64 a, .int .i64 b] 30)) (.cells #[.string ⟨#[]⟩, .string ⟨#[]⟩, .int .i64 0, .int .i64 0] 30); simpa using this, by rw [hW.out]; exact ((Below.refl _ _).alloc (Nat.le_refl _) _).alloc (by simp) _, hB⟩)
  have HD := Lib.hid HQ.out.draw
  have HBB := Lib.hid hB
  rw [← hB]
  clear hW hB
  have C0 := HD.out.1
  have C1 := HD.out.2.1
  have F0 := HD.out.2.2.1
  have F1 := HD.out.2.2.2.1
  go_region_held3 (fun w' => w'.cell? ⟨B, 0, none⟩ = some (.string n) ∧ w'.cell? ⟨B, 1, none⟩ = some (.string s) ∧ w'.frozen? ⟨B, 0, none⟩ = false ∧ w'.frozen? ⟨B, 1, none⟩ = false ∧ ApQ w B n s a b w') (first | with_reducible exact HQ.out | with_reducible exact HD.out | with_reducible exact HS3.out | with_reducible exact HS4.out | with_reducible exact HS5.out | with_reducible exact HS6.out) ((first | (go_at_call 38; refine (H1.out _).mono ?_; clear H1; rintro e W3 ⟨rfl, hb3⟩; have HS3 : Hid (ApS w B n s a b W3) := Lib.hid (HD.out.beyond hb3); clear hb3) | (go_at_call 38; refine (H2.out _).mono ?_; clear H2; rintro e W4 ⟨rfl, hb4⟩; have HS4 : Hid (ApS w B n s a b W4) := Lib.hid (HS3.out.beyond hb4); have HS5 : Hid (ApS w B n s a b (W4.setCell ⟨B, 0, none⟩ (.string n))) := Lib.hid HS4.out.set0; have HS6 : Hid (ApS w B n s a b ((W4.setCell ⟨B, 0, none⟩ (.string n)).setCell ⟨B, 1, none⟩ (.string s))) := Lib.hid HS5.out.set1; clear hb4)))
  obtain ⟨W7, hW7⟩ : ∃ W7, W7 = (W4.setCell ⟨B, 0, none⟩ (.string n)).setCell ⟨B, 1, none⟩ (.string s) := ⟨_, rfl⟩
  have HS7 : Hid (ApQ w B n s a b W7) := Lib.hid (by rw [hW7]; exact HS6.out.2.2.2.2)
  rw [← hW7]
  clear hW7 C0 C1 F0 F1
  have X : Hid (∀ i v, [Value.string n, .string s, .int .i64 a, .int .i64 b][i]? = some v → W7.cell? ⟨B, i, none⟩ = some v) := Lib.hid fun i v hv => (show Arr W7 B 30 [.string n, .string s, .int .i64 a, .int .i64 b] from HS7.out.1).cell hv
  have c0 := X.out 0 _ rfl
  have c1 := X.out 1 _ rfl
  have c2 := X.out 2 _ rfl
  have c3 := X.out 3 _ rfl
  have Y : Hid (∀ i, W7.frozen? ⟨B + 1, i, none⟩ = false) := Lib.hid fun i => (show Arr W7 (B + 1) 30 [.string ⟨#[]⟩, .string ⟨#[]⟩, .int .i64 0, .int .i64 0] from HS7.out.2.1).free i
  have Z : Hid (∀ i v, [Value.string ⟨#[]⟩, .string ⟨#[]⟩, .int .i64 0, .int .i64 0][i]? = some v → W7.cell? ⟨B + 1, i, none⟩ = some v) := Lib.hid fun i v hv => (show Arr W7 (B + 1) 30 [.string ⟨#[]⟩, .string ⟨#[]⟩, .int .i64 0, .int .i64 0] from HS7.out.2.1).cell hv
  have d0 := Z.out 0 _ rfl
  have d1 := Z.out 1 _ rfl
  have d2 := Z.out 2 _ rfl
  have d3 := Z.out 3 _ rfl
  have g0 := Y.out 0
  have g1 := Y.out 1
  have g2 := Y.out 2
  have g3 := Y.out 3
  go_wp2_with fail
  refine bodyPost_ret (ret_ho (Q := B + 1) rfl rfl (setHo_at HS7.out.2.1 n s a b)) rfl ?_
  exact ⟨rfl, HS7.out.2.2.1.trans ((setHo_only W7 (B + 1) n s a b).below HS7.out.2.2.1.size (fun k hk => by have := HS7.out.2.2.2; omega))⟩
end Go.Proofs.Ytphgkkdpdiiioaa
