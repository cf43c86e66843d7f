/- Package hold: Covers, Meets, Any. -/
import Derived.Test.YtphgkkdpdiiioaaHoSome
import Derived.Laws.IdiomRangeMap
import Derived.Shelf.Abstract
namespace Go.Proofs.Ytphgkkdpdiiioaa
open Go.RowKit Go.Maps Go.Shelf

set_option maxHeartbeats 4000000 in
theorem hosome_nil {w : World} {rv : Value} {s : ByteArray} {fv : Value} (hh : Calls Try.prog 24 #[rv] w fun e w' => e = .returned (.map none) ∧ w' = w) :
    Calls Try.prog 25 #[rv, .string s, fv] w fun e w' => e = .returned (.bool false) ∧ Below w.heap.size w w' := by
  have HH := Lib.hid hh
  have hr := fun w => run_range_nilMap (P := Try.prog) w 50 _ _ mapT
  have hnx := run_next_nilMap (P := Try.prog) w
  clear hh
  go_enter Try.func25, Try.ntmps25
  go_wp2_with (go_at_call 24; refine (HH.out).mono ?_; rintro e W1 ⟨rfl, hw1⟩; replace hw1 := hw1.symm; subst hw1)
  refine wp_loop_rounds 1 ?_
  rw [rounds_succ]
  go_wp2
  go_ret
  exact ⟨rfl, (Below.refl _ _).alloc (Nat.le_refl _) _⟩
set_option maxHeartbeats 4000000 in
theorem hoclo_cov {W : World} {C : Nat} {t : Int} (a b : Int) (hC : W.heap[C]? = some (.cells #[.int .i64 t] 2 (0, 0))) :
    Calls Try.prog 26 #[.agg #[.int .i64 a, .int .i64 b], .pointer (some ⟨C, 0, none⟩)] W fun e w' => e = .returned (.bool (inR a b t)) ∧ Below W.heap.size W w' := by
  have HI : Hid (∀ W, Calls Try.prog 27 #[.agg #[.int .i64 a, .int .i64 b], .int .i64 t] W fun e w' => e = .returned (.bool (inR a b t)) ∧ Below W.heap.size W w') := Lib.hid fun W => wiin_any W a b t
  obtain ⟨c0, -⟩ := cells1 ((Below.heap_alloc W (.cells #[.int .i64 a, .int .i64 b] 24) _ (lt_of_block hC)).trans hC)
  have HB : Hid (Below W.heap.size W (W.alloc (.cells #[.int .i64 a, .int .i64 b] 24))) := Lib.hid ((Below.refl _ _).alloc (Nat.le_refl _) _)
  obtain ⟨R, hR⟩ : ∃ R, R = inR a b t := ⟨_, rfl⟩
  rw [← hR] at HI ⊢
  clear hC hR
  go_enter Try.func26, Try.ntmps26
  go_wp2_with (go_at_call 27; refine (HI.out _).mono ?_; rintro e W1 ⟨rfl, hb1⟩; have HB1 := Lib.hid (HB.out.trans (hb1.mono HB.out.size)); clear hb1)
  go_ret
  exact ⟨rfl, HB1.out⟩
set_option maxHeartbeats 4000000 in
theorem hoclo_meet {W : World} {C : Nat} {c d : Int} (a b : Int) (hC : RgAt W C c d) :
    Calls Try.prog 28 #[.agg #[.int .i64 a, .int .i64 b], .pointer (some ⟨C, 0, none⟩)] W fun e w' => e = .returned (.bool (meetsR a b c d)) ∧ Below W.heap.size W w' := by
  have HI : Hid (∀ W, Calls Try.prog 29 #[.agg #[.int .i64 a, .int .i64 b], .agg #[.int .i64 c, .int .i64 d]] W fun e w' => e = .returned (.bool (meetsR a b c d)) ∧ Below W.heap.size W w') := Lib.hid fun W => wimeets_any W a b c d
  obtain ⟨c0, c1, -, -⟩ := (hC.old (.cells #[.int .i64 a, .int .i64 b] 24)).cells
  have HB : Hid (Below W.heap.size W (W.alloc (.cells #[.int .i64 a, .int .i64 b] 24))) := Lib.hid ((Below.refl _ _).alloc (Nat.le_refl _) _)
  obtain ⟨R, hR⟩ : ∃ R, R = meetsR a b c d := ⟨_, rfl⟩
  rw [← hR] at HI ⊢
  clear hC hR
  go_enter Try.func28, Try.ntmps28
  go_wp2_with (go_at_call 29; refine (HI.out _).mono ?_; rintro e W1 ⟨rfl, hb1⟩; have HB1 := Lib.hid (HB.out.trans (hb1.mono HB.out.size)); clear hb1)
  go_ret
  exact ⟨rfl, HB1.out⟩
theorem hoclo_any (W : World) (a b : Int) :
    Calls Try.prog 30 #[.agg #[.int .i64 a, .int .i64 b]] W fun e w' => e = .returned (.bool true) ∧ Below W.heap.size W w' := by
  go_enter Try.func30, Try.ntmps30
  go_wp2
  go_ret
  exact ⟨rfl, (Below.refl _ _).alloc (Nat.le_refl _) _⟩
/-- whatever map there is -/
theorem hosome_any {w : World} {p : Nat} {b : Option Nat} {m : List Hld} {s : ByteArray} {fn : FuncId} {cb : Array Value} {f : Int → Int → Bool} (h : TabAt w p b m) (t : TabM m)
    (hf : ∀ W a b, Below w.heap.size w W → Calls Try.prog fn (#[.agg #[.int .i64 a, .int .i64 b]] ++ cb) W fun e w' => e = .returned (.bool (f a b)) ∧ Below W.heap.size W w') (eg : ∀ args W, (callFunc fn args).run Try.prog W = .ok (.enter fn args) W) :
    Calls Try.prog 25 #[.pointer (some ⟨p, 0, none⟩), .string s, .func (.func fn) #[] cb] w fun e w' => e = .returned (.bool (someH m s f)) ∧ Below w.heap.size w w' := by
  cases b with
  | some g => exact hosome_map h t hf eg
  | none =>
    have hm := h.nil0 rfl
    subst hm
    exact hosome_nil (hoheld_any h)
set_option maxHeartbeats 4000000 in
theorem hocov_any {w : World} {p : Nat} {b : Option Nat} {m : List Hld} (h : TabAt w p b m) (t : TabM m) (s : ByteArray) (x : Int) :
    Calls Try.prog 15 #[.pointer (some ⟨p, 0, none⟩), .string s, .int .i64 x] w fun e w' => e = .returned (.bool (someH m s fun a b => inR a b x)) ∧ Below w.heap.size w w' := by
  have hb0 : Below w.heap.size w (w.alloc (.cells #[.int .i64 x] 2)) := (Below.refl _ _).alloc (Nat.le_refl _) _
  have HS := Lib.hid (hosome_any (s := s) (fn := 26) (cb := #[.pointer (some ⟨w.heap.size, 0, none⟩)]) (f := fun a b => inR a b x) (h.below hb0) t (fun W a b hW => hoclo_cov (C := w.heap.size) (t := x) a b ((hW.block _ (by simp)).trans (heap_alloc_new w _))) (enters_of Try.func26 (by kernel_rfl) rfl))
  have HB := Lib.hid hb0
  obtain ⟨R, hR⟩ : ∃ R, R = someH m s fun a b => inR a b x := ⟨_, rfl⟩
  rw [← hR] at HS ⊢
  clear h hb0 hR
  go_enter Try.func15, Try.ntmps15
  go_wp2_with (go_at_call 25; refine (HS.out).mono ?_; rintro e W1 ⟨rfl, hb1⟩; have HB1 := Lib.hid (HB.out.trans (hb1.mono HB.out.size)); clear hb1)
  go_ret
  exact ⟨rfl, HB1.out⟩
set_option maxHeartbeats 4000000 in
theorem homeet_any {w : World} {p : Nat} {b : Option Nat} {m : List Hld} (h : TabAt w p b m) (t : TabM m) (s : ByteArray) (c d : Int) :
    Calls Try.prog 16 #[.pointer (some ⟨p, 0, none⟩), .string s, .agg #[.int .i64 c, .int .i64 d]] w fun e w' => e = .returned (.bool (someH m s fun a b => meetsR a b c d)) ∧ Below w.heap.size w w' := by
  have hb0 : Below w.heap.size w (w.alloc (.cells #[.int .i64 c, .int .i64 d] 24)) := (Below.refl _ _).alloc (Nat.le_refl _) _
  have HS := Lib.hid (hosome_any (s := s) (fn := 28) (cb := #[.pointer (some ⟨w.heap.size, 0, none⟩)]) (f := fun a b => meetsR a b c d) (h.below hb0) t (fun W a b hW => hoclo_meet (C := w.heap.size) (c := c) (d := d) a b ((hW.block _ (by simp)).trans (heap_alloc_new w _))) (enters_of Try.func28 (by kernel_rfl) rfl))
  have HB := Lib.hid hb0
  obtain ⟨R, hR⟩ : ∃ R, R = someH m s fun a b => meetsR a b c d := ⟨_, rfl⟩
  rw [← hR] at HS ⊢
  clear h hb0 hR
  go_enter Try.func16, Try.ntmps16
  go_wp2_with (go_at_call 25; refine (HS.out).mono ?_; rintro e W1 ⟨rfl, hb1⟩; have HB1 := Lib.hid (HB.out.trans (hb1.mono HB.out.size)); clear hb1)
  go_ret
  exact ⟨rfl, HB1.out⟩
set_option maxHeartbeats 4000000 in
theorem hoany_any {w : World} {p : Nat} {b : Option Nat} {m : List Hld} (h : TabAt w p b m) (t : TabM m) (s : ByteArray) :
    Calls Try.prog 17 #[.pointer (some ⟨p, 0, none⟩), .string s] w fun e w' => e = .returned (.bool (someH m s fun _ _ => true)) ∧ Below w.heap.size w w' := by
  have HS := Lib.hid (hosome_any (s := s) (fn := 30) (cb := #[]) (f := fun _ _ => true) h t (fun W a b _ => hoclo_any W a b) (enters_of Try.func30 (by kernel_rfl) rfl))
  obtain ⟨R, hR⟩ : ∃ R, R = someH m s fun _ _ => true := ⟨_, rfl⟩
  rw [← hR] at HS ⊢
  clear h hR
  go_enter Try.func17, Try.ntmps17
  go_wp2_with (go_at_call 25; refine (HS.out).mono ?_; rintro e W1 ⟨rfl, hb1⟩; have HB1 := Lib.hid hb1; clear hb1)
  go_ret
  exact ⟨rfl, HB1.out⟩
/-! ### where there is none -/
theorem hocov_none (w : World) (s : ByteArray) (x : Int) : Calls Try.prog 15 #[.pointer none, .string s, .int .i64 x] w fun e w' => e = .returned (.bool false) ∧ Below w.heap.size w w' := by
  have HS : Hid (∀ fv, Calls Try.prog 25 #[.pointer none, .string s, fv] (w.alloc (.cells #[.int .i64 x] 2)) fun e w' => e = .returned (.bool false) ∧ Below (w.alloc (.cells #[.int .i64 x] 2)).heap.size (w.alloc (.cells #[.int .i64 x] 2)) w') := Lib.hid fun fv => hosome_nil (hoheld_none _)
  have HB : Hid (Below w.heap.size w (w.alloc (.cells #[.int .i64 x] 2))) := Lib.hid ((Below.refl _ _).alloc (Nat.le_refl _) _)
  go_enter Try.func15, Try.ntmps15
  go_wp2_with (go_at_call 25; refine (HS.out _).mono ?_; rintro e W1 ⟨rfl, hb1⟩; have HB1 := Lib.hid (HB.out.trans (hb1.mono HB.out.size)); clear hb1)
  go_ret
  exact ⟨rfl, HB1.out⟩
theorem homeet_none (w : World) (s : ByteArray) (c d : Int) : Calls Try.prog 16 #[.pointer none, .string s, .agg #[.int .i64 c, .int .i64 d]] w fun e w' => e = .returned (.bool false) ∧ Below w.heap.size w w' := by
  have HS : Hid (∀ fv, Calls Try.prog 25 #[.pointer none, .string s, fv] (w.alloc (.cells #[.int .i64 c, .int .i64 d] 24)) fun e w' => e = .returned (.bool false) ∧ Below (w.alloc (.cells #[.int .i64 c, .int .i64 d] 24)).heap.size (w.alloc (.cells #[.int .i64 c, .int .i64 d] 24)) w') := Lib.hid fun fv => hosome_nil (hoheld_none _)
  have HB : Hid (Below w.heap.size w (w.alloc (.cells #[.int .i64 c, .int .i64 d] 24))) := Lib.hid ((Below.refl _ _).alloc (Nat.le_refl _) _)
  go_enter Try.func16, Try.ntmps16
  go_wp2_with (go_at_call 25; refine (HS.out _).mono ?_; rintro e W1 ⟨rfl, hb1⟩; have HB1 := Lib.hid (HB.out.trans (hb1.mono HB.out.size)); clear hb1)
  go_ret
  exact ⟨rfl, HB1.out⟩
theorem hoany_none (w : World) (s : ByteArray) : Calls Try.prog 17 #[.pointer none, .string s] w fun e w' => e = .returned (.bool false) ∧ Below w.heap.size w w' := by
  have HS : Hid (∀ fv, Calls Try.prog 25 #[.pointer none, .string s, fv] w fun e w' => e = .returned (.bool false) ∧ Below w.heap.size w w') := Lib.hid fun fv => hosome_nil (hoheld_none _)
  go_enter Try.func17, Try.ntmps17
  go_wp2_with (go_at_call 25; refine (HS.out _).mono ?_; rintro e W1 ⟨rfl, hb1⟩; have HB1 := Lib.hid hb1; clear hb1)
  go_ret
  exact ⟨rfl, HB1.out⟩
end Go.Proofs.Ytphgkkdpdiiioaa
