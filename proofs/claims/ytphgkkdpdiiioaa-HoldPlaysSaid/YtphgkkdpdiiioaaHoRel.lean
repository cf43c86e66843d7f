/- Package hold: Release, and a table copied. -/
import Derived.Test.YtphgkkdpdiiioaaHoAddY
import Derived.Shelf.SlMaps.Clone
namespace Go.Proofs.Ytphgkkdpdiiioaa
open Go.RowKit Go.Maps Go.Shelf

theorem wpList_drop_map {W : World} {ops : Array Oper} {rest : List Oper} {o : Oper} {a : Act} {Q : Exit → Act → World → Prop} (hg : o.guard = none) (u x : Operand) (hop : o.op = Op.call { callee := Callee.builtin Builtin.delete, args := #[u, x], argTypes := #[50, 9] }) {g : Nat} {m : List Hld} {n : ByteArray}
    (hm : a.eval u = .map (some g)) (hx : a.eval x = .string n) (hi : MapIs W g m) (hn : n.size ≤ maxLen)
    (hK : ∀ W', MapIs W' g (relM m n) → Only (fun k => k = g) W W' → wpList Try.prog ops Q rest (a.put o.dst (.tuple #[])) W') : wpList Try.prog ops Q (o :: rest) a W := by
  obtain ⟨es, h1, h2⟩ := hi
  refine wpList_delete_own W hg u x _ _ hop 30 keyS mapT readH g _ _ hm h1 _ _ hx (litS_of hn) fun W' r1 r2 => hK W' (MapIs.drop h2 r1) (turned_only r2)
set_option maxHeartbeats 4000000 in
theorem horel_any {w : World} {p : Nat} {b : Option Nat} {m : List Hld} {n : ByteArray} (h : TabAt w p b m) (hn : n.size ≤ maxLen) :
    Calls Try.prog 12 #[.pointer (some ⟨p, 0, none⟩), .string n] w fun e w' => e = .returned (.int .i64 (relE m n)) ∧ TabAt w' p b (relM m n) ∧ Only (TFoot p b) w w' := by
  have HHAS := Lib.hid (hohas_any h hn)
  have HE : Hid (relE m n = if hasH m n = true then 0 else 7) := Lib.hid rfl
  have HT := Lib.hid h
  cases hG : hasH m n with
  | false =>
    rw [hG] at HHAS HE
    have HM : Hid (relM m n = m) := Lib.hid (rel_none hG)
    rw [HM.out, HE.out]
    clear h hn hG HM HE
    go_enter Try.func12, Try.ntmps12
    go_wp2_with (go_at_call 21; refine (HHAS.out).mono ?_; clear HHAS; rintro e W1 ⟨rfl, hb1⟩; have HB1 := Lib.hid hb1; clear hb1)
    go_ret
    exact ⟨rfl, HT.out.below HB1.out, only_beyond HB1.out⟩
  | true =>
    rw [hG] at HHAS HE
    rw [HE.out]
    obtain ⟨g, rfl⟩ : ∃ g, b = some g := by
      cases b with
      | none => rw [h.nil0 rfl] at hG; cases hG
      | some g => exact ⟨g, rfl⟩
    have HN := Lib.hid hn
    clear h hn hG HE
    go_enter Try.func12, Try.ntmps12
    go_wp2_with (first | (go_at_call 21; refine (HHAS.out).mono ?_; clear HHAS; rintro e W1 ⟨rfl, hb1⟩; have HB1 := Lib.hid hb1; have HT1 := Lib.hid (HT.out.below hb1); have cp := HT1.out.cell.1; clear hb1) | (refine wpList_drop_map rfl _ _ rfl rfl rfl (HT1.out.own _ rfl) HN.out ?_; intro W2 hi2 ho2; have HI2 := Lib.hid hi2; have HO2 := Lib.hid ho2; clear hi2 ho2))
    go_ret
    have hne : ¬ p = g := fun e => HT1.out.apart (by rw [e])
    refine ⟨rfl, ⟨(HO2.out.block p (lt_of_block HT1.out.blk) hne).trans HT1.out.blk, fun k hk => by injection hk with hk; subst hk; exact HI2.out, fun e => by cases e⟩, ?_⟩
    exact (only_beyond (S := TFoot p (some g)) HB1.out).trans HO2.out fun k _ e => .inr (by rw [e])
theorem horel_none (w : World) (n : ByteArray) : Calls Try.prog 12 #[.pointer none, .string n] w fun e w' => e = .returned (.int .i64 1) ∧ w' = w := by
  go_enter Try.func12, Try.ntmps12
  go_wp2_with fail
  go_ret
  exact ⟨rfl, rfl⟩
/-! ### a copy -/
set_option maxHeartbeats 4000000 in
theorem hoclone_some {w : World} {g : Nat} {es : Array MapEntry} {c : Nat} (hb : w.heap[g]? = some (.map es c)) :
    Calls Try.prog 23 #[.map (some g)] w fun e w' => e = .returned (.map (some w.heap.size)) ∧ w' = w.alloc (.map es c) := by
  have hq := fun w => run_eqMap (w := w) (some g)
  simp only [Option.isNone_some] at hq
  go_enter Try.func23, Try.ntmps23
  go_wp2
  rw [run_callFunc_extern Try.func39 (by kernel_rfl) (by kernel_rfl) (by kernel_rfl) (e := Extern.MapsClone.clone) (by kernel_rfl), run_maps_clone_sl w 50 hb]
  simp only [Result.andThen]
  rw [Oper.upon_value]
  go_wp2
  rw [run_typeAssert_map_sl _ 50 _ _ _ _ mapT]
  simp only [Result.andThen]
  rw [Oper.upon_value]
  go_wp2
  go_ret
  exact ⟨rfl, rfl⟩
set_option maxHeartbeats 4000000 in
theorem hoclone_none (w : World) :
    Calls Try.prog 23 #[.map none] w fun e w' => e = .returned (.map none) ∧ w' = w := by
  have hq := fun w => run_eqMap (w := w) none
  simp only [Option.isNone_none] at hq
  go_enter Try.func23, Try.ntmps23
  go_wp2
  go_ret
  exact ⟨rfl, rfl⟩
set_option maxHeartbeats 4000000 in
theorem hocopy_any {w : World} {p : Nat} {b : Option Nat} {m : List Hld} (h : TabAt w p b m) :
    Calls Try.prog 13 #[.pointer (some ⟨p, 0, none⟩)] w fun e w' => ∃ q c, e = .returned (.pointer (some ⟨q, 0, none⟩)) ∧ TabAt w' q c m ∧ (∀ k, TFoot q c k → w.heap.size ≤ k) ∧ Below w.heap.size w w' := by
  obtain ⟨cp, -⟩ := h.cell
  cases b with
  | none =>
    have HN := Lib.hid (h.nil0 rfl)
    have HC := Lib.hid (hoclone_none w)
    clear h
    go_enter Try.func13, Try.ntmps13
    go_wp2_with (go_at_call 23; refine (HC.out).mono ?_; rintro e W1 ⟨rfl, hw1⟩; replace hw1 := hw1.symm; subst hw1)
    go_ret
    exact ⟨w.heap.size, none, rfl, by rw [HN.out]; exact TabAt.bare (heap_alloc_new _ _), fun k hk => (by rcases hk with rfl | hk; exact Nat.le_refl _; cases hk), (Below.refl _ _).alloc (Nat.le_refl _) _⟩
  | some g =>
    obtain ⟨es, ⟨e, c, h1, h2⟩, h3⟩ := h.own g rfl
    have HC := Lib.hid (hoclone_some h1)
    have HI : Hid (MapIs (w.alloc (.map e c)) w.heap.size m) := Lib.hid ⟨es, ⟨e, c, heap_alloc_new _ _, h2⟩, h3⟩
    clear h h1 h2 h3
    go_enter Try.func13, Try.ntmps13
    go_wp2_with (go_at_call 23; refine (HC.out).mono ?_; rintro e W1 ⟨rfl, hw1⟩; subst hw1)
    go_ret
    refine ⟨w.heap.size + 1, some w.heap.size, ?_, ⟨?_, fun k hk => by injection hk with hk; subst hk; exact HI.out.below ((Below.refl _ _).alloc (Nat.le_refl _) _), fun e => by cases e⟩, fun k hk => by rcases hk with rfl | hk; omega; injection hk with hk; omega, ((Below.refl _ _).alloc (Nat.le_refl _) _).alloc (by simp) _⟩
    · simp
    · have := heap_alloc_new (w.alloc (.map e c)) (.cells #[.map (some w.heap.size)] 52 (0, 0))
      simpa using this
theorem hocopy_none (w : World) : Calls Try.prog 13 #[.pointer none] w fun e w' => e = .returned (.pointer none) ∧ w' = w := by
  go_enter Try.func13, Try.ntmps13
  go_wp2_with fail
  go_ret
  exact ⟨rfl, rfl⟩
end Go.Proofs.Ytphgkkdpdiiioaa
