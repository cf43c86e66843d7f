/- Package strings: a text cloned. -/
import Derived.Test.YthbdchleppbidaaGreatMZ
import Derived.Lib.UnsafeStr
import Derived.Lib.Strings
import Derived.Lib.BufferWrite
import Derived.OwnWalk
namespace Go.Proofs.YthbdchleppbidaaGreat
open Go.RowKit

/-! ### A text laid over a row of one's own, and told off it -/
def RowAt (w : World) (g : Nat) (l : List Value) : Prop := w.heap[g]? = some (.cells l.toArray 5 (0, 0))
theorem row_new {w : World} {B g n : Nat} {xs : List Value} (h : w.ownsRow B 5 1 (.slice (some ⟨g, 0, none⟩) n n) n xs) : ∃ cur, RowAt w g cur ∧ cur.length = n := by
  rcases h.2 with ⟨hv, _⟩ | ⟨g', cap, cur, hv, _, hg, _, _, hc, _⟩
  · cases hv
  · cases hv
    exact ⟨cur.toList, by unfold RowAt; simpa using hg, by simpa using hc⟩
theorem text_cells (s : ByteArray) : Lib.byteCells s.data.toList = u8s (ordsOf s) := by
  unfold Lib.byteCells u8s ordsOf
  rw [List.map_map]; rfl
theorem wpList_text_over {ops : Array Oper} {rest : List Oper} {o : Oper} {a : Act} {w : World} {Q : Exit → Act → World → Prop} (hgd : o.guard = none) (d x : Operand) (ho : o.op = .call { callee := .builtin .copy, args := #[d, x], argTypes := #[171, 9] })
    (g : Nat) (s : ByteArray) (hd : a.eval d = .slice (some ⟨g, 0, none⟩) s.size s.size) (hx : a.eval x = .string s) (hg : ∃ cur, RowAt w g cur ∧ cur.length = s.size)
    (h : ∀ W, RowAt W g (u8s (ordsOf s)) → Only (fun k => k = g) w W → wpList Tryz.prog ops Q rest (a.put o.dst (goInt s.size)) W) : wpList Tryz.prog ops Q (o :: rest) a w := by
  obtain ⟨cur, hrow, hlen⟩ := hg
  refine wpList_plain hgd fun K hK => ?_
  have hrun := Lib.run_copy_row_string (P := Tryz.prog) w 171 9 o.type 5 g 0 s.size s.size s cur.toArray 5 Tryz.underlying171 (by kernel_rfl) hrow (Nat.le_refl _) (by simp; omega)
  rw [text_cells, List.take_zero, List.nil_append, Nat.zero_add, show cur.toArray.toList.drop s.size = [] from List.drop_of_length_le (by simp; omega), List.append_nil] at hrun
  unfold Oper.wp execOp
  simp only [ho, resolve, invoke, builtin, Sem.run_bind, Sem.run_pure, Result.andThen_ok, List.map_toArray, List.map_cons, List.map_nil, hd, hx, hrun]
  exact hK _ _ (h _ (setRow_heap _ _ _ _ _ _ hrow) ⟨rfl, rfl, rfl, by simp, fun k _ hk => setRow_other _ _ _ _ hk⟩)
theorem wpList_text_told {ops : Array Oper} {rest : List Oper} {o : Oper} {a : Act} {w : World} {Q : Exit → Act → World → Prop} (hgd : o.guard = none) (p n : Operand) (ho : o.op = .call { callee := .builtin .unsafeString, args := #[p, n], argTypes := #[172, 3] })
    (g : Nat) (s : ByteArray) (h0 : 0 < s.size) (hs : s.size < 1000000000000) (hp : a.eval p = .pointer (some ⟨g, 0, none⟩)) (hn : a.eval n = .int .i64 (s.size : Int)) (hrow : RowAt w g (u8s (ordsOf s)))
    (h : ∀ W, Only (fun k => k = g) w W → wpList Tryz.prog ops Q rest (a.put o.dst (.string s)) W) : wpList Tryz.prog ops Q (o :: rest) a w := by
  refine wpList_plain hgd fun K hK => ?_
  have hl : s.data.toList.length = s.size := by rw [Array.length_toList]; rfl
  have hu : (u8s (ordsOf s)).toArray.size = s.size := by rw [List.size_toArray, u8s_length, ordsOf_length]
  have hrun := Lib.run_unsafeString_row (P := Tryz.prog) w 172 3 o.type 5 Tryz.underlying172 (by kernel_rfl) g s.size (by unfold World.shape?; rw [hrow]; simp only [hu]) s.data.toList (fun e => by rw [e] at hl; simp at hl; omega) (Nat.le_of_eq hl) (by omega)
    (fun j y hj => by
      have e : (⟨g, 0, none⟩ : Addr).add j = ⟨g, j, none⟩ := by unfold Addr.add; split <;> simp_all
      rw [e, cell_of_row w g j _ _ _ hrow, ← text_cells]
      simp [Lib.byteCells, hj])
  rw [hl] at hrun
  unfold Oper.wp execOp
  simp only [ho, resolve, invoke, builtin, Sem.run_bind, Sem.run_pure, Result.andThen_ok, List.map_toArray, List.map_cons, List.map_nil, hp, hn, hrun]
  refine hK _ _ (h _ ?_)
  unfold World.freeze
  split
  · exact Only.refl _ _
  · exact ⟨rfl, rfl, rfl, by simp, fun k _ hk => by simp only [Array.getElem?_modify]; rw [if_neg (fun e => hk e.symm)]⟩

set_option maxHeartbeats 4000000 in
/-- a text cloned: the same signs -/
theorem lite_clone (w : World) (s : ByteArray) (hs : s.size < 1000000000000) :
    Calls Tryz.prog 118 #[.string s] w fun e w' => e = .returned (.string s) ∧ Below w.heap.size w w' := by
  rcases Nat.eq_zero_or_pos s.size with h0 | h0
  · obtain rfl : s = ⟨#[]⟩ := ByteArray.ext (Array.eq_empty_of_size_eq_zero h0)
    go_enter Tryz.func118, Tryz.ntmps118
    repeat (first | go_values | go_skip | go_guarded | go_step | go_upon)
    go_ret
    exact ⟨rfl, Below.refl _ _⟩
  · obtain ⟨iU, hiU, hzU, hsU, hbU⟩ : ∃ i, Tryz.prog.info? 5 = some i ∧ i.zero = some (.int .u8 0) ∧ i.size = 1 ∧ i.bytes = 1 := by
      have h := infoU8
      cases hi : Tryz.prog.info? 5 with
      | none => rw [hi] at h; simp at h
      | some i => rw [hi] at h; simp at h; exact ⟨i, rfl, h.1, h.2.1, h.2.2⟩
    have t0 : ((s.size : Int) == 0) = false := beq_eq_false_iff_ne.2 (by omega)
    have ti : (0 : Int) < (s.size : Int) := by omega
    go_enter Tryz.func118, Tryz.ntmps118
    go_wp2_with (first | (refine wpList_make_full _ rfl (.tmp 8) (.tmp 8) 171 rfl w.heap.size 5 iU (.int .u8 0) 1 Tryz.underlying171 hiU hzU hsU .i64 .i64 _ _ s.size (by rfl) (by rfl) rfl rfl (by rw [hbU]; omega) (by unfold maxLen; omega) (Nat.le_refl _) ?_; intro W1 hown hg1; have HR1 := Lib.hid (row_new hown); have HB1 : Hid (Below w.heap.size w W1) := Lib.hid ((Below.refl _ _).grown hg1 (Nat.le_refl _) (fun k hk => by cases hk)); clear hown hg1) | (refine wpList_text_over rfl (.tmp 10) (.tmp 11) rfl w.heap.size s (by rfl) (by rfl) HR1.out ?_; intro W2 hr2 ho2; have HR2 := Lib.hid hr2; have HB2 := Lib.hid (HB1.out.trans (ho2.below HB1.out.size (fun k hk => by omega))); clear hr2 ho2) | (refine wpList_text_told rfl (.tmp 14) (.tmp 16) rfl w.heap.size s h0 hs (by rfl) (by rfl) HR2.out ?_; intro W3 ho3; have HB3 := Lib.hid (HB2.out.trans (ho3.below HB2.out.size (fun k hk => by omega))); clear ho3))
    go_ret
    exact ⟨rfl, HB3.out⟩
set_option maxHeartbeats 1000000 in
theorem clone_text (w : World) (s : ByteArray) (hs : s.size < 1000000000000) :
    Calls Tryz.prog 93 #[.string s] w fun e w' => e = .returned (.string s) ∧ Below w.heap.size w w' := by
  have HC := Lib.hid (lite_clone w s hs)
  go_enter Tryz.func93, Tryz.ntmps93
  repeat (first | go_values | go_skip | go_guarded | go_step | go_upon)
  refine HC.out.mono ?_
  rintro e w1 ⟨rfl, hb⟩
  have HB := Lib.hid hb
  dsimp only
  repeat (first | go_values | go_skip | go_guarded | go_step | go_upon)
  go_ret
  exact ⟨rfl, HB.out⟩
end Go.Proofs.YthbdchleppbidaaGreat
