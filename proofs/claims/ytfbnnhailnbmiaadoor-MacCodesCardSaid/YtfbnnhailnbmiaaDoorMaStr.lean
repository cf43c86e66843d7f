/- Package strings, as package mac calls it: the last place of a sign; a text cloned. -/
import Derived.Test.YtfbnnhailnbmiaaDoorMaAt
import Derived.Lib.UnsafeStr
import Derived.Lib.Strings
import Derived.Lib.BufferWrite
import Derived.OwnWalk
namespace Go.Proofs.YtfbnnhailnbmiaaDoor
open Go.RowKit

/-- the last place of a sign: none; or a place behind which it doesn't stand -/
def LastAt (l : List Nat) (c : Nat) (r : Int) : Prop := (c ∉ l ∧ r = -1) ∨ ∃ a b, l = a ++ c :: b ∧ c ∉ b ∧ r = (a.length : Int)
theorem last_here {l : List Nat} {c k : Nat} (hk : k < l.length) (h : l[k]? = some c) (hn : c ∉ l.drop (k + 1)) : LastAt l c (k : Int) := by
  refine .inr ⟨l.take k, l.drop (k + 1), ?_, hn, by rw [List.length_take]; omega⟩
  have e : l[k] = c := by rw [List.getElem?_eq_getElem hk] at h; exact Option.some.inj h
  rw [← e, ← List.drop_eq_getElem_cons hk, List.take_append_drop]
theorem ords_get (s : ByteArray) (k : Nat) (h : k < s.size) : (ordsOf s)[k]? = some (s[k]'h).toNat := by
  unfold ordsOf
  rw [List.getElem?_map]
  have : k < s.data.size := h
  rw [Array.getElem?_toList, Array.getElem?_eq_getElem this]; rfl

set_option maxHeartbeats 2000000 in
theorem lastByte_any (w : World) (s : ByteArray) (c : Nat) (hs : s.size < 1000000000000) :
    Calls Tryd.prog 28 #[.string s, .int .u8 (c : Int)] w fun e w' => (∃ r : Int, e = .returned (.int .i64 r) ∧ LastAt (ordsOf s) c r) ∧ w' = w := by
  go_enter Tryd.func28, Tryd.ntmps28
  go_wp2
  go_loop [5] (fun vi => ∃ k : Nat, k ≤ s.size ∧ vi = .int .i64 ((k : Int) - 1) ∧ Hid (c ∉ (ordsOf s).drop k)) (fun vi => (intOf vi + 1).toNat)
  case atStart => exact ⟨s.size, Nat.le_refl _, rfl, Lib.hid (by rw [List.drop_of_length_le (by rw [ordsOf_length]; exact Nat.le_refl _)]; simp)⟩
  case round =>
    obtain ⟨k, hk, rfl, hh⟩ := hrel
    go_wp2
    · have h1 : (1 : Int) ≤ k := by assumption
      have ht : (((s[k - 1]'(by omega)).toNat : Int) == (c : Int)) = true := by assumption
      go_ret
      refine ⟨⟨_, rfl, ?_⟩, rfl⟩
      have e : (k : Int) - 1 = ((k - 1 : Nat) : Int) := by omega
      rw [e]
      refine last_here (by rw [ordsOf_length]; omega) ?_ (by rw [show k - 1 + 1 = k by omega]; exact hh.out)
      rw [ords_get s (k - 1) (by omega)]
      have := eq_of_beq ht
      congr 1; omega
    · have h1 : (1 : Int) ≤ k := by assumption
      have ht : (((s[k - 1]'(by omega)).toNat : Int) == (c : Int)) = false := by assumption
      refine ⟨⟨k - 1, by omega, by congr 1; omega, Lib.hid ?_⟩, by simp [intOf]; omega⟩
      have hkl : k - 1 < (ordsOf s).length := by rw [ordsOf_length]; omega
      rw [List.drop_eq_getElem_cons hkl, show k - 1 + 1 = k by omega]
      have hg := ords_get s (k - 1) (by omega)
      rw [List.getElem?_eq_getElem hkl] at hg
      rw [Option.some.inj hg]
      intro hm
      rcases List.mem_cons.1 hm with h | h
      · rw [h] at ht; simp at ht
      · exact hh.out h
    · have h0 : k = 0 := by omega
      subst h0
      go_ret
      exact ⟨⟨_, rfl, .inl ⟨by simpa using hh.out, rfl⟩⟩, rfl⟩

set_option maxHeartbeats 2000000 in
theorem last_dot (w : World) (s : ByteArray) (hs : s.size < 1000000000000) :
    Calls Tryd.prog 17 #[.string s, .string ⟨#[46]⟩] w fun e w' => (∃ r : Int, e = .returned (.int .i64 r) ∧ LastAt (ordsOf s) 46 r) ∧ w' = w := by
  have HL := Lib.hid (lastByte_any w s 46 hs)
  go_enter Tryd.func17, Tryd.ntmps17
  repeat (first | go_values | go_skip | go_guarded | go_step | go_upon)
  refine HL.out.mono ?_
  rintro e w1 ⟨⟨r, rfl, hr⟩, rfl⟩
  have HR := Lib.hid hr
  clear hr
  dsimp only
  repeat (first | go_values | go_skip | go_guarded | go_step | go_upon)
  go_ret
  exact ⟨⟨r, rfl, HR.out⟩, rfl⟩

/-! ### A text laid over a row of one's own, and told off it -/
def RowAt (w : World) (g : Nat) (l : List Value) : Prop := w.heap[g]? = some (.cells l.toArray 5 (0, 0))
theorem row_new {w : World} {B g n : Nat} {xs : List Value} (h : w.ownsRow B 5 1 (.slice (some ⟨g, 0, none⟩) n n) n xs) : ∃ cur, RowAt w g cur ∧ cur.length = n := by
  rcases h.2 with ⟨hv, _⟩ | ⟨g', cap, cur, hv, _, hg, _, _, hc, _⟩
  · cases hv
  · cases hv
    exact ⟨cur.toList, by unfold RowAt; simpa using hg, by simpa using hc⟩
theorem text_cells (s : ByteArray) : Lib.byteCells s.data.toList = u8s (ordsOf s) := by
  unfold Lib.byteCells u8s ordsOf
  rw [List.map_map]; rfl
theorem wpList_text_over {ops : Array Oper} {rest : List Oper} {o : Oper} {a : Act} {w : World} {Q : Exit → Act → World → Prop} (hgd : o.guard = none) (d x : Operand) (ho : o.op = .call { callee := .builtin .copy, args := #[d, x], argTypes := #[22, 9] })
    (g : Nat) (s : ByteArray) (hd : a.eval d = .slice (some ⟨g, 0, none⟩) s.size s.size) (hx : a.eval x = .string s) (hg : ∃ cur, RowAt w g cur ∧ cur.length = s.size)
    (h : ∀ W, RowAt W g (u8s (ordsOf s)) → Only (fun k => k = g) w W → wpList Tryd.prog ops Q rest (a.put o.dst (goInt s.size)) W) : wpList Tryd.prog ops Q (o :: rest) a w := by
  obtain ⟨cur, hrow, hlen⟩ := hg
  refine wpList_plain hgd fun K hK => ?_
  have hrun := Lib.run_copy_row_string (P := Tryd.prog) w 22 9 o.type 5 g 0 s.size s.size s cur.toArray 5 Tryd.underlying22 (by kernel_rfl) hrow (Nat.le_refl _) (by simp; omega)
  rw [text_cells, List.take_zero, List.nil_append, Nat.zero_add, show cur.toArray.toList.drop s.size = [] from List.drop_of_length_le (by simp; omega), List.append_nil] at hrun
  unfold Oper.wp execOp
  simp only [ho, resolve, invoke, builtin, Sem.run_bind, Sem.run_pure, Result.andThen_ok, List.map_toArray, List.map_cons, List.map_nil, hd, hx, hrun]
  exact hK _ _ (h _ (setRow_heap _ _ _ _ _ _ hrow) ⟨rfl, rfl, rfl, by simp, fun k _ hk => setRow_other _ _ _ _ hk⟩)
theorem wpList_text_told {ops : Array Oper} {rest : List Oper} {o : Oper} {a : Act} {w : World} {Q : Exit → Act → World → Prop} (hgd : o.guard = none) (p n : Operand) (ho : o.op = .call { callee := .builtin .unsafeString, args := #[p, n], argTypes := #[67, 3] })
    (g : Nat) (s : ByteArray) (h0 : 0 < s.size) (hs : s.size < 1000000000000) (hp : a.eval p = .pointer (some ⟨g, 0, none⟩)) (hn : a.eval n = .int .i64 (s.size : Int)) (hrow : RowAt w g (u8s (ordsOf s)))
    (h : ∀ W, Only (fun k => k = g) w W → wpList Tryd.prog ops Q rest (a.put o.dst (.string s)) W) : wpList Tryd.prog ops Q (o :: rest) a w := by
  refine wpList_plain hgd fun K hK => ?_
  have hl : s.data.toList.length = s.size := by rw [Array.length_toList]; rfl
  have hu : (u8s (ordsOf s)).toArray.size = s.size := by rw [List.size_toArray, u8s_length, ordsOf_length]
  have hrun := Lib.run_unsafeString_row (P := Tryd.prog) w 67 3 o.type 5 Tryd.underlying67 (by kernel_rfl) g s.size (by unfold World.shape?; rw [hrow]; simp only [hu]) s.data.toList (fun e => by rw [e] at hl; simp at hl; omega) (Nat.le_of_eq hl) (by omega)
    (fun j y hj => by
      have e : (⟨g, 0, none⟩ : Addr).add j = ⟨g, j, none⟩ := by unfold Addr.add; split <;> simp_all
      rw [e, cell_of_row w g j _ _ _ hrow, ← text_cells]
      simp [Lib.byteCells, hj])
  rw [hl] at hrun
  unfold Oper.wp execOp
  simp only [ho, resolve, invoke, builtin, Sem.run_bind, Sem.run_pure, Result.andThen_ok, List.map_toArray, List.map_cons, List.map_nil, hp, hn, hrun]
  refine hK _ _ (h _ ?_)
  unfold World.freeze
  split
  · exact Only.refl _ _
  · exact ⟨rfl, rfl, rfl, by simp, fun k _ hk => by simp only [Array.getElem?_modify]; rw [if_neg (fun e => hk e.symm)]⟩

set_option maxHeartbeats 4000000 in
/-- a text cloned: the same signs -/
theorem lite_clone (w : World) (s : ByteArray) (hs : s.size < 1000000000000) :
    Calls Tryd.prog 30 #[.string s] w fun e w' => e = .returned (.string s) ∧ Below w.heap.size w w' := by
  rcases Nat.eq_zero_or_pos s.size with h0 | h0
  · obtain rfl : s = ⟨#[]⟩ := ByteArray.ext (Array.eq_empty_of_size_eq_zero h0)
    go_enter Tryd.func30, Tryd.ntmps30
    repeat (first | go_values | go_skip | go_guarded | go_step | go_upon)
    go_ret
    exact ⟨rfl, Below.refl _ _⟩
  · obtain ⟨iU, hiU, hzU, hsU, hbU⟩ : ∃ i, Tryd.prog.info? 5 = some i ∧ i.zero = some (.int .u8 0) ∧ i.size = 1 ∧ i.bytes = 1 := by
      have h := infoU8
      cases hi : Tryd.prog.info? 5 with
      | none => rw [hi] at h; simp at h
      | some i => rw [hi] at h; simp at h; exact ⟨i, rfl, h.1, h.2.1, h.2.2⟩
    have t0 : ((s.size : Int) == 0) = false := beq_eq_false_iff_ne.2 (by omega)
    have ti : (0 : Int) < (s.size : Int) := by omega
    go_enter Tryd.func30, Tryd.ntmps30
    go_wp2_with (first | (refine wpList_make_full _ rfl (.tmp 8) (.tmp 8) 22 rfl w.heap.size 5 iU (.int .u8 0) 1 Tryd.underlying22 hiU hzU hsU .i64 .i64 _ _ s.size (by rfl) (by rfl) rfl rfl (by rw [hbU]; omega) (by unfold maxLen; omega) (Nat.le_refl _) ?_; intro W1 hown hg1; have HR1 := Lib.hid (row_new hown); have HB1 : Hid (Below w.heap.size w W1) := Lib.hid ((Below.refl _ _).grown hg1 (Nat.le_refl _) (fun k hk => by cases hk)); clear hown hg1) | (refine wpList_text_over rfl (.tmp 10) (.tmp 11) rfl w.heap.size s (by rfl) (by rfl) HR1.out ?_; intro W2 hr2 ho2; have HR2 := Lib.hid hr2; have HB2 := Lib.hid (HB1.out.trans (ho2.below HB1.out.size (fun k hk => by omega))); clear hr2 ho2) | (refine wpList_text_told rfl (.tmp 14) (.tmp 16) rfl w.heap.size s h0 hs (by rfl) (by rfl) HR2.out ?_; intro W3 ho3; have HB3 := Lib.hid (HB2.out.trans (ho3.below HB2.out.size (fun k hk => by omega))); clear ho3))
    go_ret
    exact ⟨rfl, HB3.out⟩
set_option maxHeartbeats 1000000 in
theorem clone_text (w : World) (s : ByteArray) (hs : s.size < 1000000000000) :
    Calls Tryd.prog 18 #[.string s] w fun e w' => e = .returned (.string s) ∧ Below w.heap.size w w' := by
  have HC := Lib.hid (lite_clone w s hs)
  go_enter Tryd.func18, Tryd.ntmps18
  repeat (first | go_values | go_skip | go_guarded | go_step | go_upon)
  refine HC.out.mono ?_
  rintro e w1 ⟨rfl, hb⟩
  have HB := Lib.hid hb
  dsimp only
  repeat (first | go_values | go_skip | go_guarded | go_step | go_upon)
  go_ret
  exact ⟨rfl, HB.out⟩
end Go.Proofs.YtfbnnhailnbmiaaDoor
