/- Package strings, as package mac calls it: the last place of a sign; a text cloned. -/
import Derived.Test.YtfbnnhailnbmiaaDoorMaAt
import Derived.Lib.UnsafeStr
import Derived.Lib.Strings
import Derived.Lib.BufferWrite
import Derived.Laws.MakeOwn
namespace Go.Proofs.YtfbnnhailnbmiaaDoor
open Go.RowKit

/-- the last place of a sign: none; or a place behind which it doesn't stand -/
def LastAt (l : List Nat) (c : Nat) (r : Int) : Prop := (c ∉ l ∧ r = -1) ∨ ∃ a b, l = a ++ c :: b ∧ c ∉ b ∧ r = (a.length : Int)
theorem last_here {l : List Nat} {c k : Nat} (hk : k < l.length) (h : l[k]? = some c) (hn : c ∉ l.drop (k + 1)) : LastAt l c (k : Int) := by
  refine .inr ⟨l.take k, l.drop (k + 1), ?_, hn, by rw [List.length_take]; omega⟩
  have e : l[k] = c := by rw [List.getElem?_eq_getElem hk] at h; exact Option.some.inj h
  rw [← e, ← List.drop_eq_getElem_cons hk, List.take_append_drop]
theorem ords_get (s : ByteArray) (k : Nat) (h : k < s.size) : (ordsOf s)[k]? = some (s[k]'h).toNat := by
  unfold ordsOf
  rw [List.getElem?_map]
  have : k < s.data.size := h
  rw [Array.getElem?_toList, Array.getElem?_eq_getElem this]; rfl

set_option maxHeartbeats 2000000 in
theorem lastByte_any (w : World) (s : ByteArray) (c : Nat) (hs : s.size < 1000000000000) :
    Calls Tryd.prog 28 #[.string s, .int .u8 (c : Int)] w fun e w' => (∃ r : Int, e = .returned (.int .i64 r) ∧ LastAt (ordsOf s) c r) ∧ w' = w := by
  go_enter Tryd.func28, Tryd.ntmps28
  go_wp2
  go_loop [5] (fun vi => ∃ k : Nat, k ≤ s.size ∧ vi = .int .i64 ((k : Int) - 1) ∧ Hid (c ∉ (ordsOf s).drop k)) (fun vi => (intOf vi + 1).toNat)
  case atStart => exact ⟨s.size, Nat.le_refl _, rfl, Lib.hid (by rw [List.drop_of_length_le (by rw [ordsOf_length]; exact Nat.le_refl _)]; simp)⟩
  case round =>
    obtain ⟨k, hk, rfl, hh⟩ := hrel
    go_wp2
    · have h1 : (1 : Int) ≤ k := by assumption
      have ht : (((s[k - 1]'(by omega)).toNat : Int) == (c : Int)) = true := by assumption
      go_ret
      refine ⟨⟨_, rfl, ?_⟩, rfl⟩
      have e : (k : Int) - 1 = ((k - 1 : Nat) : Int) := by omega
      rw [e]
      refine last_here (by rw [ordsOf_length]; omega) ?_ (by rw [show k - 1 + 1 = k by omega]; exact hh.out)
      rw [ords_get s (k - 1) (by omega)]
      have := eq_of_beq ht
      congr 1; omega
    · have h1 : (1 : Int) ≤ k := by assumption
      have ht : (((s[k - 1]'(by omega)).toNat : Int) == (c : Int)) = false := by assumption
      refine ⟨⟨k - 1, by omega, by congr 1; omega, Lib.hid ?_⟩, by simp [intOf]; omega⟩
      have hkl : k - 1 < (ordsOf s).length := by rw [ordsOf_length]; omega
      rw [List.drop_eq_getElem_cons hkl, show k - 1 + 1 = k by omega]
      have hg := ords_get s (k - 1) (by omega)
      rw [List.getElem?_eq_getElem hkl] at hg
      rw [Option.some.inj hg]
      intro hm
      rcases List.mem_cons.1 hm with h | h
      · rw [h] at ht; simp at ht
      · exact hh.out h
    · have h0 : k = 0 := by omega
      subst h0
      go_ret
      exact ⟨⟨_, rfl, .inl ⟨by simpa using hh.out, rfl⟩⟩, rfl⟩

set_option maxHeartbeats 2000000 in
theorem last_dot (w : World) (s : ByteArray) (hs : s.size < 1000000000000) :
    Calls Tryd.prog 17 #[.string s, .string ⟨#[46]⟩] w fun e w' => (∃ r : Int, e = .returned (.int .i64 r) ∧ LastAt (ordsOf s) 46 r) ∧ w' = w := by
  have HL := Lib.hid (lastByte_any w s 46 hs)
  go_enter Tryd.func17, Tryd.ntmps17
  repeat (first | go_values | go_skip | go_guarded | go_step | go_upon)
  refine HL.out.mono ?_
  rintro e w1 ⟨⟨r, rfl, hr⟩, rfl⟩
  have HR := Lib.hid hr
  clear hr
  dsimp only
  repeat (first | go_values | go_skip | go_guarded | go_step | go_upon)
  go_ret
  exact ⟨⟨r, rfl, HR.out⟩, rfl⟩

set_option maxHeartbeats 4000000 in
/-- a text cloned: the same signs -/
theorem lite_clone (w : World) (s : ByteArray) (hs : s.size < 1000000000000) :
    Calls Tryd.prog 30 #[.string s] w fun e w' => e = .returned (.string s) ∧ Below w.heap.size w w' := by
  by_cases h0 : s.size = 0
  · obtain rfl : s = ⟨#[]⟩ := ByteArray.ext (Array.eq_empty_of_size_eq_zero h0)
    go_enter Tryd.func30, Tryd.ntmps30
    go_wp2
    go_ret
    exact ⟨rfl, Below.refl _ _⟩
  · obtain ⟨i, hi, hz, hi1, hi2⟩ : ∃ i, Tryd.prog.info? 5 = some i ∧ i.zero = some (.int .u8 0) ∧ i.size = 1 ∧ i.bytes = 1 := by
      have h := infoU8
      cases hi : Tryd.prog.info? 5 with
      | none => rw [hi] at h; simp at h
      | some i => rw [hi] at h; simp at h; exact ⟨i, rfl, h.1, h.2.1, h.2.2⟩
    have hl1 : (Tryd.prog.info? 5).map (·.size) = some 1 := by rw [hi]; simp [hi1]
    have hc1 : Tryd.prog.cellsOf 5 = 1 := by kernel_rfl
    have hsz : (s.data.toList).length = s.size := by rw [Array.length_toList]; rfl
    have hne : s.data.toList ≠ [] := fun e => h0 (by rw [← hsz, e]; rfl)
    obtain ⟨M, hM⟩ : ∃ M, M = madeCells (Value.int .u8 0).cells (((s.size : Nat) : Int).toNat * i.size) := ⟨_, rfl⟩
    have hMs : M.size = s.size := by rw [hM, size_madeCells, hi1]; simp
    have HMK : ∀ W : World, (Instr.makeSlice 22 (.int .i64 (s.size : Int)) (.int .i64 (s.size : Int))).run Tryd.prog W = .ok (.slice (some ⟨W.heap.size, 0, none⟩) s.size s.size) (W.alloc (.cells M 5)) := fun W => by
      have h := run_make (P := Tryd.prog) W 22 5 i (.int .u8 0) Tryd.underlying22 hi hz .i64 .i64 (s.size : Int) (s.size : Int) (by omega) (by omega) (by rw [hi2]; omega) (by omega)
      rw [← hM] at h
      simpa using h
    clear hM
    have HCP := Lib.run_copy_row_string (P := Tryd.prog) (w.alloc (.cells M 5)) 22 9 3 5 w.heap.size 0 s.size s.size s M 5 Tryd.underlying22 hl1 (heap_alloc_new w _) (Nat.le_refl _) (by omega)
    obtain ⟨Y, hY⟩ : ∃ Y, Y = (M.toList.take 0 ++ Lib.byteCells s.data.toList ++ M.toList.drop (0 + s.size)).toArray := ⟨_, rfl⟩
    rw [← hY] at HCP
    have hYl : Y.toList = Lib.byteCells s.data.toList := by
      rw [hY, List.toList_toArray, List.take_zero, List.nil_append, List.drop_of_length_le (by rw [Array.length_toList]; omega), List.append_nil]
    have hYs : Y.size = s.size := by rw [← Array.length_toList, hYl, Lib.byteCells_length, hsz]
    have hgY : ((w.alloc (.cells M 5)).setRow w.heap.size Y).heap[w.heap.size]? = some (.cells Y 5 (0, 0)) := setRow_heap _ _ M _ 5 (0, 0) (heap_alloc_new w _)
    have HUS := Lib.run_unsafeString_row (P := Tryd.prog) ((w.alloc (.cells M 5)).setRow w.heap.size Y) 67 3 9 5 Tryd.underlying67 hc1 w.heap.size Y.size (by unfold World.shape?; rw [hgY]) s.data.toList hne (by omega) (by omega)
      (fun j x hx => Lib.cells_of_row hgY Y.size j _ (by rw [List.take_of_length_le (by rw [Array.length_toList]; exact Nat.le_refl _), hYl]; simp [Lib.byteCells, hx]))
    rw [hsz] at HUS
    clear hY
    go_enter Tryd.func30, Tryd.ntmps30
    go_wp2
    go_ret
    have hb1 : Below w.heap.size w (w.alloc (.cells M 5)) := (Below.refl _ w).alloc (Nat.le_refl _) _
    have hb2 : Below w.heap.size (w.alloc (.cells M 5)) ((w.alloc (.cells M 5)).setRow w.heap.size Y) := ⟨rfl, rfl, rfl, by simp, fun k hk => setRow_other _ _ _ _ (by omega)⟩
    exact ⟨rfl, Lib.below_freeze (hb1.trans hb2) (p := ⟨w.heap.size, 0, none⟩) (Nat.le_refl _) _⟩
set_option maxHeartbeats 1000000 in
theorem clone_text (w : World) (s : ByteArray) (hs : s.size < 1000000000000) :
    Calls Tryd.prog 18 #[.string s] w fun e w' => e = .returned (.string s) ∧ Below w.heap.size w w' := by
  have HC := Lib.hid (lite_clone w s hs)
  go_enter Tryd.func18, Tryd.ntmps18
  repeat (first | go_values | go_skip | go_guarded | go_step | go_upon)
  refine HC.out.mono ?_
  rintro e w1 ⟨rfl, hb⟩
  have HB := Lib.hid hb
  dsimp only
  repeat (first | go_values | go_skip | go_guarded | go_step | go_upon)
  go_ret
  exact ⟨rfl, HB.out⟩
end Go.Proofs.YtfbnnhailnbmiaaDoor
