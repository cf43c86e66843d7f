/- Base, OpenBytes, TextB, Gen: laid into one. -/
import Derived.Test.YthbdchleppbidaaGreatMA
import Derived.OpenShut
import Derived.Deep.Slices
import Derived.Lib.ConvBytes
/- Bytes as texts: over Core. -/
namespace Go.Proofs.YthbdchleppbidaaGreat
open Go.RowKit

theorem text_of {w : World} {v : Value} {bs : List Nat} (h : Lies w v bs) : ∀ dst, Tryz.prog.underlying dst = some .string → (convert 171 dst v).run Tryz.prog w = .ok (.string (strOf bs)) w := by
  rcases h with ⟨rfl, rfl⟩ | ⟨a, cap, rfl, rfl⟩ | ⟨b, off, cap, rfl, hc⟩
  · exact run_convert_bytes_nil w _ _ Tryz.underlying171 Tryz.underlying5 0 0
  · intro dst hd
    rw [run_convert_bytes_string w _ dst _ (some a) 0 cap Tryz.underlying171 Tryz.underlying5 hd, run_bytesToString w a 0 cap [] (by simpa using run_loadCells_list (P := Tryz.prog) w a [] (fun j v h => by simp at h))]
    rfl
  · intro dst hd
    have := run_convert_bytes_arg (P := Tryz.prog) w 171 5 Tryz.underlying171 Tryz.underlying5 b off bs.length cap (bs.map Int.ofNat) (by simp) (fun j hj => by
      rw [hc j hj]; simp [List.getD, List.getElem?_eq_getElem hj]) dst hd
    rw [this, strOfNums_nat]
theorem one_text (w : World) (x : Nat) {u : Int} (hu : u = x) : ∀ dst, Tryz.prog.underlying dst = some .string → (convert 171 dst (.slice (some ⟨w.heap.size, 0, none⟩) 1 1)).run Tryz.prog (w.alloc (.cells #[.int .u8 u] 5)) = .ok (.string (strOf [x])) (w.alloc (.cells #[.int .u8 u] 5)) := by
  subst hu
  refine text_of (.inr (.inr ⟨w.heap.size, 0, 1, rfl, fun j hj => ?_⟩))
  obtain rfl : j = 0 := by simpa using hj
  rw [cell_of_row _ w.heap.size (0 + 0) _ _ _ (heap_alloc_new w _)]
  rfl

/-! ### A region that draws its order, one operation at a time (wip/py/reg.py writes the walk) -/
end Go.Proofs.YthbdchleppbidaaGreat
/- A slice of bytes that came in, opened. -/
namespace Go.Proofs.YthbdchleppbidaaGreat
open Go.RowKit Go.Deep Go.ChangeShapes Go.WideShapes

theorem cellsU8 : Tryz.prog.cellsOf 5 = 1 := by kernel_rfl

set_option maxRecDepth 100000 in
theorem open_bytes {H : Type} {enc : TypeId × Value → H} {W : World} {spare : Nat → Bool} {held : Bool} {v : Value} {d : DataW H} {ps : List MemPlace} {r : Reach} {b0 : Nat} (hval : Value.okWide Tryz.prog W r b0 171 v)
    (hd : DataW.Trod enc Tryz.prog W 0 spare held 171 v d ps) :
    ∃ a b off cap, ∃ l : List Nat, v = .slice a l.length cap ∧ l.length ≤ maxLen ∧ (l ≠ [] → a = some ⟨b, off, none⟩ ∧ b < W.heap.size) ∧ BytesAt W b off l ∧ (∀ x ∈ l, x < 256) ∧ (l = [] → b = 0) ∧ (l = [] → a = none → cap = 0) := by
  obtain ⟨a, len, cap, rfl⟩ := okWide_slice Tryz.underlying171 hval
  obtain ⟨fuel, hf⟩ := hd
  rcases open_ints Tryz.underlying171 Tryz.underlying5 cellsU8 hf with ⟨hcs, _⟩ | ⟨ad, len', cap', zs, hcs, _, hl, hm, hz, _, hcell, hw⟩
  · simp [Value.cells] at hcs
    obtain ⟨rfl, rfl, rfl⟩ := hcs
    exact ⟨none, 0, 0, 0, [], rfl, by simp, fun h => absurd rfl h, fun j h => by simp at h, fun t h => by simp at h, fun _ => rfl, fun _ _ => rfl⟩
  · simp [Value.cells] at hcs
    obtain ⟨rfl, rfl, rfl⟩ := hcs
    have hlz : len ≤ zs.length := by rw [hz]; split <;> omega
    have hlen : ((zs.take len).map Int.toNat).length = len := by rw [List.length_map, List.length_take]; omega
    have hin : ∀ x ∈ (zs.take len).map Int.toNat, x < 256 := by
      intro x hx
      obtain ⟨z, hz1, rfl⟩ := List.mem_map.1 hx
      have := bounds_u8 (hw z (List.mem_of_mem_take hz1))
      omega
    rcases Nat.eq_zero_or_pos len with h0 | h0
    · subst h0
      exact ⟨some ad, 0, 0, cap, [], rfl, by simp, fun h => absurd rfl h, fun j h => by simp at h, fun t h => by simp at h, fun _ => rfl, fun _ h => by cases h⟩
    · obtain ⟨b, off, rfl, hc⟩ := ints_at hcell (by omega)
      have hbl : b < W.heap.size := World.block_lt_of_cell? _ _ (hc 0 (by omega))
      refine ⟨_, b, off, cap, (zs.take len).map Int.toNat, by rw [hlen], by rw [hlen]; omega, fun _ => ⟨rfl, hbl⟩, fun j hj => ?_, hin, fun h => absurd (congrArg List.length h) (by rw [hlen]; simp; omega), fun _ h => by cases h⟩
      rw [hlen] at hj
      rw [hc j (by omega)]
      have hjz : j < zs.length := by omega
      have hwj := bounds_u8 (hw zs[j] (List.getElem_mem hjz))
      have e1 : zs.getD j 0 = zs[j] := by simp [List.getD, List.getElem?_eq_getElem hjz]
      have e2 : ((zs.take len).map Int.toNat).getD j 0 = zs[j].toNat := by simp [List.getD, hj, List.getElem?_eq_getElem hjz]
      rw [e1, e2]
      congr 2; omega

/-- so they are bytes that lie -/
theorem lies_of {w : World} {a : Option Addr} {b off cap : Nat} {l : List Nat} (ha : l ≠ [] → a = some ⟨b, off, none⟩ ∧ b < w.heap.size) (hi : BytesAt w b off l) (hn : l = [] → a = none → cap = 0) : Lies w (.slice a l.length cap) l := by
  by_cases h : l = []
  · cases hab : a with
    | none => exact .inl ⟨by rw [hn h hab, h]; rfl, h⟩
    | some ad => exact .inr (.inl ⟨ad, cap, by rw [h]; rfl, h⟩)
  · exact .inr (.inr ⟨b, off, cap, by rw [(ha h).1], hi⟩)
set_option maxRecDepth 100000 in
/-- a slice of bytes that came in, whatever its form -/
theorem open_lies {H : Type} {enc : TypeId × Value → H} {W : World} {spare : Nat → Bool} {held : Bool} {v : Value} {d : DataW H} {ps : List MemPlace} {r : Reach} {b0 : Nat} (hval : Value.okWide Tryz.prog W r b0 171 v)
    (hd : DataW.Trod enc Tryz.prog W 0 spare held 171 v d ps) : ∃ l : List Nat, Lies W v l ∧ (∀ x ∈ l, x < 256) ∧ l.length ≤ maxLen := by
  obtain ⟨a, b, off, cap, l, rfl, hm, ha, hi, hx, _, hn⟩ := open_bytes hval hd
  exact ⟨l, lies_of ha hi hn, hx, hm⟩
end Go.Proofs.YthbdchleppbidaaGreat
/- []byte of a text: over TextC. -/
namespace Go.Proofs.YthbdchleppbidaaGreat
open Go.RowKit

theorem text_bytes (w : World) (s : ByteArray) : ∃ W b cap, (convert 9 171 (.string s)).run Tryz.prog w = .ok (.slice (some ⟨b, 0, none⟩) s.size cap) W ∧ s.size ≤ cap ∧ Below w.heap.size w W ∧ BytesAt W b 0 (ordsOf s) := by
  refine ⟨Lib.bytesWorld w 5 s, w.heap.size, _, Lib.run_convert_string_bytes w 9 171 5 s Tryz.underlying9 Tryz.underlying171 Tryz.underlying5, grownCap_ge _ _ _ _, ⟨rfl, rfl, rfl, by rw [Lib.bytesWorld_size]; omega, fun k hk => Lib.bytesWorld_at_old w _ s k hk⟩, fun j hj => ?_⟩
  rw [ordsOf_length] at hj
  rw [Nat.zero_add, Lib.bytesWorld_cell w _ s j hj]
  congr 3
  have h2 : j < s.data.toList.length := by rw [Array.length_toList]; exact hj
  unfold ordsOf
  simp [List.getD, List.getElem?_map, List.getElem?_eq_getElem h2]
theorem wpList_text_bytes {ops : Array Oper} {rest : List Oper} {o : Oper} {a : Act} {w V : World} {Q : Exit → Act → World → Prop} {s : ByteArray} {v : Value} (hgd : o.guard = none) (x : Operand) (ho : o.op = .convert 9 171 x)
    (hx : a.eval x = .string s) (hrun : (convert 9 171 (.string s)).run Tryz.prog w = .ok v V) (hk : wpList Tryz.prog ops Q rest (a.put o.dst v) V) : wpList Tryz.prog ops Q (o :: rest) a w :=
  wpList_plain hgd fun K hK => by
    unfold Oper.wp execOp
    simp only [ho, hx, Sem.run_bind, Sem.run_pure, Result.andThen_ok, hrun]
    exact hK _ _ hk
end Go.Proofs.YthbdchleppbidaaGreat
/- Bytes that came in with their capacity, texts as rows: over GenC. -/
namespace Go.Proofs.YthbdchleppbidaaGreat
open Go.RowKit Go.Deep Go.ChangeShapes Go.WideShapes

set_option maxRecDepth 100000 in
theorem open_lies2 {H : Type} {enc : TypeId × Value → H} {W : World} {spare : Nat → Bool} {held : Bool} {v : Value} {d : DataW H} {ps : List MemPlace} {r : Reach} {b0 : Nat} (hval : Value.okWide Tryz.prog W r b0 171 v)
    (hd : DataW.Trod enc Tryz.prog W 0 spare held 171 v d ps) : ∃ l : List Nat, Lies W v l ∧ Fits v ∧ (∀ x ∈ l, x < 256) ∧ l.length ≤ maxLen := by
  obtain ⟨l, h1, h2, h3⟩ := open_lies hval hd
  refine ⟨l, h1, ?_, h2, h3⟩
  obtain ⟨a, len, cap, rfl⟩ := okWide_slice Tryz.underlying171 hval
  obtain ⟨fuel, hf⟩ := hd
  refine fits_slice ?_
  rcases open_ints Tryz.underlying171 Tryz.underlying5 cellsU8 hf with ⟨hcs, _⟩ | ⟨ad, len', cap', zs, hcs, h4, hl, hm, hz, h5, hcell, hw⟩
  · simp [Value.cells] at hcs
    omega
  · simp [Value.cells] at hcs
    obtain ⟨rfl, rfl, rfl⟩ := hcs
    first | exact hl | omega
theorem run_text_op {w W : World} {o : Oper} {a : Act} (x : Operand) (ho : o.op = .convert 9 171 x) {s : ByteArray} {v : Value} (hx : a.eval x = .string s) (hr : (convert 9 171 (.string s)).run Tryz.prog w = .ok v W) :
    (execOp a.eval o).run Tryz.prog w = .ok (.value v) W := by
  unfold execOp
  simp only [ho, hx, Sem.run_bind, Sem.run_pure, Result.andThen_ok, hr]
theorem text_row (w : World) (s : ByteArray) : ∃ W b cap, (convert 9 171 (.string s)).run Tryz.prog w = .ok (.slice (some ⟨b, 0, none⟩) s.size cap) W ∧ s.size ≤ cap ∧ Below w.heap.size w W ∧ w.heap.size ≤ b ∧ MRow W b (ordsOf s) := by
  have hsz : s.size ≤ (Lib.bytesCells w 5 s).size := by
    unfold Lib.bytesCells
    rw [Array.size_append, Array.size_map]
    exact Nat.le_add_right _ _
  refine ⟨Lib.bytesWorld w 5 s, w.heap.size, _, Lib.run_convert_string_bytes w 9 171 5 s Tryz.underlying9 Tryz.underlying171 Tryz.underlying5, grownCap_ge _ _ _ _, ⟨rfl, rfl, rfl, by rw [Lib.bytesWorld_size]; omega, fun k hk => Lib.bytesWorld_at_old w _ s k hk⟩, Nat.le_refl _, _, _, Lib.bytesWorld_at_new w 5 s, by rw [ordsOf_length]; exact hsz, by rw [ordsOf_length]; exact hsz, fun j hj => ?_⟩
  rw [ordsOf_length] at hj
  have hj2 : j < s.data.size := hj
  unfold Lib.bytesCells
  rw [Array.getElem?_append_left (by rw [Array.size_map]; exact hj2), Array.getElem?_map, Array.getElem?_eq_getElem hj2]
  simp only [ordsOf, List.getD, List.getElem?_map, Array.getElem?_toList, Array.getElem?_eq_getElem hj2, Option.map_some, Option.getD_some]
end Go.Proofs.YthbdchleppbidaaGreat
