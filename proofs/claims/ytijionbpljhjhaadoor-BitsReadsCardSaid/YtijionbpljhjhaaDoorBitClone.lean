/- Clone of bytes, Bytes of the writer, Read, walked; bytes as a text. -/
import Derived.Test.YtijionbpljhjhaaDoorBitPut
import Derived.Laws.BytesArg
import Derived.Laws.AppendOwnNone
namespace Go.Proofs.YtijionbpljhjhaaDoor
open Go.RowKit

/-- a slice of these bytes -/
def Lies (w : World) (v : Value) (bs : List Nat) : Prop :=
  (v = .slice none 0 0 ∧ bs = []) ∨ ∃ b off cap, v = .slice (some ⟨b, off, none⟩) bs.length cap ∧ ∀ j, j < bs.length → w.cell? ⟨b, off + j, none⟩ = some (.int .u8 ((bs.getD j 0 : Nat) : Int))

theorem u8s_getD (bs : List Nat) (j : Nat) (h : j < bs.length) : (u8s bs)[j]? = some (.int .u8 ((bs.getD j 0 : Nat) : Int)) := by
  rw [u8s_get]; simp [List.getD, List.getElem?_eq_getElem h]
theorem ownsRow_lies {w : World} {B : Nat} {v : Value} {n : Nat} {bs : List Nat} (h : w.ownsRow B 5 1 v n (u8s bs)) : Lies w v bs := by
  have hl : bs.length = n := by have := h.1; simpa [u8s] using this
  rcases h.2 with ⟨rfl, h0⟩ | ⟨g, cap, cur, rfl, _⟩
  · exact .inl ⟨rfl, List.length_eq_zero_iff.1 (by omega)⟩
  · refine .inr ⟨g, 0, cap, by rw [hl], fun j hj => ?_⟩
    rw [Nat.zero_add, h.cellAt j (by omega), u8s_getD bs j hj]
theorem Lies.mono {w w' : World} {v : Value} {bs : List Nat} (h : Lies w v bs) (hk : ∀ k o, v.ownBlock = some k → w'.cell? ⟨k, o, none⟩ = w.cell? ⟨k, o, none⟩) : Lies w' v bs := by
  rcases h with h | ⟨b, off, cap, rfl, hc⟩
  · exact .inl h
  · exact .inr ⟨b, off, cap, rfl, fun j hj => (hk b _ rfl).trans (hc j hj)⟩

/-- bytes as a text -/
def strOf (bs : List Nat) : ByteArray := ⟨(bs.map UInt8.ofNat).toArray⟩
theorem strOfNums_nat (bs : List Nat) : strOfNums (bs.map Int.ofNat) = strOf bs := by
  unfold strOfNums strOf; simp
theorem text_of {w : World} {v : Value} {bs : List Nat} (h : Lies w v bs) : ∀ dst, Tryd.prog.underlying dst = some .string → (convert 25 dst v).run Tryd.prog w = .ok (.string (strOf bs)) w := by
  rcases h with ⟨rfl, rfl⟩ | ⟨b, off, cap, rfl, hc⟩
  · exact run_convert_bytes_nil w _ _ Tryd.underlying25 Tryd.underlying5 0 0
  · intro dst hd
    have := run_convert_bytes_arg (P := Tryd.prog) w 25 5 Tryd.underlying25 Tryd.underlying5 b off bs.length cap (bs.map Int.ofNat) (by simp) (fun j hj => by
      rw [hc j hj]; simp [List.getD, List.getElem?_eq_getElem hj]) dst hd
    rw [this, strOfNums_nat]

set_option maxHeartbeats 1000000 in
theorem clone_any {w : World} {v : Value} {bs : List Nat} (h : Lies w v bs) (hbig : bs.length ≤ 1000000000) :
    Calls Tryd.prog 22 #[v] w fun e w' => ∃ v', e = .returned v' ∧ w'.ownsRow w.heap.size 5 1 v' bs.length (u8s bs) ∧ Below w.heap.size w w' := by
  have q25 : ∀ (w : World) (a : Option Addr) (n c n' c' : Nat), (binOp .eql 25 (.slice a n c) (.slice none n' c')).run Tryd.prog w = .ok (.bool a.isNone) w := fun w a n c n' c' => Lib.run_eql_slice_nil w _ _ a n c n' c' Tryd.underlying25
  obtain ⟨i0, hi, hz0, hz1, hz2⟩ := info_parts infoU8
  rcases h with ⟨rfl, rfl⟩ | ⟨b, off, cap, rfl, hc⟩
  · go_enter Tryd.func22, Tryd.ntmps22
    go_wp2
    go_ret
    exact ⟨_, rfl, World.ownsRow_nil _ _ _ _, Below.refl _ _⟩
  · have hnews : ∀ o j u, (u8s bs)[j]? = some u → (w.alloc o).cell? ((⟨b, off, none⟩ : Addr).add j) = some u := by
      intro o j u hj
      have hjl : j < bs.length := by have := (List.getElem?_eq_some_iff.1 hj).1; simpa [u8s] using this
      have e : ((⟨b, off, none⟩ : Addr).add j) = ⟨b, off + j, none⟩ := by unfold Addr.add; split <;> simp_all
      rw [e]
      have h1 := hc j hjl
      have hlt := cell_lt h1
      rw [u8s_getD bs j hjl] at hj
      rw [← hj, ← h1]
      exact World.cell?_of_block (w := w) (Below.heap_alloc _ _ _ hlt)
    have HN := Lib.hid hnews
    clear hc hnews
    go_enter Tryd.func22, Tryd.ntmps22
    go_wp2_with (at_builtin; refine wpList_append_own _ rfl _ _ 25 rfl w.heap.size 5 i0 (.int .u8 0) 1 1 Tryd.underlying25 hi hz0 hz1 hz2 rfl (by decide) _ _ _ rfl (World.ownsRow_made w #[] 0 (Nat.le_refl _) (Nat.zero_le _) rfl) ⟨b, off, none⟩ bs.length cap (u8s bs) rfl ?qc1 ?qc2 ?qc3 ?qc4 ?qc5 ?qc6 ?_)
    case qc1 => simp [u8s]
    case qc2 => exact HN.out _
    case qc3 => intro u hu; obtain ⟨x, _, rfl⟩ := List.mem_map.1 hu; rfl
    case qc4 => unfold maxLen; omega
    case qc5 => omega
    case qc6 => simp
    intro v' w1 hown hgrow _
    go_wp2
    go_ret
    refine ⟨v', rfl, by simpa using hown, ?_⟩
    exact ((Below.refl _ w).alloc (Nat.le_refl _) _).grown hgrow (by simp) (by intro k hk; simp [Value.ownBlock] at hk; omega)
end Go.Proofs.YtijionbpljhjhaaDoor
