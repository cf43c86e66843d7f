/- Num, Raw, Bytes of the writer of bytes, walked. -/
import Derived.Test.YtngeilhdambgfaaDoorOctW
import Derived.StillTailTactics
import Derived.Deep.QuietTactic
import Derived.Deep.RegionLaw
import Derived.Deep.AppendLies
namespace Go.Proofs.YtngeilhdambgfaaDoor
open Go.RowKit

/-- a byte of the number, as the walk has it -/
theorem byte_arg (x j : Nat) {e : Int} (he : e = ((x / 2 ^ (8 * j) : Nat) : Int)) : e % 256 = ((x / 256 ^ j % 256 : Nat) : Int) := by
  rw [he, Nat.pow_mul, show (2 : Nat) ^ 8 = 256 from rfl]
  simp
/-- the writer's cell behind an append -/
theorem grown_cell {w w1 : World} {P : Nat} {v : Value} {t : TypeId} (o : Obj) {m : Nat} (hP : w.heap[P]? = some (.cells #[v] t (0, 0))) (hne : v.ownBlock ≠ some P) (hgrow : ((w.alloc o).drewN m).grownBy w1 v.ownBlock) :
    w1.cell? ⟨P, 0, none⟩ = some v ∧ w1.frozen? ⟨P, 0, none⟩ = false := by
  have hlt := lt_of_block hP
  refine cells1 (t := t) ?_
  rw [hgrow.block P (by show P < (w.alloc o).heap.size; simp; omega) (fun e => hne e.symm)]
  show (w.alloc o).heap[P]? = _
  rw [Below.heap_alloc _ _ _ hlt]; exact hP
/-- the writer behind one byte more -/
theorem next_byte {B : Nat} {w0 w w1 : World} {P g1 cap y m : Nat} {g : Option Nat} {l : List Nat} {v : Value} {o : Obj} (h : OWrote B w0 P g l w) (hP : w.heap[P]? = some (.cells #[v] 98 (0, 0)))
    (hown : w1.ownsRow B 5 1 (.slice (some ⟨g1, 0, none⟩) (l.length + 1) cap) (l.length + 1) (u8s l ++ [.int .u8 (y : Int)])) (hgrow : ((w.alloc o).drewN m).grownBy w1 v.ownBlock) (hat : v.ownBlock = some g1 ∨ g1 = w.heap.size + 1) :
    OWrote B w0 P g (l ++ [y]) (w1.setCell ⟨P, 0, none⟩ (.slice (some ⟨g1, 0, none⟩) (l.length + 1) cap)) := by
  refine h.next (v' := .slice (some ⟨g1, 0, none⟩) (l.length + 1) cap) hP (wa := (w.alloc o).drewN m) ?_ ?_ hgrow ?_ ⟨0, rfl⟩
  · exact ((Below.refl _ w).alloc (Nat.le_refl _) o).trans ((only_drewN (fun _ => False) _ m).below (by simp) (fun _ h => h.elim))
  · rw [u8s_append, show u8s [y] = [.int .u8 (y : Int)] from rfl]; simpa using hown
  · rcases hat with h2 | h2
    · exact .inl h2.symm
    · exact .inr ⟨g1, rfl, by omega⟩
theorem grown_cell0 {w w1 : World} {P : Nat} {v : Value} {t : TypeId} (hP : w.heap[P]? = some (.cells #[v] t (0, 0))) (hne : v.ownBlock ≠ some P) (hgrow : w.grownBy w1 v.ownBlock) :
    w1.cell? ⟨P, 0, none⟩ = some v ∧ w1.frozen? ⟨P, 0, none⟩ = false := by
  refine cells1 (t := t) ?_
  rw [hgrow.block P (lt_of_block hP) (fun e => hne e.symm)]; exact hP
theorem next_text {B : Nat} {w0 w w1 : World} {P : Nat} {g : Option Nat} {l : List Nat} {v v' : Value} {s : ByteArray} (h : OWrote B w0 P g l w) (hP : w.heap[P]? = some (.cells #[v] 98 (0, 0)))
    (hown : w1.ownsRow B 5 1 v' (l.length + s.size) (u8s l ++ Lib.strCells s)) (hgrow : w.grownBy w1 v.ownBlock) (hat : v'.ownBlock = v.ownBlock ∨ v'.ownBlock = some w.heap.size) :
    OWrote B w0 P g (l ++ ordsOf s) (w1.setCell ⟨P, 0, none⟩ v') := by
  refine h.next (v' := v') hP (Below.refl _ w) ?_ hgrow (hat.imp id fun h => ⟨_, h, Nat.le_refl _⟩) ⟨0, rfl⟩
  rw [u8s_append, ← strCells_ords, List.length_append, ordsOf_length]; exact hown
theorem next_raw {B : Nat} {w0 w w1 : World} {P : Nat} {g : Option Nat} {l bs : List Nat} {v v' : Value} (h : OWrote B w0 P g l w) (hP : w.heap[P]? = some (.cells #[v] 98 (0, 0)))
    (hown : w1.ownsRow B 5 1 v' (l.length + bs.length) (u8s l ++ u8s bs)) (hgrow : w.grownBy w1 v.ownBlock) (hat : v'.ownBlock = v.ownBlock ∨ v'.ownBlock = some w.heap.size) :
    OWrote B w0 P g (l ++ bs) (w1.setCell ⟨P, 0, none⟩ v') := by
  refine h.next (v' := v') hP (Below.refl _ w) ?_ hgrow (hat.imp id fun h => ⟨_, h, Nat.le_refl _⟩) ⟨0, rfl⟩
  rw [u8s_append, List.length_append]; exact hown
set_option maxHeartbeats 1000000 in
theorem num_ok {B : Nat} {w0 w : World} {P x n : Nat} {g : Option Nat} {l : List Nat} (hx : x < 18446744073709551616) (hn : Wide n) (hxn : wid x ≤ 8 * n) (hl : StepsLaid w) (hB : B ≤ w0.heap.size) (hbig : l.length ≤ 100000000) (hw : OWrote B w0 P g l w) :
    Calls Tryd.prog 52 #[.pointer (some ⟨P, 0, none⟩), .int .u64 (x : Int), .int .i64 (n : Int)] w fun e w' => e = .returned (.int .i64 0) ∧ OWrote B w0 P g (l ++ numB x n) w' := by
  obtain ⟨i0, hi, hz0, hz1, hz2⟩ := info_parts infoU8
  have HL := Lib.hid hl
  have HW := Lib.hid hw
  have H := Lib.hid hn
  have hn8 : n ≤ 8 := by unfold Wide at hn; omega
  have hd : decide ((8 : Int) * n < wid x) = false := by simp; omega
  clear hl hw hxn hn
  go_enter Tryd.func52, Tryd.ntmps52
  go_wp2_with (first | (go_at_call 56; refine (owidth_yes H.out _).mono ?_; rintro e w' ⟨rfl, rfl⟩) | (go_at_call 59; refine (width_any hx _ HL.out).mono ?_; rintro e w' ⟨rfl, rfl⟩))
  clear hd
  go_loopw [21] (fun i wr => ∃ k : Nat, k ≤ n ∧ i = .int .i64 k ∧ OWrote B w0 P g (l ++ (numB x n).take k) wr) (fun i _ => n - (intOf i).toNat)
  case atStart => exact ⟨0, by omega, rfl, by simpa using HW.out⟩
  case round =>
    obtain ⟨k, hk, rfl, hwr⟩ := hrel
    have HR := Lib.hid hwr
    by_cases hlt : k < n
    · have hll : (l ++ (numB x n).take k).length ≤ 100000008 := by simp; omega
      obtain ⟨ls, hls⟩ : ∃ ls, ls = l ++ (numB x n).take k := ⟨_, rfl⟩
      rw [← hls] at hwr HR hll
      have HLS := Lib.hid hls
      obtain ⟨v, hP, hown, hne⟩ := hwr.at
      have hBr : B ≤ wr.heap.size := Nat.le_trans hB HR.out.2.2.1.size
      obtain ⟨c0, f0⟩ := cells1 hP
      have c0a : ∀ o, (wr.alloc o).cell? ⟨P, 0, none⟩ = some v := fun o => by rw [← c0]; exact World.cell?_of_block (w := wr) (Below.heap_alloc _ _ _ (lt_of_block hP))
      have HP := Lib.hid hP
      have HO := Lib.hid hown
      obtain ⟨q, hq⟩ : ∃ q, q = 8 * (n - 1 - k) := ⟨_, rfl⟩
      have hq64 : q ≤ 56 := by omega
      have e1 : IntKind.i64.wrap ((n : Int) - 1) = n - 1 := by rw [IntKind.wrap_i64]; omega
      have e2 : IntKind.i64.wrap ((n : Int) - 1 - k) = n - 1 - k := by rw [IntKind.wrap_i64]; omega
      have e3 : IntKind.i64.wrap (8 * ((n : Int) - 1 - k)) = q := by rw [IntKind.wrap_i64]; omega
      obtain ⟨y, hy⟩ : ∃ y, y = x / 256 ^ (n - 1 - k) % 256 := ⟨_, rfl⟩
      have e4 : IntKind.u8.wrap ((x : Int) / 2 ^ q) = y := by
        have h1 := byte_arg x (n - 1 - k) (e := (x : Int) / 2 ^ q) (by rw [hq]; simp)
        rw [IntKind.wrap_u8, h1, hy]
      have HY := Lib.hid hy
      clear hwr HW HL hP hown hq hy hls
      go_wp2_with fail
      go_region_law (refine step_append_lies _ rfl (.tmp 28) (.tmp 37) 33 rfl B 5 i0 (.int .u8 0) 1 1 Tryd.underlying33 hi hz0 hz1 hz2 rfl (by decide) v _ _ (by simp [Act.eval]) (HO.out.drew.alloc _) ⟨wr.heap.size, 0, none⟩ 1 1 [.int .u8 (y : Int)] (by simp [Act.eval]) rfl (World.news_of_block (heap_alloc_new wr.drew _)) (by simp [Value.oneCell']) (by decide) (by unfold maxLen; omega) (by omega) (by simp; omega) (wr.heap.size + 1) (by simp) ?_; intro g1 cap1 w1 hown1 hgrow hat _; obtain ⟨d0, f1⟩ := grown_cell (m := 1) _ HP.out hne hgrow; have HO1 := Lib.hid hown1; have HG := Lib.hid hgrow; have HA := Lib.hid hat; clear hown1 hgrow hat)
      all_goals
        go_wp2
        go_roundw
        case rel => exact ⟨k + 1, by omega, by go_num, by rw [numB_take x n k hlt, ← List.append_assoc, ← HLS.out, ← HY.out]; exact next_byte HR.out HP.out HO1.out HG.out HA.out⟩
        case measure => simp [intOf]; omega
    · obtain rfl : k = n := by omega
      go_wp2_with fail
      go_ret
      exact ⟨rfl, by rw [List.take_of_length_le (by rw [numB_length]; omega)] at hwr; exact hwr⟩
set_option maxHeartbeats 1000000 in
theorem raw_ok {B : Nat} {w0 w : World} {P : Nat} {x : Value} {bs : List Nat} {g : Option Nat} {l : List Nat} (hx : Lies w x bs) (hn : bs.length ≤ 1000000000) (hB : B ≤ w0.heap.size) (hbig : l.length ≤ 1000000000) (hw : OWrote B w0 P g l w) :
    Calls Tryd.prog 54 #[.pointer (some ⟨P, 0, none⟩), x] w fun e w' => e = .returned (.tuple #[]) ∧ OWrote B w0 P g (l ++ bs) w' := by
  obtain ⟨i0, hi, hz0, hz1, hz2⟩ := info_parts infoU8
  obtain ⟨v, hP, hown, hne⟩ := hw.at
  obtain ⟨c0, f0⟩ := cells1 hP
  have hBr : B ≤ w.heap.size := Nat.le_trans hB hw.2.2.1.size
  have HP := Lib.hid hP
  have HO := Lib.hid hown
  have HR := Lib.hid hw
  have HX := Lib.hid hx
  clear hP hown hw hx
  go_enter Tryd.func54, Tryd.ntmps54
  go_wp2_with (at_builtin; refine wpList_append_bytes _ rfl _ _ 33 rfl B 5 i0 Tryd.underlying33 hi hz0 hz1 hz2 v _ _ rfl HO.out x bs rfl HX.out (by omega) hBr ?_; intro v2 w2 hown2 hgrow hat; obtain ⟨d0, f1⟩ := grown_cell0 HP.out hne hgrow; have HO1 := Lib.hid hown2; have HG := Lib.hid hgrow; have HA := Lib.hid hat; obtain ⟨a2, n2, rfl⟩ := own_slice hown2; clear hown2 hgrow hat)
  go_end0
  exact ⟨rfl, next_raw HR.out HP.out HO1.out HG.out HA.out⟩
set_option maxHeartbeats 1000000 in
theorem obytes (P : Nat) {B : Nat} {w0 w : World} {g : Option Nat} {l : List Nat} (h : OWrote B w0 P g l w) (hbig : l.length ≤ 1000000000) :
    Calls Tryd.prog 55 #[.pointer (some ⟨P, 0, none⟩)] w fun e w' => ∃ v', e = .returned v' ∧ w'.ownsRow w.heap.size 5 1 v' l.length (u8s l) ∧ Below w.heap.size w w' := by
  obtain ⟨v, hP, hown, _⟩ := h.at
  obtain ⟨c0, _⟩ := cells1 hP
  have HL := Lib.hid (ownsRow_lies hown)
  clear h hP hown
  go_enter Tryd.func55, Tryd.ntmps55
  go_wp2_with (go_at_call 42; refine (clone_any HL.out hbig).mono ?_; rintro e w' ⟨v', rfl, hown', hbel⟩)
  go_ret
  exact ⟨_, rfl, hown', hbel⟩
end Go.Proofs.YtngeilhdambgfaaDoor
