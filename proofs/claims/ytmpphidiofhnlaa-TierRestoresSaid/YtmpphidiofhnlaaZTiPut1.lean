/- Package tier: Put. -/
import Derived.Test.YtmpphidiofhnlaaZTiAt
import Derived.Test.YtmpphidiofhnlaaZTiDoes
namespace Go.Proofs.Ytmpphidiofhnlaa
open Go.RowKit

set_option maxHeartbeats 4000000 in
set_option maxRecDepth 100000 in
theorem tiidx_any {w : World} {v : Value} {l : List Pt} (hv : PLies w v l) (hn : l.length ≤ maxLen) {B : Nat} {F : Pt → Bool} (hO : ∀ W, Below w.heap.size w W → ∀ p : Pt, Calls Try.prog 36 #[.agg #[.int .i64 p.a, .int .i64 p.v], .pointer (some ⟨B, 0, none⟩)] W fun e w' => e = .returned (.bool (F p)) ∧ Below W.heap.size W w') :
    Calls Try.prog 63 #[v, .func (.func 36) #[] #[.pointer (some ⟨B, 0, none⟩)]] w fun e w' => (∃ r : Int, e = .returned (.int .i64 r) ∧ decide (0 ≤ r) = l.any F) ∧ Below w.heap.size w w' := by
  obtain ⟨a, b, off, cap, rfl, hadr, hpts⟩ := hv
  have HADR := Lib.hid hadr
  have HP := Lib.hid hpts
  have HN : Hid (l.length ≤ maxLen) := Lib.hid hn
  clear hadr hpts hn
  have HO := Lib.hid hO
  clear hO
  go_enter Try.func63, Try.ntmps63
  go_wp2_with fail
  go_loopw [8] (fun c wr => ∃ k : Nat, k ≤ l.length ∧ c = .int .i64 k ∧ (l.take k).any F = false ∧ Below w.heap.size w wr) (fun c _ => l.length - (intOf c).toNat)
  case atStart => exact ⟨0, Nat.zero_le _, rfl, rfl, Below.refl _ _⟩
  case round =>
    obtain ⟨k, hk, rfl, hnone, hb⟩ := hrel
    obtain ⟨W3, hW3⟩ : ∃ W3, W3 = wr := ⟨_, rfl⟩
    subst hW3
    have HB := Lib.hid hb
    have HNO := Lib.hid hnone
    have HPT := Lib.hid (HP.out.beyond hb)
    clear hb hnone
    by_cases hlt : k < l.length
    · have ea := HADR.out (by intro h; simp [h] at hlt)
      subst ea
      obtain ⟨p, hp⟩ : ∃ p, l[k]? = some p := ⟨l[k], List.getElem?_eq_getElem hlt⟩
      obtain ⟨c0, c1⟩ := HPT.out k p hp
      have HPK := Lib.hid hp
      have hmax : k < 9223372036854775807 := by have := HN.out; unfold maxLen at this; omega
      clear hp
      go_wp2_with fail
      refine (HO.out W3 HB.out p).mono ?_
      rintro e W4 ⟨rfl, hb4⟩
      have HB4 := Lib.hid (HB.out.trans (hb4.mono HB.out.size))
      clear hb4 c0 c1
      dsimp only
      cases ho : F p with
      | true =>
        have HYES : Hid (l.any F = true) := Lib.hid (List.any_eq_true.2 ⟨p, List.mem_of_getElem? HPK.out, ho⟩)
        clear ho
        go_wp2
        go_ret
        exact ⟨⟨k, rfl, by rw [HYES.out]; exact decide_eq_true (by omega)⟩, HB4.out⟩
      | false =>
        have HNX : Hid ((l.take (k + 1)).any F = false) := Lib.hid (by rw [List.take_add_one, HPK.out, List.any_append, HNO.out]; simp [ho])
        clear ho
        go_wp2_with fail
        go_roundw
        case rel => exact ⟨k + 1, by omega, by go_num, HNX.out, HB4.out⟩
        case measure => simp [intOf]; omega
    · have HZ : Hid (l.any F = false) := Lib.hid (by have h := HNO.out; rwa [List.take_of_length_le (by omega)] at h)
      go_wp2_with fail
      go_ret
      exact ⟨⟨-1, rfl, by rw [HZ.out]; rfl⟩, HB.out⟩
set_option maxHeartbeats 4000000 in
theorem ticont_any {w : World} {v : Value} {l : List Pt} (hv : PLies w v l) (hn : l.length ≤ maxLen) {B : Nat} {F : Pt → Bool} (hO : ∀ W, Below w.heap.size w W → ∀ p : Pt, Calls Try.prog 36 #[.agg #[.int .i64 p.a, .int .i64 p.v], .pointer (some ⟨B, 0, none⟩)] W fun e w' => e = .returned (.bool (F p)) ∧ Below W.heap.size W w') :
    Calls Try.prog 35 #[v, .func (.func 36) #[] #[.pointer (some ⟨B, 0, none⟩)]] w fun e w' => e = .returned (.bool (l.any F)) ∧ Below w.heap.size w w' := by
  have H := Lib.hid (tiidx_any hv hn hO)
  clear hv hO
  obtain ⟨R, hR⟩ : ∃ R, R = l.any F := ⟨_, rfl⟩
  rw [← hR] at H ⊢
  clear hR
  go_enter Try.func35, Try.ntmps35
  go_wp2_with fail
  refine H.out.mono ?_
  rintro e W2 ⟨⟨r, rfl, hr⟩, hb⟩
  have HB := Lib.hid hb
  have HR := Lib.hid hr
  clear hb hr
  go_wp2
  go_ret
  exact ⟨by rw [← HR.out]; rfl, HB.out⟩
/-- what is captured: the stock, in a block of its own -/
def CapAt (w : World) (B p : Nat) : Prop := w.heap[B]? = some (.cells #[.pointer (some ⟨p, 0, none⟩)] 28 (0, 0))
theorem CapAt.keep {w w' : World} {B p : Nat} (h : CapAt w B p) (hb : Below w.heap.size w w') : CapAt w' B p := (hb.block B (lt_of_block h)).trans h
theorem CapAt.cell {w : World} {B p : Nat} (h : CapAt w B p) : w.cell? ⟨B, 0, none⟩ = some (.pointer (some ⟨p, 0, none⟩)) := by
  unfold CapAt at h
  simp [World.cell?, h]
theorem CapAt.new (w : World) (p : Nat) : CapAt (w.alloc (.cells #[.pointer (some ⟨p, 0, none⟩)] 28)) w.heap.size p := heap_alloc_new w _
theorem CapAt.only {S : Nat → Prop} {w w' : World} {B p : Nat} (h : CapAt w B p) (ho : Only S w w') (hS : ¬ S B) : CapAt w' B p := (ho.block B (lt_of_block h) hS).trans h
theorem CapAt.lt {w : World} {B p : Nat} (h : CapAt w B p) : B < w.heap.size := lt_of_block h
theorem TSit.nB {w : World} {B p sp : Nat} {v vm vl : Value} {s : Stk} (h : TSit w p sp v vm vl s) (hc : CapAt w B p) : ¬ TBlk p sp v vm vl B := by
  rintro (e | (e | e) | e | e)
  · subst e
    have h1 := h.at_
    unfold CapAt at hc
    rw [hc] at h1
    injection h1 with h1
    injection h1 with h1 h2
    revert h2; decide
  · subst e
    have h1 := h.ser.at_
    unfold CapAt at hc
    rw [hc] at h1
    injection h1 with h1
    injection h1 with h1 h2
    revert h2; decide
  · exact row_ne hc h.ser.row (by decide) e
  · exact row_ne hc h.mid (by decide) e
  · exact row_ne hc h.long (by decide) e
set_option maxHeartbeats 4000000 in
theorem tiput1_any {w : World} {B p sp : Nat} {v vm vl : Value} {s : Stk} (h : TSit w p sp v vm vl s) (hc : CapAt w B p) (q : Pt) :
    Calls Try.prog 36 #[.agg #[.int .i64 q.a, .int .i64 q.v], .pointer (some ⟨B, 0, none⟩)] w fun e w' => e = .returned (.bool (decide (q.a < s.mm))) ∧ Below w.heap.size w w' := by
  obtain ⟨-, -, -, -, -, c5, -⟩ := h.cells
  have cb := hc.cell
  clear h hc
  obtain ⟨M, hM⟩ : ∃ M, M = s.mm := ⟨_, rfl⟩
  rw [← hM] at c5 ⊢
  clear hM
  go_enter Try.func36, Try.ntmps36
  go_upto_region 1 with fail
  refine wp_name fun W1 hW1 => ?_
  obtain ⟨P, hP⟩ : ∃ P, P = w.heap.size := ⟨_, rfl⟩
  have hb1 : Below w.heap.size w W1 := by rw [hW1.out]; exact (Below.refl _ _).alloc (Nat.le_refl _) _
  have hR1 : PtAt W1 P q := by rw [hW1.out, hP]; exact PtAt.new w q
  have hc1 : W1.cell? ⟨P, 0, none⟩ = some (.int .i64 q.a) ∧ W1.cell? ⟨B, 0, none⟩ = some (.pointer (some ⟨p, 0, none⟩)) ∧ W1.cell? ⟨p, 5, none⟩ = some (.int .i64 M) := ⟨hR1.cells.1, (hb1.cell (p := ⟨B, 0, none⟩) (cell_lt cb)).trans cb, (hb1.cell (p := ⟨p, 5, none⟩) (cell_lt c5)).trans c5⟩
  have HC := Lib.hid hc1
  have HB1 := Lib.hid hb1
  rw [← hP]
  clear hW1 hb1 hP hR1 hc1 c5 cb
  go_region_held3 (fun w' => w'.cell? ⟨P, 0, none⟩ = some (.int .i64 q.a) ∧ w'.cell? ⟨B, 0, none⟩ = some (.pointer (some ⟨p, 0, none⟩)) ∧ w'.cell? ⟨p, 5, none⟩ = some (.int .i64 M)) (first | exact HC.out) (fail)
  go_wp2_with fail
  go_ret
  exact ⟨rfl, below_drew HB1.out⟩
end Go.Proofs.Ytmpphidiofhnlaa
