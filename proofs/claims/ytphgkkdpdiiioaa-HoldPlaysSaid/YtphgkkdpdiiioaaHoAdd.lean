/- Package hold: Add to a table that is there. -/
import Derived.Test.YtphgkkdpdiiioaaHoAt
import Derived.Test.YtphgkkdpdiiioaaHoApa
import Derived.Test.YtphgkkdpdiiioaaWiRt
import Derived.StillTailTactics
namespace Go.Proofs.Ytphgkkdpdiiioaa
open Go.RowKit Go.Maps

/-- between two calls: the hold in its block, the table as it was -/
def AddQ (w : World) (p : Nat) (b : Option Nat) (m : List Hld) (B : Nat) (x : Hld) (W : World) : Prop :=
  TabAt W p b m ∧ W.heap[B]? = some (.cells #[.string x.name, .string x.ser, .int .i64 x.a, .int .i64 x.b] 30 (0, 0)) ∧ Below B w W ∧ B = w.heap.size
theorem AddQ.beyond {w W W' : World} {p B : Nat} {b : Option Nat} {m : List Hld} {x : Hld} (h : AddQ w p b m B x W) (hb : Below W.heap.size W W') : AddQ w p b m B x W' :=
  ⟨h.1.below hb, (hb.block _ (lt_of_block h.2.1)).trans h.2.1, h.2.2.1.trans (hb.mono (by rw [h.2.2.2]; exact h.2.2.1.size)), h.2.2.2⟩
theorem AddQ.cells {w W : World} {p B : Nat} {b : Option Nat} {m : List Hld} {x : Hld} (h : AddQ w p b m B x W) :
    W.cell? ⟨B, 0, none⟩ = some (.string x.name) ∧ W.cell? ⟨B, 1, none⟩ = some (.string x.ser) ∧ W.cell? ⟨B, 2, none⟩ = some (.int .i64 x.a) ∧ W.cell? ⟨B, 3, none⟩ = some (.int .i64 x.b) ∧ W.cell? ⟨p, 0, none⟩ = some (.map b) := by
  have X : Arr W B 30 x.cells := h.2.1
  exact ⟨X.cell rfl, X.cell rfl, X.cell rfl, X.cell rfl, h.1.cell.1⟩
set_option maxHeartbeats 16000000 in
set_option maxRecDepth 100000 in
theorem hoadd_no {w : World} {p : Nat} {b : Option Nat} {m : List Hld} (h : TabAt w p b m) (x : Hld) (hn : x.name.size ≤ maxLen) (hs : x.ser.size ≤ maxLen) (hno : addE m x ≠ 0) :
    Calls Try.prog 11 #[.pointer (some ⟨p, 0, none⟩), x.val] w fun e w' => e = .returned (.int .i64 (addE m x)) ∧ Below w.heap.size w w' := by
  have HNAM : Hid (∀ W, Calls Try.prog 19 #[x.val] W fun e w' => e = .returned (.bool (namedH x)) ∧ Below W.heap.size W w') := Lib.hid fun W => honamed_any W x hn hs
  have HRIG : Hid (∀ W, Calls Try.prog 20 #[.agg #[.int .i64 x.a, .int .i64 x.b]] W fun e w' => e = .returned (.bool (rightR x.a x.b)) ∧ Below W.heap.size W w') := Lib.hid fun W => wiright_any W x.a x.b
  have HHAS : Hid (∀ W, TabAt W p b m → Calls Try.prog 21 #[.pointer (some ⟨p, 0, none⟩), .string x.name] W fun e w' => e = .returned (.bool (hasH m x.name)) ∧ Below W.heap.size W w') := Lib.hid fun W hW => hohas_any hW hn
  have HLEN : Hid (∀ W, TabAt W p b m → Calls Try.prog 14 #[.pointer (some ⟨p, 0, none⟩)] W fun e w' => e = .returned (.int .i64 (m.length : Int)) ∧ w' = W) := Lib.hid fun W hW => holen_any hW
  have HE : Hid (addE m x = if namedH x = false then 15 else if rightR x.a x.b = false then 3 else if hasH m x.name = true then 8 else if 16 ≤ m.length then 6 else 0) := Lib.hid rfl
  obtain ⟨E, hE⟩ : ∃ E, E = addE m x := ⟨_, rfl⟩
  obtain ⟨N, hN⟩ : ∃ N, N = namedH x := ⟨_, rfl⟩
  obtain ⟨R, hR⟩ : ∃ R, R = rightR x.a x.b := ⟨_, rfl⟩
  obtain ⟨G, hG⟩ : ∃ G, G = hasH m x.name := ⟨_, rfl⟩
  obtain ⟨L, hL⟩ : ∃ L, L = m.length := ⟨_, rfl⟩
  obtain ⟨B, hB⟩ : ∃ B, B = w.heap.size := ⟨_, rfl⟩
  have HQ0 : Hid (AddQ w p b m B x (w.alloc (.cells #[.string x.name, .string x.ser, .int .i64 x.a, .int .i64 x.b] 30))) := Lib.hid ⟨h.old _, by rw [hB]; exact heap_alloc_new _ _, (Below.refl _ _).alloc (by omega) _, hB⟩
  rw [← hE] at HE hno ⊢
  rw [← hN] at HNAM HE
  rw [← hR] at HRIG HE
  rw [← hG] at HHAS HE
  rw [← hL] at HLEN HE
  have HNO := Lib.hid hno
  clear hE hN hR hG hL h hn hs hno
  obtain ⟨n, s, a, c⟩ := x
  unfold Hld.val at *
  dsimp only at *
  subst hB
  cases N with
  | false =>
    obtain ⟨c0, c1, c2, c3, cp⟩ := HQ0.out.cells
    go_enter Try.func11, Try.ntmps11
    go_wp2_with (first | (go_at_call 19; refine (HNAM.out _).mono ?_; clear HNAM; rintro e W1 ⟨rfl, hb1⟩; have HQ1 := Lib.hid (HQ0.out.beyond hb1); clear hb1))
    go_ret
    exact ⟨by rw [HE.out]; rfl, HQ1.out.2.2.1⟩
  | true =>
    obtain ⟨c0, c1, c2, c3, cp⟩ := HQ0.out.cells
    cases R with
    | false =>
      go_enter Try.func11, Try.ntmps11
      go_wp2_with (first | (go_at_call 19; refine (HNAM.out _).mono ?_; clear HNAM; rintro e W1 ⟨rfl, hb1⟩; have HQ1 := Lib.hid (HQ0.out.beyond hb1); clear hb1; obtain ⟨c0, c1, c2, c3, cp⟩ := HQ1.out.cells) | (go_at_call 20; refine (HRIG.out _).mono ?_; clear HRIG; rintro e W2 ⟨rfl, hb2⟩; have HQ2 := Lib.hid (HQ1.out.beyond hb2); clear hb2; obtain ⟨c0, c1, c2, c3, cp⟩ := HQ2.out.cells))
      go_ret
      exact ⟨by rw [HE.out]; rfl, HQ2.out.2.2.1⟩
    | true =>
      cases G with
      | true =>
        go_enter Try.func11, Try.ntmps11
        go_wp2_with (first | (go_at_call 19; refine (HNAM.out _).mono ?_; clear HNAM; rintro e W1 ⟨rfl, hb1⟩; have HQ1 := Lib.hid (HQ0.out.beyond hb1); clear hb1; obtain ⟨c0, c1, c2, c3, cp⟩ := HQ1.out.cells) | (go_at_call 20; refine (HRIG.out _).mono ?_; clear HRIG; rintro e W2 ⟨rfl, hb2⟩; have HQ2 := Lib.hid (HQ1.out.beyond hb2); clear hb2; obtain ⟨c0, c1, c2, c3, cp⟩ := HQ2.out.cells) | (go_at_call 21; refine (HHAS.out _ HQ2.out.1).mono ?_; clear HHAS; rintro e W3 ⟨rfl, hb3⟩; have HQ3 := Lib.hid (HQ2.out.beyond hb3); clear hb3; obtain ⟨c0, c1, c2, c3, cp⟩ := HQ3.out.cells))
        go_ret
        exact ⟨by rw [HE.out]; rfl, HQ3.out.2.2.1⟩
      | false =>
        have h16 : 16 ≤ L := by
          rcases Nat.lt_or_ge L 16 with hl | hl
          · exact absurd (by rw [HE.out]; simp; omega) HNO.out
          · exact hl
        have t16 : decide ((16 : Int) ≤ (L : Int)) = true := by simp only [decide_eq_true_eq]; omega
        have HL := Lib.hid h16
        clear h16
        go_enter Try.func11, Try.ntmps11
        go_wp2_with (first | (go_at_call 19; refine (HNAM.out _).mono ?_; clear HNAM; rintro e W1 ⟨rfl, hb1⟩; have HQ1 := Lib.hid (HQ0.out.beyond hb1); clear hb1; obtain ⟨c0, c1, c2, c3, cp⟩ := HQ1.out.cells) | (go_at_call 20; refine (HRIG.out _).mono ?_; clear HRIG; rintro e W2 ⟨rfl, hb2⟩; have HQ2 := Lib.hid (HQ1.out.beyond hb2); clear hb2; obtain ⟨c0, c1, c2, c3, cp⟩ := HQ2.out.cells) | (go_at_call 21; refine (HHAS.out _ HQ2.out.1).mono ?_; clear HHAS; rintro e W3 ⟨rfl, hb3⟩; have HQ3 := Lib.hid (HQ2.out.beyond hb3); clear hb3; obtain ⟨c0, c1, c2, c3, cp⟩ := HQ3.out.cells) | (go_at_call 14; refine (HLEN.out _ HQ3.out.1).mono ?_; clear HLEN; rintro e W4 ⟨rfl, hw4⟩; replace hw4 := hw4.symm; subst hw4))
        go_ret
        exact ⟨by rw [HE.out]; simp [HL.out], HQ3.out.2.2.1⟩
end Go.Proofs.Ytphgkkdpdiiioaa
