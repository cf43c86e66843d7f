/- A journal read. -/
import Derived.Test.YtngeilhdambgfaaDoorJoRecs
import Derived.Test.YtngeilhdambgfaaDoorStTurn
import Derived.Test.YtngeilhdambgfaaDoorDvJoin
namespace Go.Proofs.YtngeilhdambgfaaDoor
open Go.RowKit

theorem placedL_len (t : Nat) (L : List (List Nat)) : ∀ k, (placedL t k L).length ≤ L.length := by
  induction L with
  | nil => intro k; simp [placedL]
  | cons b L ih =>
    intro k
    unfold placedL
    split
    · have := ih (k + 1); simp; exact this
    · simp
theorem ownsRow_less {w : World} {base base' : Nat} {e : TypeId} {size n : Nat} {v : Value} {xs : List Value} (h : w.ownsRow base e size v n xs) (hb : base' ≤ base) : w.ownsRow base' e size v n xs := ⟨h.1, h.2.elim .inl (fun ⟨g, cap, cur, a, b, c⟩ => .inr ⟨g, cap, cur, a, Nat.le_trans hb b, c⟩)⟩
set_option maxRecDepth 1000000 in
set_option maxHeartbeats 4000000 in
theorem joread_bad {w : World} {B P : Nat} {d : Dev} {f n : Int} (h : DevAt w B P d) (hf2 : f ≤ 9223372036854775807) (hb : decide (0 ≤ f ∧ 1 ≤ n ∧ n ≤ (d.lies.length : Int) - f) = false) :
    Calls Tryd.prog 18 #[.pointer (some ⟨P, 0, none⟩), .int .i64 f, .int .i64 n] w fun e w' => e = .returned (.tuple #[.slice none 0 0, .int .u32 0, .int .i64 1]) ∧ w' = w := by
  have HH := Lib.hid (johas_any (n := n) h hf2)
  have HE := Lib.hid hb
  clear h hb
  go_enter Tryd.func18, Tryd.ntmps18
  go_wp2_with (go_at_call 22; refine (HH.out).mono ?_; rw [HE.out]; rintro e w' ⟨rfl, rfl⟩)
  go_ret3
  exact ⟨rfl, rfl⟩
set_option maxRecDepth 1000000 in
set_option maxHeartbeats 8000000 in
theorem joread_ok {w : World} {B P frm n : Nat} {d : Dev} (h : DevAt w B P d) (hn : 1 ≤ n) (hr : frm + n ≤ d.lies.length) (hup : d.down = false) (hs : SmallD d) :
    Calls Tryd.prog 18 #[.pointer (some ⟨P, 0, none⟩), .int .i64 (frm : Int), .int .i64 (n : Int)] w fun e w' => ∃ v us, e = .returned (.tuple #[v, .int .u32 (turn0 ((d.told.drop frm).take n) : Int), .int .i64 0]) ∧ RowsO w.heap.size w' v us (readsJ ((d.told.drop frm).take n)) ∧ Below w.heap.size w w' := by
  have hN : d.lies.length ≤ 8192 := h.ok.size
  have HH := Lib.hid (johas_any (f := (frm : Int)) (n := (n : Int)) h (by omega))
  have HE : Hid (decide (0 ≤ (frm : Int) ∧ 1 ≤ (n : Int) ∧ (n : Int) ≤ (d.lies.length : Int) - (frm : Int)) = true) := Lib.hid (by simp; omega)
  have HRD := Lib.hid (read_ok (f := frm) (n := n) h hup hr)
  obtain ⟨L, hL⟩ : ∃ L, L = (d.told.drop frm).take n := ⟨_, rfl⟩
  have hS : Sect L := fun s hs => by rw [hL] at hs; exact h.ok.told s (List.mem_of_mem_drop (List.mem_of_mem_take hs))
  have hSm : ∀ s ∈ L, ∀ x ∈ s, x < 256 := fun x hx => by rw [hL] at hx; exact hs.told x (List.mem_of_mem_drop (List.mem_of_mem_take hx))
  have hLl : L.length = n := by rw [hL, List.length_take, List.length_drop, d.told_length]; omega
  obtain ⟨T, hT⟩ : ∃ T, T = turn0 L := ⟨_, rfl⟩
  have HTT := Lib.hid hT
  rw [← hL] at HRD ⊢
  rw [← hT]
  have HS := Lib.hid hS
  have HSM := Lib.hid hSm
  have hn8 : n ≤ 8192 := by omega
  clear h hs hL hS hSm hT
  go_enter Tryd.func18, Tryd.ntmps18
  go_wp2_with (go_at_call 22; refine (HH.out).mono ?_; rw [HE.out]; rintro e w1 ⟨rfl, rfl⟩)
  refine HRD.out.mono ?_
  rintro e w2 ⟨v', rfl, hown, hb2⟩
  obtain ⟨M, hM⟩ : ∃ M, M = n * 64 := ⟨_, rfl⟩
  rw [← hM] at hown
  have hfl : L.flatten.length = M := by rw [flat_length HS.out, hLl, hM]
  obtain ⟨g, cap, rfl, hcap, hgw⟩ : ∃ g cap, v' = .slice (some ⟨g, 0, none⟩) M cap ∧ M ≤ cap ∧ g < w2.heap.size := by
    rcases hown.2 with ⟨_, h0⟩ | ⟨g, cap, cur, hv, _, hgg, hc, _⟩
    · omega
    · exact ⟨g, cap, hv, hc, lt_of_block hgg⟩
  have hat : BytesAt w2 g 0 L.flatten := fun j hj => by rw [Nat.zero_add, hown.cellAt j (by omega), u8s_getD L.flatten j hj]
  obtain ⟨s0, hs0⟩ : ∃ s0, L[0]? = some s0 := ⟨_, List.getElem?_eq_getElem (by omega)⟩
  have hl0 : s0.length = 64 := HS.out.get hs0
  have hlies : Lies w2 (.slice (some ⟨g, 0, none⟩) 64 cap) s0 := .inr (.inr ⟨g, 0, cap, by rw [hl0], fun j hj => by
    have h1 := hat j (by omega)
    rw [h1]
    have h2 := flat_get HS.out hs0 (show j < 64 by omega)
    rw [Nat.zero_mul, Nat.zero_add] at h2
    simp only [List.getD, h2]⟩)
  have HTN := Lib.hid (turn_any hlies (HSM.out s0 (List.mem_of_getElem? hs0)))
  have hT := HTT.out
  have hT2 : (stOf s0).turn = T := by rw [hT]; unfold turn0; rw [List.getD, hs0]; rfl
  rw [hT2] at HTN
  have HAT := Lib.hid hat
  have HM := Lib.hid hM
  have HB2 := Lib.hid hb2
  have hc64 : 64 ≤ cap := by omega
  have HPL : Hid (∀ w3, Below w2.heap.size w2 w3 → _) := Lib.hid (fun w3 (hb3 : Below w2.heap.size w2 w3) => placed_any (w := w3) (b := g) (off := 0) (c := cap) (N := n) (t := T) HS.out hLl hn8 HSM.out (hat.below hb3 hgw) (Nat.lt_of_lt_of_le hgw hb3.size) (by rw [← hM]; exact hcap))
  rw [← hM] at HPL
  clear hown hfl hat hs0 hl0 hlies hT hT2 hM hb2
  dsimp only
  go_wp2_with (go_at_call 28; refine (HTN.out).mono ?_; rintro e w3 ⟨rfl, hb3⟩; have HB3 := Lib.hid hb3; clear hb3)
  refine (HPL.out w3 HB3.out).mono ?_
  rintro e w4 ⟨v4, r, rfl, hr4, hf4, hl4, hb4⟩
  have HRC := Lib.hid (records_any (t := T) hr4 (fun x hx => (hl4 x hx).lies) (fun i x hx => by rw [hf4] at hx; have := placedL_run T L 0 i x hx; rwa [Nat.zero_add] at this) (by
    have h1 := congrArg List.length hf4
    rw [List.length_map] at h1
    have h2 : (placedL T 0 L).length ≤ L.length := placedL_len T L 0
    omega))
  rw [hf4] at HRC
  obtain ⟨a4, c4, rfl⟩ := own_slice hr4
  have HB4 := Lib.hid hb4
  clear hr4 hf4 hl4 hb4
  dsimp only
  go_wp2_with (go_at_call 29; refine (HRC.out).mono ?_; rintro e w5 ⟨v5, us, rfl, hro, hb5⟩; have HRO := Lib.hid hro; have HB5 := Lib.hid hb5; clear hro hb5; dsimp only)
  go_ret3
  have hs3 := HB3.out.size
  have hs4 := HB4.out.size
  have hb : Below w1.heap.size w1 w4 := (HB2.out.trans (HB3.out.mono HB2.out.size)).trans (HB4.out.mono (Nat.le_trans HB2.out.size hs3))
  refine ⟨v5, us, rfl, ?_, hb.trans (HB5.out.mono hb.size)⟩
  have h1 := HRO.out
  unfold readsJ
  rw [← HTT.out, readJ_recs]
  exact ⟨ownsRow_less h1.row hb.size, h1.len, h1.data⟩
end Go.Proofs.YtngeilhdambgfaaDoor
