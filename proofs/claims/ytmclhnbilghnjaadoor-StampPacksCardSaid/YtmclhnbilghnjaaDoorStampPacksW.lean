/- StampPacks, walked. -/
import Derived.Test.YtmclhnbilghnjaaDoorStSame
import Derived.Test.YtmclhnbilghnjaaDoorStLives
import Derived.Test.YtmclhnbilghnjaaDoorStPack
import Derived.Test.YtmclhnbilghnjaaDoorStTurn
import Derived.Deep.DeepCutAuto
namespace Go.Proofs.YtmclhnbilghnjaaDoor
open Go.RowKit

theorem run_text_eq (w : World) {o : Oper} {a : Act} (x y : Operand) (ho : o.op = .binOp .eql 9 x y 9) (s : ByteArray) (hx : a.eval x = .string s) (hy : a.eval y = .string s) : (execOp a.eval o).run Tryd.prog w = .ok (.value (.bool true)) w := by
  unfold execOp
  simp only [ho, hx, hy]
  go_simp

set_option maxHeartbeats 8000000 in
set_option maxRecDepth 1000000 in
theorem stampPacks_walk {w : World} {s : Sec} {u : Value} (hu : Lies w u s.data) (_hf : Fits u) (hin : s.In) (_hm : s.data.length ≤ maxLen) (hl : StepsLaid w) :
    Calls Tryd.prog 3 #[secV s u] w fun e w' => e = .returned (.bool true) ∧ Below w.heap.size w w' := by
  obtain ⟨a, c, rfl⟩ := lies_len hu
  obtain ⟨t, p, L, D⟩ := s
  obtain ⟨n, hn⟩ : ∃ n, n = D.length := ⟨_, rfl⟩
  unfold secV
  simp only at hu ⊢
  rw [← hn] at hu ⊢
  have HU := Lib.hid hu
  have HN := Lib.hid hn
  have HIN := Lib.hid hin
  have HL := Lib.hid hl
  clear hu hn hin hl _hf _hm
  have HLV : Hid (∀ W, Calls Tryd.prog 4 #[] W fun e w' => e = .returned (.bool true) ∧ Below W.heap.size W w') := Lib.hid lives_any
  by_cases h200 : 200 < n
  · have t1 : decide ((200 : Int) < (n : Int)) = true := by simp; omega
    clear h200
    go_enter Tryd.func3, Tryd.ntmps3
    go_wp2_with fail
    obtain ⟨V, hV⟩ : ∃ V, V = w.heap.size := ⟨_, rfl⟩
    rw [← hV]
    refine calls_name fun W0 hW0 => ?_
    have HV0 : Hid (W0.heap[V]? = some (.cells #[.int .u32 (t : Int), .int .u32 (p : Int), .bool L, .slice a n c] 27 (0, 0))) := Lib.hid (by rw [hW0, hV]; exact heap_alloc_new _ _)
    have HB0 : Hid (Below w.heap.size w W0) := Lib.hid (by rw [hW0]; exact (Below.refl _ w).alloc (Nat.le_refl _) _)
    clear hW0 hV
    refine (HLV.out _).mono ?_
    rintro e w1 ⟨rfl, hb1⟩
    have HB1 : Hid (Below w.heap.size w w1) := Lib.hid (HB0.out.trans (hb1.mono HB0.out.size))
    have hv1 : w1.heap[V]? = some (.cells #[.int .u32 (t : Int), .int .u32 (p : Int), .bool L, .slice a n c] 27 (0, 0)) := (hb1.block V (lt_of_block HV0.out)).trans HV0.out
    have HV1 := Lib.hid hv1
    obtain ⟨⟨c10, c11, c12, c13⟩, _, _, _, _⟩ := cells4 hv1
    clear hb1 hv1
    go_wp2_with (go_at_call 4; refine (HLV.out _).mono ?_; rintro e w2 ⟨rfl, hb2⟩; have HB2 : Hid (Below w.heap.size w w2) := Lib.hid (HB1.out.trans (hb2.mono HB1.out.size)); clear hb2)
    go_ret
    exact ⟨rfl, HB2.out⟩
  · have t1 : decide ((200 : Int) < (n : Int)) = false := by simp; omega
    by_cases ht : t = 0
    · have HT0 := Lib.hid ht
      clear ht
      go_enter Tryd.func3, Tryd.ntmps3
      go_wp2_with fail
      obtain ⟨V, hV⟩ : ∃ V, V = w.heap.size := ⟨_, rfl⟩
      rw [← hV]
      refine calls_name fun W0 hW0 => ?_
      have HV0 : Hid (W0.heap[V]? = some (.cells #[.int .u32 (t : Int), .int .u32 (p : Int), .bool L, .slice a n c] 27 (0, 0))) := Lib.hid (by rw [hW0, hV]; exact heap_alloc_new _ _)
      have HB0 : Hid (Below w.heap.size w W0) := Lib.hid (by rw [hW0]; exact (Below.refl _ w).alloc (Nat.le_refl _) _)
      clear hW0 hV
      refine (HLV.out _).mono ?_
      rintro e w1 ⟨rfl, hb1⟩
      have HB1 : Hid (Below w.heap.size w w1) := Lib.hid (HB0.out.trans (hb1.mono HB0.out.size))
      have hv1 : w1.heap[V]? = some (.cells #[.int .u32 (t : Int), .int .u32 (p : Int), .bool L, .slice a n c] 27 (0, 0)) := (hb1.block V (lt_of_block HV0.out)).trans HV0.out
      have HV1 := Lib.hid hv1
      obtain ⟨⟨c10, c11, c12, c13⟩, _, _, _, _⟩ := cells4 hv1
      clear hb1 hv1
      go_wp2_with fail
      refine (pack_turn (s := ⟨t, p, L, D⟩) (u := .slice a n c) (lies_keep HU.out HB1.out) HT0.out).mono ?_
      rintro e w2 ⟨rfl, hb2⟩
      have HB2 : Hid (Below w.heap.size w w2) := Lib.hid (HB1.out.trans (hb2.mono HB1.out.size))
      have hv2 : w2.heap[V]? = some (.cells #[.int .u32 (t : Int), .int .u32 (p : Int), .bool L, .slice a n c] 27 (0, 0)) := (hb2.block V (lt_of_block HV1.out)).trans HV1.out
      have HV2 := Lib.hid hv2
      obtain ⟨⟨c20, c21, c22, c23⟩, _, _, _, _⟩ := cells4 hv2
      clear hb2 hv2
      have t2 : ((t : Int) == 0) = true := by have := HT0.out; simp; omega
      go_wp2
      go_ret
      exact ⟨rfl, HB2.out⟩
    · have t2 : ((t : Int) == 0) = false := by simp; omega
      by_cases h47 : 47 < n
      · have t3 : decide ((47 : Int) < (n : Int)) = true := by simp; omega
        go_enter Tryd.func3, Tryd.ntmps3
        go_wp2_with fail
        obtain ⟨V, hV⟩ : ∃ V, V = w.heap.size := ⟨_, rfl⟩
        rw [← hV]
        refine calls_name fun W0 hW0 => ?_
        have HV0 : Hid (W0.heap[V]? = some (.cells #[.int .u32 (t : Int), .int .u32 (p : Int), .bool L, .slice a n c] 27 (0, 0))) := Lib.hid (by rw [hW0, hV]; exact heap_alloc_new _ _)
        have HB0 : Hid (Below w.heap.size w W0) := Lib.hid (by rw [hW0]; exact (Below.refl _ w).alloc (Nat.le_refl _) _)
        clear hW0 hV
        refine (HLV.out _).mono ?_
        rintro e w1 ⟨rfl, hb1⟩
        have HB1 : Hid (Below w.heap.size w w1) := Lib.hid (HB0.out.trans (hb1.mono HB0.out.size))
        have hv1 : w1.heap[V]? = some (.cells #[.int .u32 (t : Int), .int .u32 (p : Int), .bool L, .slice a n c] 27 (0, 0)) := (hb1.block V (lt_of_block HV0.out)).trans HV0.out
        have HV1 := Lib.hid hv1
        obtain ⟨⟨c10, c11, c12, c13⟩, _, _, _, _⟩ := cells4 hv1
        clear hb1 hv1
        go_wp2_with fail
        refine (pack_long (s := ⟨t, p, L, D⟩) (u := .slice a n c) (lies_keep HU.out HB1.out) ht (by rw [← HN.out]; exact h47)).mono ?_
        rintro e w2 ⟨rfl, hb2⟩
        have HB2 : Hid (Below w.heap.size w w2) := Lib.hid (HB1.out.trans (hb2.mono HB1.out.size))
        have hv2 : w2.heap[V]? = some (.cells #[.int .u32 (t : Int), .int .u32 (p : Int), .bool L, .slice a n c] 27 (0, 0)) := (hb2.block V (lt_of_block HV1.out)).trans HV1.out
        have HV2 := Lib.hid hv2
        obtain ⟨⟨c20, c21, c22, c23⟩, _, _, _, _⟩ := cells4 hv2
        clear hb2 hv2
        clear ht h200 h47
        go_wp2
        go_ret
        exact ⟨rfl, HB2.out⟩
      · have t3 : decide ((47 : Int) < (n : Int)) = false := by simp; omega
        have HOK : Hid (Sec.Ok ⟨t, p, L, D⟩) := Lib.hid ⟨ht, by have := HN.out; simp only; omega, HIN.out⟩
        clear ht h200 h47
        go_enter Tryd.func3, Tryd.ntmps3
        go_wp2_with fail
        obtain ⟨V, hV⟩ : ∃ V, V = w.heap.size := ⟨_, rfl⟩
        rw [← hV]
        refine calls_name fun W0 hW0 => ?_
        have HV0 : Hid (W0.heap[V]? = some (.cells #[.int .u32 (t : Int), .int .u32 (p : Int), .bool L, .slice a n c] 27 (0, 0))) := Lib.hid (by rw [hW0, hV]; exact heap_alloc_new _ _)
        have HB0 : Hid (Below w.heap.size w W0) := Lib.hid (by rw [hW0]; exact (Below.refl _ w).alloc (Nat.le_refl _) _)
        clear hW0 hV
        refine (HLV.out _).mono ?_
        rintro e w1 ⟨rfl, hb1⟩
        have HB1 : Hid (Below w.heap.size w w1) := Lib.hid (HB0.out.trans (hb1.mono HB0.out.size))
        have hv1 : w1.heap[V]? = some (.cells #[.int .u32 (t : Int), .int .u32 (p : Int), .bool L, .slice a n c] 27 (0, 0)) := (hb1.block V (lt_of_block HV0.out)).trans HV0.out
        have HV1 := Lib.hid hv1
        obtain ⟨⟨c10, c11, c12, c13⟩, _, _, _, _⟩ := cells4 hv1
        clear hb1 hv1
        go_wp2_with fail
        refine (pack_ok HOK.out (u := .slice a n c) (lies_keep HU.out HB1.out) (HL.out.below HB1.out)).mono ?_
        obtain ⟨BL, hBL⟩ : ∃ x, x = secB ⟨t, p, L, D⟩ := ⟨_, rfl⟩
        rw [← hBL]
        have HBL := Lib.hid hBL
        clear hBL
        rintro e w2 ⟨v2, rfl, hown, hb2⟩
        have HO2 := Lib.hid hown
        obtain ⟨a2, c2, rfl⟩ := own_slice hown
        clear hown
        have HB2 : Hid (Below w.heap.size w w2) := Lib.hid (HB1.out.trans (hb2.mono HB1.out.size))
        have hv2 : w2.heap[V]? = some (.cells #[.int .u32 (t : Int), .int .u32 (p : Int), .bool L, .slice a n c] 27 (0, 0)) := (hb2.block V (lt_of_block HV1.out)).trans HV1.out
        have HV2 := Lib.hid hv2
        obtain ⟨⟨c20, c21, c22, c23⟩, _, _, _, _⟩ := cells4 hv2
        clear hb2 hv2
        go_wp2_with fail
        have hl2 : Lies w2 (.slice a2 64 c2) BL := by have h := ownsRow_lies HO2.out; exact h
        have hun := unpack_any hl2 (by rw [HBL.out]; exact secB_small HOK.out)
        unfold Unpacked at hun
        rw [HBL.out, unpackE_secB HOK.out, unpackS_secB HOK.out] at hun
        have HL2 := Lib.hid hl2
        clear hl2
        refine hun.mono ?_
        clear hun
        rintro e w3 ⟨ur, rfl, hlu, _, hb3⟩
        unfold secV
        obtain ⟨au, cu, rfl⟩ := lies_len hlu.lies
        have HLU := Lib.hid hlu.lies
        simp only
        simp only at HLU
        rw [← HN.out] at HLU ⊢
        clear hlu
        have HL3 : Hid (Lies w3 (.slice a2 64 c2) BL) := Lib.hid (lies_keep HL2.out hb3)
        have HB3 : Hid (Below w.heap.size w w3) := Lib.hid (HB2.out.trans (hb3.mono HB2.out.size))
        have hv3 : w3.heap[V]? = some (.cells #[.int .u32 (t : Int), .int .u32 (p : Int), .bool L, .slice a n c] 27 (0, 0)) := (hb3.block V (lt_of_block HV2.out)).trans HV2.out
        have HV3 := Lib.hid hv3
        obtain ⟨⟨c30, c31, c32, c33⟩, _, _, _, _⟩ := cells4 hv3
        clear hb3 hv3
        go_upto_region 9 with fail
        obtain ⟨V3, hV3⟩ : ∃ V, V = w3.heap.size := ⟨_, rfl⟩
        rw [← hV3]
        refine wp_name fun w4 hw4 => ?_
        have HVC4 : Hid (w4.heap[V3]? = some (.cells #[.int .u32 (t : Int), .int .u32 (p : Int), .bool L, .slice au n cu] 27 (0, 0))) := Lib.hid (by rw [hw4, hV3]; exact heap_alloc_new _ _)
        have hb4 : Below w3.heap.size w3 w4 := by rw [hw4]; exact (Below.refl _ _).alloc (Nat.le_refl _) _
        have HB4 : Hid (Below w.heap.size w w4) := Lib.hid (HB3.out.trans (hb4.mono HB3.out.size))
        have HV4 : Hid (w4.heap[V]? = some (.cells #[.int .u32 (t : Int), .int .u32 (p : Int), .bool L, .slice a n c] 27 (0, 0))) := Lib.hid ((hb4.block V (lt_of_block HV3.out)).trans HV3.out)
        have HL4 : Hid (Lies w4 (.slice a2 64 c2) BL) := Lib.hid (lies_keep HL3.out hb4)
        have HLU4 : Hid (Lies w4 (.slice au n cu) D) := Lib.hid (lies_keep HLU.out hb4)
        clear hb4 hw4 hV3
        obtain ⟨BS, hBS⟩ : ∃ x, x = strOf BL := ⟨_, rfl⟩
        have HBS := Lib.hid hBS
        clear hBS
        refine wp_region_held_drew (S := fun W => W.heap[V]? = some (.cells #[.int .u32 (t : Int), .int .u32 (p : Int), .bool L, .slice a n c] 27 (0, 0)) ∧ W.heap[V3]? = some (.cells #[.int .u32 (t : Int), .int .u32 (p : Int), .bool L, .slice au n cu] 27 (0, 0)) ∧ Lies W (.slice a2 64 c2) BL ∧ Lies W (.slice au n cu) D ∧ Below w.heap.size w W) (by kernel_rfl) ⟨HV4.out, HVC4.out, lies_keep (w := w4) HL4.out (below_drew (Below.refl _ _)), lies_keep (w := w4) HLU4.out (below_drew (Below.refl _ _)), below_drew HB4.out⟩ (fun _ => ?_)
        refine anyH_take (i := 0) (some 50) (v := _) rfl rfl (by kernel_rfl) (by kernel_rfl) (by kernel_rfl) (fun _ _ _ h => h) (by rfl) (⟨HV4.out, HVC4.out, lies_keep (w := w4) HL4.out (below_drew (Below.refl _ _)), lies_keep (w := w4) HLU4.out (below_drew (Below.refl _ _)), below_drew HB4.out⟩) (by intro w hSw; go_simp; try with_reducible rfl) ?_
        (try simp only [Act.put, List.setIfInBounds_toArray, List.set_cons_zero, List.set_cons_succ])
        refine anyH_take (i := 1) (some 51) (v := _) rfl rfl (by kernel_rfl) (by kernel_rfl) (by kernel_rfl) (fun _ _ _ h => h) (by rfl) (⟨HV4.out, HVC4.out, lies_keep (w := w4) HL4.out (below_drew (Below.refl _ _)), lies_keep (w := w4) HLU4.out (below_drew (Below.refl _ _)), below_drew HB4.out⟩) (by intro w hSw; go_simp; try with_reducible rfl) ?_
        (try simp only [Act.put, List.setIfInBounds_toArray, List.set_cons_zero, List.set_cons_succ])
        refine anyH_take (i := 2) (some 52) (v := _) rfl rfl (by kernel_rfl) (by kernel_rfl) (by kernel_rfl) (fun _ _ _ h => h) (by rfl) (⟨HV4.out, HVC4.out, lies_keep (w := w4) HL4.out (below_drew (Below.refl _ _)), lies_keep (w := w4) HLU4.out (below_drew (Below.refl _ _)), below_drew HB4.out⟩) (by intro w hSw; go_simp; try with_reducible rfl) ?_
        (try simp only [Act.put, List.setIfInBounds_toArray, List.set_cons_zero, List.set_cons_succ])
        refine anyH_take (i := 3) (some 53) (v := _) rfl rfl (by kernel_rfl) (by kernel_rfl) (by kernel_rfl) (fun _ _ _ h => h) (by rfl) (⟨HV4.out, HVC4.out, lies_keep (w := w4) HL4.out (below_drew (Below.refl _ _)), lies_keep (w := w4) HLU4.out (below_drew (Below.refl _ _)), below_drew HB4.out⟩) (by intro w hSw; go_simp; try with_reducible rfl) ?_
        (try simp only [Act.put, List.setIfInBounds_toArray, List.set_cons_zero, List.set_cons_succ])
        refine anyH_take (i := 4) (some 54) (v := _) rfl rfl (by kernel_rfl) (by kernel_rfl) (by kernel_rfl) (fun _ _ _ h => h) (by rfl) (⟨HV4.out, HVC4.out, lies_keep (w := w4) HL4.out (below_drew (Below.refl _ _)), lies_keep (w := w4) HLU4.out (below_drew (Below.refl _ _)), below_drew HB4.out⟩) (fun W hW => run_conv_op 25 9 (.tmp 53) rfl _ (.string BS) rfl (by rw [HBS.out]; exact text_of hW.2.2.1 _ Tryd.underlying9)) ?_
        (try simp only [Act.put, List.setIfInBounds_toArray, List.set_cons_zero, List.set_cons_succ])
        refine anyH_take (i := 5) (some 55) (v := _) rfl rfl (by kernel_rfl) (by kernel_rfl) (by kernel_rfl) (fun _ _ _ h => h) (by rfl) (⟨HV4.out, HVC4.out, lies_keep (w := w4) HL4.out (below_drew (Below.refl _ _)), lies_keep (w := w4) HLU4.out (below_drew (Below.refl _ _)), below_drew HB4.out⟩) (by intro w hSw; obtain ⟨⟨q0, q1, q2, q3⟩, _⟩ := cells4 hSw.1; go_simp; try with_reducible rfl) ?_
        (try simp only [Act.put, List.setIfInBounds_toArray, List.set_cons_zero, List.set_cons_succ])
        refine wpAnyH_ready (rs := [6]) (by kernel_rfl) (by simp) (AllReadyH.cons rfl (fun K hK => ?_) AllReadyH.nil)
        go_simp
        refine (bytes_any HOK.out (u := .slice a n c) (lies_keep HU.out (below_drew HB4.out))).mono ?_
        rw [← HBL.out, ← HBS.out]
        rintro e w5 ⟨rfl, hb5⟩
        replace hb5 := below_undrew (w := w4) hb5
        have HB5 : Hid (Below w.heap.size w w5) := Lib.hid (HB4.out.trans (hb5.mono HB4.out.size))
        have HV5 : Hid (w5.heap[V]? = some (.cells #[.int .u32 (t : Int), .int .u32 (p : Int), .bool L, .slice a n c] 27 (0, 0))) := Lib.hid ((hb5.block V (lt_of_block HV4.out)).trans HV4.out)
        have HVC5 : Hid (w5.heap[V3]? = some (.cells #[.int .u32 (t : Int), .int .u32 (p : Int), .bool L, .slice au n cu] 27 (0, 0))) := Lib.hid ((hb5.block V3 (lt_of_block HVC4.out)).trans HVC4.out)
        have HL5 : Hid (Lies w5 (.slice a2 64 c2) BL) := Lib.hid (lies_keep HL4.out hb5)
        have HLU5 : Hid (Lies w5 (.slice au n cu) D) := Lib.hid (lies_keep HLU4.out hb5)
        clear hb5
        go_wp2_with fail
        refine hK.out _ _ ⟨HV5.out, HVC5.out, HL5.out, HLU5.out, HB5.out⟩ (fun _ => ?_)
        clear hK K
        (try simp only [Act.put, List.setIfInBounds_toArray, List.set_cons_zero, List.set_cons_succ])
        refine anyH_take (i := 7) (some 57) (v := _) rfl rfl (by kernel_rfl) (by kernel_rfl) (by kernel_rfl) (fun _ _ _ h => h) (by rfl) (⟨HV5.out, HVC5.out, HL5.out, HLU5.out, HB5.out⟩) (fun W _ => run_text_eq W (.tmp 54) (.tmp 56) rfl BS rfl rfl) ?_
        (try simp only [Act.put, List.setIfInBounds_toArray, List.set_cons_zero, List.set_cons_succ])
        refine anyH_take (i := 8) (some 58) (v := _) rfl rfl (by kernel_rfl) (by kernel_rfl) (by kernel_rfl) (fun _ _ _ h => h) (by rfl) (⟨HV5.out, HVC5.out, HL5.out, HLU5.out, HB5.out⟩) (by intro w hSw; go_simp; try with_reducible rfl) ?_
        (try simp only [Act.put, List.setIfInBounds_toArray, List.set_cons_zero, List.set_cons_succ])
        refine anyH_take (i := 9) (some 59) (v := _) rfl rfl (by kernel_rfl) (by kernel_rfl) (by kernel_rfl) (fun _ _ _ h => h) (by rfl) (⟨HV5.out, HVC5.out, HL5.out, HLU5.out, HB5.out⟩) (by intro w hSw; go_simp; try with_reducible rfl) ?_
        (try simp only [Act.put, List.setIfInBounds_toArray, List.set_cons_zero, List.set_cons_succ])
        refine anyH_take (i := 10) (some 60) (v := _) rfl rfl (by kernel_rfl) (by kernel_rfl) (by kernel_rfl) (fun _ _ _ h => h) (by rfl) (⟨HV5.out, HVC5.out, HL5.out, HLU5.out, HB5.out⟩) (by intro w hSw; go_simp; try with_reducible rfl) ?_
        (try simp only [Act.put, List.setIfInBounds_toArray, List.set_cons_zero, List.set_cons_succ])
        refine anyH_take (i := 11) (some 61) (v := _) rfl rfl (by kernel_rfl) (by kernel_rfl) (by kernel_rfl) (fun _ _ _ h => h) (by rfl) (⟨HV5.out, HVC5.out, HL5.out, HLU5.out, HB5.out⟩) (by intro w hSw; go_simp; try with_reducible rfl) ?_
        (try simp only [Act.put, List.setIfInBounds_toArray, List.set_cons_zero, List.set_cons_succ])
        refine anyH_take (i := 12) (some 62) (v := _) rfl rfl (by kernel_rfl) (by kernel_rfl) (by kernel_rfl) (fun _ _ _ h => h) (by rfl) (⟨HV5.out, HVC5.out, HL5.out, HLU5.out, HB5.out⟩) (by intro w hSw; go_simp; try with_reducible rfl) ?_
        (try simp only [Act.put, List.setIfInBounds_toArray, List.set_cons_zero, List.set_cons_succ])
        refine anyH_take (i := 13) (some 63) (v := _) rfl rfl (by kernel_rfl) (by kernel_rfl) (by kernel_rfl) (fun _ _ _ h => h) (by rfl) (⟨HV5.out, HVC5.out, HL5.out, HLU5.out, HB5.out⟩) (by intro w hSw; go_simp; try with_reducible rfl) ?_
        (try simp only [Act.put, List.setIfInBounds_toArray, List.set_cons_zero, List.set_cons_succ])
        refine anyH_take (i := 14) (some 64) (v := _) rfl rfl (by kernel_rfl) (by kernel_rfl) (by kernel_rfl) (fun _ _ _ h => h) (by rfl) (⟨HV5.out, HVC5.out, HL5.out, HLU5.out, HB5.out⟩) (by intro w hSw; obtain ⟨⟨q0, q1, q2, q3⟩, _⟩ := cells4 hSw.2.1; go_simp; try with_reducible rfl) ?_
        (try simp only [Act.put, List.setIfInBounds_toArray, List.set_cons_zero, List.set_cons_succ])
        refine anyH_take (i := 15) (some 65) (v := _) rfl rfl (by kernel_rfl) (by kernel_rfl) (by kernel_rfl) (fun _ _ _ h => h) (by rfl) (⟨HV5.out, HVC5.out, HL5.out, HLU5.out, HB5.out⟩) (by intro w hSw; obtain ⟨⟨q0, q1, q2, q3⟩, _⟩ := cells4 hSw.1; go_simp; try with_reducible rfl) ?_
        (try simp only [Act.put, List.setIfInBounds_toArray, List.set_cons_zero, List.set_cons_succ])
        refine wpAnyH_ready (rs := [16]) (by kernel_rfl) (by simp) (AllReadyH.cons rfl (fun K hK => ?_) AllReadyH.nil)
        go_simp
        refine (same_yes (s := ⟨t, p, L, D⟩) HLU5.out (u' := .slice a n c) (lies_keep HU.out HB5.out)).mono ?_
        rintro e w6 ⟨rfl, hb6⟩
        have HB6 : Hid (Below w.heap.size w w6) := Lib.hid (HB5.out.trans (hb6.mono HB5.out.size))
        have HV6 : Hid (w6.heap[V]? = some (.cells #[.int .u32 (t : Int), .int .u32 (p : Int), .bool L, .slice a n c] 27 (0, 0))) := Lib.hid ((hb6.block V (lt_of_block HV5.out)).trans HV5.out)
        have HVC6 : Hid (w6.heap[V3]? = some (.cells #[.int .u32 (t : Int), .int .u32 (p : Int), .bool L, .slice au n cu] 27 (0, 0))) := Lib.hid ((hb6.block V3 (lt_of_block HVC5.out)).trans HVC5.out)
        have HL6 : Hid (Lies w6 (.slice a2 64 c2) BL) := Lib.hid (lies_keep HL5.out hb6)
        have HLU6 : Hid (Lies w6 (.slice au n cu) D) := Lib.hid (lies_keep HLU5.out hb6)
        clear hb6
        go_wp2_with fail
        refine hK.out _ _ ⟨HV6.out, HVC6.out, HL6.out, HLU6.out, HB6.out⟩ (fun _ => ?_)
        clear hK K
        (try simp only [Act.put, List.setIfInBounds_toArray, List.set_cons_zero, List.set_cons_succ])
        refine anyH_take (i := 17) (some 67) (v := _) rfl rfl (by kernel_rfl) (by kernel_rfl) (by kernel_rfl) (fun _ _ _ h => h) (by rfl) (⟨HV6.out, HVC6.out, HL6.out, HLU6.out, HB6.out⟩) (by intro w hSw; go_simp; try with_reducible rfl) ?_
        (try simp only [Act.put, List.setIfInBounds_toArray, List.set_cons_zero, List.set_cons_succ])
        refine anyH_take (i := 18) (some 68) (v := _) rfl rfl (by kernel_rfl) (by kernel_rfl) (by kernel_rfl) (fun _ _ _ h => h) (by rfl) (⟨HV6.out, HVC6.out, HL6.out, HLU6.out, HB6.out⟩) (by intro w hSw; go_simp; try with_reducible rfl) ?_
        (try simp only [Act.put, List.setIfInBounds_toArray, List.set_cons_zero, List.set_cons_succ])
        refine anyH_take (i := 19) (some 69) (v := _) rfl rfl (by kernel_rfl) (by kernel_rfl) (by kernel_rfl) (fun _ _ _ h => h) (by rfl) (⟨HV6.out, HVC6.out, HL6.out, HLU6.out, HB6.out⟩) (by intro w hSw; go_simp; try with_reducible rfl) ?_
        (try simp only [Act.put, List.setIfInBounds_toArray, List.set_cons_zero, List.set_cons_succ])
        refine anyH_take (i := 21) (some 71) (v := _) rfl rfl (by kernel_rfl) (by kernel_rfl) (by kernel_rfl) (fun _ _ _ h => h) (by rfl) (⟨HV6.out, HVC6.out, HL6.out, HLU6.out, HB6.out⟩) (by intro w hSw; go_simp; try with_reducible rfl) ?_
        (try simp only [Act.put, List.setIfInBounds_toArray, List.set_cons_zero, List.set_cons_succ])
        refine anyH_take (i := 22) (some 72) (v := _) rfl rfl (by kernel_rfl) (by kernel_rfl) (by kernel_rfl) (fun _ _ _ h => h) (by rfl) (⟨HV6.out, HVC6.out, HL6.out, HLU6.out, HB6.out⟩) (by intro w hSw; go_simp; try with_reducible rfl) ?_
        (try simp only [Act.put, List.setIfInBounds_toArray, List.set_cons_zero, List.set_cons_succ])
        refine anyH_take (i := 23) (some 73) (v := _) rfl rfl (by kernel_rfl) (by kernel_rfl) (by kernel_rfl) (fun _ _ _ h => h) (by rfl) (⟨HV6.out, HVC6.out, HL6.out, HLU6.out, HB6.out⟩) (by intro w hSw; obtain ⟨⟨q0, q1, q2, q3⟩, _⟩ := cells4 hSw.1; go_simp; try with_reducible rfl) ?_
        (try simp only [Act.put, List.setIfInBounds_toArray, List.set_cons_zero, List.set_cons_succ])
        refine wpAnyH_ready (rs := [20]) (by kernel_rfl) (by simp) (AllReadyH.cons rfl (fun K hK => ?_) AllReadyH.nil)
        go_simp
        refine (turn_any HL6.out (by rw [HBL.out]; exact secB_small HOK.out)).mono ?_
        rw [HBL.out, unpackS_secB HOK.out]
        rintro e w7 ⟨rfl, hb7⟩
        simp only
        have HB7 : Hid (Below w.heap.size w w7) := Lib.hid (HB6.out.trans (hb7.mono HB6.out.size))
        have HV7 : Hid (w7.heap[V]? = some (.cells #[.int .u32 (t : Int), .int .u32 (p : Int), .bool L, .slice a n c] 27 (0, 0))) := Lib.hid ((hb7.block V (lt_of_block HV6.out)).trans HV6.out)
        have HVC7 : Hid (w7.heap[V3]? = some (.cells #[.int .u32 (t : Int), .int .u32 (p : Int), .bool L, .slice au n cu] 27 (0, 0))) := Lib.hid ((hb7.block V3 (lt_of_block HVC6.out)).trans HVC6.out)
        have HL7 : Hid (Lies w7 (.slice a2 64 c2) BL) := Lib.hid (lies_keep HL6.out hb7)
        have HLU7 : Hid (Lies w7 (.slice au n cu) D) := Lib.hid (lies_keep HLU6.out hb7)
        clear hb7
        go_wp2_with fail
        refine hK.out _ _ ⟨HV7.out, HVC7.out, HL7.out, HLU7.out, HB7.out⟩ (fun _ => ?_)
        clear hK K
        (try simp only [Act.put, List.setIfInBounds_toArray, List.set_cons_zero, List.set_cons_succ])
        refine anyH_take (i := 24) (some 74) (v := _) rfl rfl (by kernel_rfl) (by kernel_rfl) (by kernel_rfl) (fun _ _ _ h => h) (by rfl) (⟨HV7.out, HVC7.out, HL7.out, HLU7.out, HB7.out⟩) (by intro w hSw; go_simp; try with_reducible rfl) ?_
        (try simp only [Act.put, List.setIfInBounds_toArray, List.set_cons_zero, List.set_cons_succ])
        refine anyH_take (i := 25) (some 75) (v := _) rfl rfl (by kernel_rfl) (by kernel_rfl) (by kernel_rfl) (fun _ _ _ h => h) (by rfl) (⟨HV7.out, HVC7.out, HL7.out, HLU7.out, HB7.out⟩) (by intro w hSw; go_simp; try with_reducible rfl) ?_
        (try simp only [Act.put, List.setIfInBounds_toArray, List.set_cons_zero, List.set_cons_succ])
        refine anyH_take (i := 26) (some 2) (v := _) rfl rfl (by kernel_rfl) (by kernel_rfl) (by kernel_rfl) (fun _ _ _ h => h) (by rfl) (⟨HV7.out, HVC7.out, HL7.out, HLU7.out, HB7.out⟩) (by intro w hSw; go_simp; try with_reducible rfl) ?_
        (try simp only [Act.put, List.setIfInBounds_toArray, List.set_cons_zero, List.set_cons_succ])
        refine wpAnyH_done (by kernel_rfl) ?_ _
        go_wp2
        go_ret
        exact ⟨rfl, HB7.out⟩
end Go.Proofs.YtmclhnbilghnjaaDoor
