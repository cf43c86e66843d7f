/- The law's own four, bytes, same: walked. -/
import Derived.Test.YtmclhnbilghnjaaStUnp
namespace Go.Proofs.Ytmclhnbilghnjaa
open Go.RowKit

theorem numB_four (x : Nat) (hx : x < 4294967296) : numB x 4 = [x / 16777216, x / 65536 % 256, x / 256 % 256, x % 256] := by
  show [x / 256 ^ 3 % 256, x / 256 ^ 2 % 256, x / 256 ^ 1 % 256, x / 256 ^ 0 % 256] = _
  simp only [show (256 : Nat) ^ 3 = 16777216 from rfl, show (256 : Nat) ^ 2 = 65536 from rfl, Nat.pow_one, Nat.pow_zero, Nat.div_one]
  rw [Nat.mod_eq_of_lt (by omega : x / 16777216 < 256)]
theorem row_text (w : World) (l : List Nat) : ∀ dst, Try.prog.underlying dst = some .string → (convert 25 dst (.slice (some ⟨w.heap.size, 0, none⟩) l.length l.length)).run Try.prog (w.alloc (.cells (u8s l).toArray 5)) = .ok (.string (strOf l)) (w.alloc (.cells (u8s l).toArray 5)) :=
  text_of (const_lies w l (0, 0))
set_option maxHeartbeats 1000000 in
theorem four_any {x : Nat} (hx : x < 4294967296) (w : World) : Calls Try.prog 11 #[.int .u32 (x : Int)] w fun e w' => e = .returned (.string (strOf (numB x 4))) ∧ Below w.heap.size w w' := by
  rw [numB_four x hx]
  obtain ⟨y0, hy0⟩ : ∃ y, y = x / 16777216 := ⟨_, rfl⟩
  obtain ⟨y1, hy1⟩ : ∃ y, y = x / 65536 % 256 := ⟨_, rfl⟩
  obtain ⟨y2, hy2⟩ : ∃ y, y = x / 256 % 256 := ⟨_, rfl⟩
  obtain ⟨y3, hy3⟩ : ∃ y, y = x % 256 := ⟨_, rfl⟩
  have e0 : (x : Int) / 16777216 = y0 := by omega
  have e1 : (x : Int) / 65536 % 256 = y1 := by omega
  have e2 : (x : Int) / 256 % 256 = y2 := by omega
  have e3 : (x : Int) % 256 = y3 := by omega
  rw [← hy0, ← hy1, ← hy2, ← hy3]
  have hcv : (convert 25 9 (.slice (some ⟨w.heap.size, 0, none⟩) 4 4)).run Try.prog (w.alloc (.cells #[.int .u8 y0, .int .u8 y1, .int .u8 y2, .int .u8 y3] 5)) = .ok (.string (strOf [y0, y1, y2, y3])) (w.alloc (.cells #[.int .u8 y0, .int .u8 y1, .int .u8 y2, .int .u8 y3] 5)) := row_text w [y0, y1, y2, y3] _ Try.underlying9
  clear hy0 hy1 hy2 hy3
  go_enter Try.func11, Try.ntmps11
  go_wp2
  go_ret
  exact ⟨rfl, (Below.refl _ w).alloc (Nat.le_refl _) _⟩
def sizeV : Value → Nat
  | .string s => s.size
  | _ => 0
theorem ret_secB {a b : ByteArray} (h : a = b) : Ending.returned (.string a) = .returned (.string b) := by rw [h]
set_option maxHeartbeats 4000000 in
theorem bytes_any {w : World} {s : Sec} {u : Value} (hs : s.Ok) (hu : Lies w u s.data) : Calls Try.prog 6 #[secV s u] w fun e w' => e = .returned (.string (strOf (secB s))) ∧ Below w.heap.size w w' := by
  obtain ⟨a, c, rfl⟩ := lies_len hu
  obtain ⟨t, p, L, D⟩ := s
  obtain ⟨n, hn⟩ : ∃ n, n = D.length := ⟨_, rfl⟩
  have hn47 : n ≤ 47 := by rw [hn]; exact hs.2.1
  have ht : t < 4294967296 := hs.2.2.1
  have hp : p < 4294967296 := hs.2.2.2.1
  have HU := Lib.hid hu
  have HN := Lib.hid hn
  unfold secV
  simp only
  rw [← hn]
  clear hu hn hs
  have e1 : IntKind.u8.wrap (n : Int) = n := by rw [IntKind.wrap_u8]; omega
  go_enter Try.func6, Try.ntmps6
  cases L
  · have hcv : (convert 25 9 (.slice a n c)).run Try.prog (w.alloc (.cells #[.int .u32 (t : Int), .int .u32 (p : Int), .bool false, .slice a n c] 27)) = .ok (.string (strOf D)) (w.alloc (.cells #[.int .u32 (t : Int), .int .u32 (p : Int), .bool false, .slice a n c] 27)) := text_of (by have h := lies_keep HU.out ((Below.refl _ w).alloc (Nat.le_refl _) (.cells #[.int .u32 (t : Int), .int .u32 (p : Int), .bool false, .slice a n c] 27)); rw [← HN.out] at h; exact h) _ Try.underlying9
    go_wp2_with fail
    clear hcv
    obtain ⟨V, hV⟩ : ∃ V, V = w.heap.size := ⟨_, rfl⟩
    rw [← hV]
    have HVe := Lib.hid hV
    clear hV
    refine wp_name fun W0 hW0 => ?_
    have HV0 : Hid (W0.heap[V]? = some (.cells #[.int .u32 (t : Int), .int .u32 (p : Int), .bool false, .slice a n c] 27 (0, 0))) := Lib.hid (by rw [hW0, HVe.out]; exact heap_alloc_new _ _)
    have HB0 : Hid (Below w.heap.size w W0) := Lib.hid (by rw [hW0]; exact (Below.refl _ w).alloc (Nat.le_refl _) _)
    clear hW0
    go_loop [4] (fun v => ∃ k : Nat, k ≤ 47 - n ∧ v = .string (strOf (D ++ List.replicate k 0))) (fun v => 47 - sizeV v)
    case atStart => exact ⟨0, by omega, by simp⟩
    case round =>
      obtain ⟨k, hk, rfl⟩ := hrel
      obtain ⟨T, hT⟩ : ∃ T, T = strOf (D ++ List.replicate k 0) := ⟨_, rfl⟩
      have hsz : T.size = n + k := by rw [hT, strOf_size, List.length_append, List.length_replicate, HN.out]
      rw [← hT]
      have HT := Lib.hid hT
      clear hT
      by_cases hlt : k < 47 - n
      · have t1 : decide ((T.size : Int) < 47) = true := by simp; omega
        go_wp2
        go_round
        case rel => exact ⟨k + 1, by omega, by rw [HT.out, List.replicate_succ', ← List.append_assoc, strOf_append (D ++ List.replicate k 0)]; rfl⟩
        case measure => show 47 - (T ++ ⟨#[0]⟩ : ByteArray).size < 47 - T.size; rw [ByteArray.size_append, show (⟨#[0]⟩ : ByteArray).size = 1 from rfl]; omega
      · have hk2 : k = 47 - n := by omega
        have t1 : decide ((T.size : Int) < 47) = false := by simp; omega
        clear hlt
        go_wp2_with fail
        obtain ⟨d0, d1, d2, d3⟩ := (cells4 HV0.out).1
        have HFT := Lib.hid (four_any ht)
        have HFP := Lib.hid (four_any hp)
        refine wp_region_held_drew (S := fun W => W.heap[V]? = some (.cells #[.int .u32 (t : Int), .int .u32 (p : Int), .bool false, .slice a n c] 27 (0, 0)) ∧ Below w.heap.size w W) (by kernel_rfl) ⟨HV0.out, below_drew HB0.out⟩ (fun _ => ?_)
        refine anyH_take (i := 0) (some 22) (v := _) rfl rfl (by kernel_rfl) (by kernel_rfl) (by kernel_rfl) (fun _ _ _ h => h) (by rfl) (⟨HV0.out, below_drew HB0.out⟩) (by intro w hSw; obtain ⟨⟨q0, q1, _⟩, _⟩ := cells4 hSw.1; go_simp; try with_reducible rfl) ?_
        (try simp only [Act.put, List.setIfInBounds_toArray, List.set_cons_zero, List.set_cons_succ])
        refine anyH_take (i := 1) (some 23) (v := _) rfl rfl (by kernel_rfl) (by kernel_rfl) (by kernel_rfl) (fun _ _ _ h => h) (by rfl) (⟨HV0.out, below_drew HB0.out⟩) (by intro w hSw; obtain ⟨⟨q0, q1, _⟩, _⟩ := cells4 hSw.1; go_simp; try with_reducible rfl) ?_
        (try simp only [Act.put, List.setIfInBounds_toArray, List.set_cons_zero, List.set_cons_succ])
        refine anyH_take (i := 2) (some 24) (v := _) rfl rfl (by kernel_rfl) (by kernel_rfl) (by kernel_rfl) (fun _ _ _ h => h) (by rfl) (⟨HV0.out, below_drew HB0.out⟩) (by intro w hSw; obtain ⟨⟨q0, q1, _⟩, _⟩ := cells4 hSw.1; go_simp; try with_reducible rfl) ?_
        (try simp only [Act.put, List.setIfInBounds_toArray, List.set_cons_zero, List.set_cons_succ])
        refine anyH_take (i := 4) (some 26) (v := _) rfl rfl (by kernel_rfl) (by kernel_rfl) (by kernel_rfl) (fun _ _ _ h => h) (by rfl) (⟨HV0.out, below_drew HB0.out⟩) (by intro w hSw; obtain ⟨⟨q0, q1, _⟩, _⟩ := cells4 hSw.1; go_simp; try with_reducible rfl) ?_
        (try simp only [Act.put, List.setIfInBounds_toArray, List.set_cons_zero, List.set_cons_succ])
        refine anyH_take (i := 5) (some 27) (v := _) rfl rfl (by kernel_rfl) (by kernel_rfl) (by kernel_rfl) (fun _ _ _ h => h) (by rfl) (⟨HV0.out, below_drew HB0.out⟩) (by intro w hSw; obtain ⟨⟨q0, q1, _⟩, _⟩ := cells4 hSw.1; go_simp; try with_reducible rfl) ?_
        (try simp only [Act.put, List.setIfInBounds_toArray, List.set_cons_zero, List.set_cons_succ])
        refine anyH_take (i := 6) (some 28) (v := _) rfl rfl (by kernel_rfl) (by kernel_rfl) (by kernel_rfl) (fun _ _ _ h => h) (by rfl) (⟨HV0.out, below_drew HB0.out⟩) (by intro w hSw; obtain ⟨⟨q0, q1, _⟩, _⟩ := cells4 hSw.1; go_simp; try with_reducible rfl) ?_
        (try simp only [Act.put, List.setIfInBounds_toArray, List.set_cons_zero, List.set_cons_succ])
        refine wpAnyH_ready (rs := [3]) (by kernel_rfl) (by simp) (AllReadyH.cons rfl (fun K hK => ?_) AllReadyH.nil)
        go_simp
        refine (HFT.out _).mono ?_
        rintro e w1 ⟨rfl, hb1⟩
        have HB1 : Hid (Below w.heap.size w w1) := Lib.hid (((below_drew HB0.out)).trans (hb1.mono ((below_drew HB0.out)).size))
        have HV1 : Hid (w1.heap[V]? = some (.cells #[.int .u32 (t : Int), .int .u32 (p : Int), .bool false, .slice a n c] 27 (0, 0))) := Lib.hid ((hb1.block V (lt_of_block (HV0.out))).trans (HV0.out))
        clear hb1
        go_wp2_with fail
        refine hK.out _ _ (⟨HV1.out, HB1.out⟩) (fun _ => ?_)
        clear hK K
        (try simp only [Act.put, List.setIfInBounds_toArray, List.set_cons_zero, List.set_cons_succ])
        refine wpAnyH_ready (rs := [7]) (by kernel_rfl) (by simp) (AllReadyH.cons rfl (fun K hK => ?_) AllReadyH.nil)
        go_simp
        refine (HFP.out _).mono ?_
        rintro e w2 ⟨rfl, hb2⟩
        have HB2 : Hid (Below w.heap.size w w2) := Lib.hid ((HB1.out).trans (hb2.mono (HB1.out).size))
        have HV2 : Hid (w2.heap[V]? = some (.cells #[.int .u32 (t : Int), .int .u32 (p : Int), .bool false, .slice a n c] 27 (0, 0))) := Lib.hid ((hb2.block V (lt_of_block (HV1.out))).trans (HV1.out))
        clear hb2
        go_wp2_with fail
        refine hK.out _ _ (⟨HV2.out, HB2.out⟩) (fun _ => ?_)
        clear hK K
        (try simp only [Act.put, List.setIfInBounds_toArray, List.set_cons_zero, List.set_cons_succ])
        refine anyH_mono (S' := fun W => W = w2) (fun W hW => hW ▸ ⟨HV2.out, HB2.out⟩) ?_
        refine anyH_take (i := 8) (some 30) (v := _) rfl rfl (by kernel_rfl) (by kernel_rfl) (by kernel_rfl) (fun _ _ _ h => h) (by rfl) (rfl) (fun W _ => run_cat_op W (.tmp 25) (.tmp 29) rfl _ _ (strOf (stampB t p)) rfl rfl (by rw [← strOf_append]; rfl) (by rw [strOf_size, stampB_length]; omega)) ?_
        (try simp only [Act.put, List.setIfInBounds_toArray, List.set_cons_zero, List.set_cons_succ])
        refine anyH_take (i := 9) (some 5) (v := _) rfl rfl (by kernel_rfl) (by kernel_rfl) (by kernel_rfl) (fun _ _ _ h => h) (by rfl) (rfl) (by intro w hSw; go_simp; try with_reducible rfl) ?_
        (try simp only [Act.put, List.setIfInBounds_toArray, List.set_cons_zero, List.set_cons_succ])
        refine wpAnyH_done (by kernel_rfl) ?_ _
        obtain ⟨X, hX⟩ : ∃ X, X = strOf (stampB t p) := ⟨_, rfl⟩
        obtain ⟨Y, hY⟩ : ∃ Y, Y = strOf [n] := ⟨_, rfl⟩
        have hxs : X.size = 8 := by rw [hX, strOf_size, stampB_length]
        have hys : Y.size = 1 := by rw [hY, strOf_size]; rfl
        have hts : T.size = 47 := by omega
        rw [← hX]
        have hcv2 : (convert 25 9 (.slice (some ⟨w2.heap.size, 0, none⟩) 1 1)).run Try.prog (w2.alloc (.cells #[.int .u8 (n : Int)] 5)) = .ok (.string Y) (w2.alloc (.cells #[.int .u8 (n : Int)] 5)) := by rw [hY]; exact one_text w2 n (by simp) _ Try.underlying9
        have HX := Lib.hid hX
        have HY := Lib.hid hY
        clear hX hY hsz
        go_wp2
        go_ret
        exact ⟨ret_secB (by rw [HX.out, HY.out, HT.out, ← strOf_append, ← strOf_append, ← strOf_append]; congr 1; unfold secB Sec.body Sec.mark; simp [hk2, HN.out]), HB2.out.trans (((Below.refl _ w2).alloc (Nat.le_refl _) _).mono HB2.out.size)⟩
  · have e2 : IntKind.u8.wrap ((n : Int) + 128) = (n : Int) + 128 := by rw [IntKind.wrap_u8]; omega
    have hcv : (convert 25 9 (.slice a n c)).run Try.prog (w.alloc (.cells #[.int .u32 (t : Int), .int .u32 (p : Int), .bool true, .slice a n c] 27)) = .ok (.string (strOf D)) (w.alloc (.cells #[.int .u32 (t : Int), .int .u32 (p : Int), .bool true, .slice a n c] 27)) := text_of (by have h := lies_keep HU.out ((Below.refl _ w).alloc (Nat.le_refl _) (.cells #[.int .u32 (t : Int), .int .u32 (p : Int), .bool true, .slice a n c] 27)); rw [← HN.out] at h; exact h) _ Try.underlying9
    go_wp2_with fail
    clear hcv
    obtain ⟨V, hV⟩ : ∃ V, V = w.heap.size := ⟨_, rfl⟩
    rw [← hV]
    have HVe := Lib.hid hV
    clear hV
    refine wp_name fun W0 hW0 => ?_
    have HV0 : Hid (W0.heap[V]? = some (.cells #[.int .u32 (t : Int), .int .u32 (p : Int), .bool true, .slice a n c] 27 (0, 0))) := Lib.hid (by rw [hW0, HVe.out]; exact heap_alloc_new _ _)
    have HB0 : Hid (Below w.heap.size w W0) := Lib.hid (by rw [hW0]; exact (Below.refl _ w).alloc (Nat.le_refl _) _)
    clear hW0
    go_loop [4] (fun v => ∃ k : Nat, k ≤ 47 - n ∧ v = .string (strOf (D ++ List.replicate k 0))) (fun v => 47 - sizeV v)
    case atStart => exact ⟨0, by omega, by simp⟩
    case round =>
      obtain ⟨k, hk, rfl⟩ := hrel
      obtain ⟨T, hT⟩ : ∃ T, T = strOf (D ++ List.replicate k 0) := ⟨_, rfl⟩
      have hsz : T.size = n + k := by rw [hT, strOf_size, List.length_append, List.length_replicate, HN.out]
      rw [← hT]
      have HT := Lib.hid hT
      clear hT
      by_cases hlt : k < 47 - n
      · have t1 : decide ((T.size : Int) < 47) = true := by simp; omega
        go_wp2
        go_round
        case rel => exact ⟨k + 1, by omega, by rw [HT.out, List.replicate_succ', ← List.append_assoc, strOf_append (D ++ List.replicate k 0)]; rfl⟩
        case measure => show 47 - (T ++ ⟨#[0]⟩ : ByteArray).size < 47 - T.size; rw [ByteArray.size_append, show (⟨#[0]⟩ : ByteArray).size = 1 from rfl]; omega
      · have hk2 : k = 47 - n := by omega
        have t1 : decide ((T.size : Int) < 47) = false := by simp; omega
        clear hlt
        go_wp2_with fail
        obtain ⟨d0, d1, d2, d3⟩ := (cells4 HV0.out).1
        have HFT := Lib.hid (four_any ht)
        have HFP := Lib.hid (four_any hp)
        refine wp_region_held_drew (S := fun W => W.heap[V]? = some (.cells #[.int .u32 (t : Int), .int .u32 (p : Int), .bool true, .slice a n c] 27 (0, 0)) ∧ Below w.heap.size w W) (by kernel_rfl) ⟨HV0.out, below_drew HB0.out⟩ (fun _ => ?_)
        refine anyH_take (i := 0) (some 22) (v := _) rfl rfl (by kernel_rfl) (by kernel_rfl) (by kernel_rfl) (fun _ _ _ h => h) (by rfl) (⟨HV0.out, below_drew HB0.out⟩) (by intro w hSw; obtain ⟨⟨q0, q1, _⟩, _⟩ := cells4 hSw.1; go_simp; try with_reducible rfl) ?_
        (try simp only [Act.put, List.setIfInBounds_toArray, List.set_cons_zero, List.set_cons_succ])
        refine anyH_take (i := 1) (some 23) (v := _) rfl rfl (by kernel_rfl) (by kernel_rfl) (by kernel_rfl) (fun _ _ _ h => h) (by rfl) (⟨HV0.out, below_drew HB0.out⟩) (by intro w hSw; obtain ⟨⟨q0, q1, _⟩, _⟩ := cells4 hSw.1; go_simp; try with_reducible rfl) ?_
        (try simp only [Act.put, List.setIfInBounds_toArray, List.set_cons_zero, List.set_cons_succ])
        refine anyH_take (i := 2) (some 24) (v := _) rfl rfl (by kernel_rfl) (by kernel_rfl) (by kernel_rfl) (fun _ _ _ h => h) (by rfl) (⟨HV0.out, below_drew HB0.out⟩) (by intro w hSw; obtain ⟨⟨q0, q1, _⟩, _⟩ := cells4 hSw.1; go_simp; try with_reducible rfl) ?_
        (try simp only [Act.put, List.setIfInBounds_toArray, List.set_cons_zero, List.set_cons_succ])
        refine anyH_take (i := 4) (some 26) (v := _) rfl rfl (by kernel_rfl) (by kernel_rfl) (by kernel_rfl) (fun _ _ _ h => h) (by rfl) (⟨HV0.out, below_drew HB0.out⟩) (by intro w hSw; obtain ⟨⟨q0, q1, _⟩, _⟩ := cells4 hSw.1; go_simp; try with_reducible rfl) ?_
        (try simp only [Act.put, List.setIfInBounds_toArray, List.set_cons_zero, List.set_cons_succ])
        refine anyH_take (i := 5) (some 27) (v := _) rfl rfl (by kernel_rfl) (by kernel_rfl) (by kernel_rfl) (fun _ _ _ h => h) (by rfl) (⟨HV0.out, below_drew HB0.out⟩) (by intro w hSw; obtain ⟨⟨q0, q1, _⟩, _⟩ := cells4 hSw.1; go_simp; try with_reducible rfl) ?_
        (try simp only [Act.put, List.setIfInBounds_toArray, List.set_cons_zero, List.set_cons_succ])
        refine anyH_take (i := 6) (some 28) (v := _) rfl rfl (by kernel_rfl) (by kernel_rfl) (by kernel_rfl) (fun _ _ _ h => h) (by rfl) (⟨HV0.out, below_drew HB0.out⟩) (by intro w hSw; obtain ⟨⟨q0, q1, _⟩, _⟩ := cells4 hSw.1; go_simp; try with_reducible rfl) ?_
        (try simp only [Act.put, List.setIfInBounds_toArray, List.set_cons_zero, List.set_cons_succ])
        refine wpAnyH_ready (rs := [3]) (by kernel_rfl) (by simp) (AllReadyH.cons rfl (fun K hK => ?_) AllReadyH.nil)
        go_simp
        refine (HFT.out _).mono ?_
        rintro e w1 ⟨rfl, hb1⟩
        have HB1 : Hid (Below w.heap.size w w1) := Lib.hid (((below_drew HB0.out)).trans (hb1.mono ((below_drew HB0.out)).size))
        have HV1 : Hid (w1.heap[V]? = some (.cells #[.int .u32 (t : Int), .int .u32 (p : Int), .bool true, .slice a n c] 27 (0, 0))) := Lib.hid ((hb1.block V (lt_of_block (HV0.out))).trans (HV0.out))
        clear hb1
        go_wp2_with fail
        refine hK.out _ _ (⟨HV1.out, HB1.out⟩) (fun _ => ?_)
        clear hK K
        (try simp only [Act.put, List.setIfInBounds_toArray, List.set_cons_zero, List.set_cons_succ])
        refine wpAnyH_ready (rs := [7]) (by kernel_rfl) (by simp) (AllReadyH.cons rfl (fun K hK => ?_) AllReadyH.nil)
        go_simp
        refine (HFP.out _).mono ?_
        rintro e w2 ⟨rfl, hb2⟩
        have HB2 : Hid (Below w.heap.size w w2) := Lib.hid ((HB1.out).trans (hb2.mono (HB1.out).size))
        have HV2 : Hid (w2.heap[V]? = some (.cells #[.int .u32 (t : Int), .int .u32 (p : Int), .bool true, .slice a n c] 27 (0, 0))) := Lib.hid ((hb2.block V (lt_of_block (HV1.out))).trans (HV1.out))
        clear hb2
        go_wp2_with fail
        refine hK.out _ _ (⟨HV2.out, HB2.out⟩) (fun _ => ?_)
        clear hK K
        (try simp only [Act.put, List.setIfInBounds_toArray, List.set_cons_zero, List.set_cons_succ])
        refine anyH_mono (S' := fun W => W = w2) (fun W hW => hW ▸ ⟨HV2.out, HB2.out⟩) ?_
        refine anyH_take (i := 8) (some 30) (v := _) rfl rfl (by kernel_rfl) (by kernel_rfl) (by kernel_rfl) (fun _ _ _ h => h) (by rfl) (rfl) (fun W _ => run_cat_op W (.tmp 25) (.tmp 29) rfl _ _ (strOf (stampB t p)) rfl rfl (by rw [← strOf_append]; rfl) (by rw [strOf_size, stampB_length]; omega)) ?_
        (try simp only [Act.put, List.setIfInBounds_toArray, List.set_cons_zero, List.set_cons_succ])
        refine anyH_take (i := 9) (some 5) (v := _) rfl rfl (by kernel_rfl) (by kernel_rfl) (by kernel_rfl) (fun _ _ _ h => h) (by rfl) (rfl) (by intro w hSw; go_simp; try with_reducible rfl) ?_
        (try simp only [Act.put, List.setIfInBounds_toArray, List.set_cons_zero, List.set_cons_succ])
        refine wpAnyH_done (by kernel_rfl) ?_ _
        obtain ⟨X, hX⟩ : ∃ X, X = strOf (stampB t p) := ⟨_, rfl⟩
        obtain ⟨Y, hY⟩ : ∃ Y, Y = strOf [(n + 128)] := ⟨_, rfl⟩
        have hxs : X.size = 8 := by rw [hX, strOf_size, stampB_length]
        have hys : Y.size = 1 := by rw [hY, strOf_size]; rfl
        have hts : T.size = 47 := by omega
        rw [← hX]
        have hcv2 : (convert 25 9 (.slice (some ⟨w2.heap.size, 0, none⟩) 1 1)).run Try.prog (w2.alloc (.cells #[.int .u8 ((n : Int) + 128)] 5)) = .ok (.string Y) (w2.alloc (.cells #[.int .u8 ((n : Int) + 128)] 5)) := by rw [hY]; exact one_text w2 (n + 128) (by simp) _ Try.underlying9
        have HX := Lib.hid hX
        have HY := Lib.hid hY
        clear hX hY hsz
        go_wp2
        go_ret
        exact ⟨ret_secB (by rw [HX.out, HY.out, HT.out, ← strOf_append, ← strOf_append, ← strOf_append]; congr 1; unfold secB Sec.body Sec.mark; simp [hk2, HN.out]), HB2.out.trans (((Below.refl _ w2).alloc (Nat.le_refl _) _).mono HB2.out.size)⟩
end Go.Proofs.Ytmclhnbilghnjaa
