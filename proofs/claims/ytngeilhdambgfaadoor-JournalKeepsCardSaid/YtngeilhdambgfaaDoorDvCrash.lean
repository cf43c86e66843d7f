/- A crash. -/
import Derived.Test.YtngeilhdambgfaaDoorDvFlush
import Derived.Test.YtngeilhdambgfaaDoorDvUp
namespace Go.Proofs.YtngeilhdambgfaaDoor
open Go.RowKit

theorem keep_bit (keep k : Nat) (h : keep < 18446744073709551616) : (bits .and .u64 ((keep : Int) / 2 ^ (k % 64)) 1 == 0) = !kept keep k := by
  have e : (keep : Int) / 2 ^ (k % 64) = ((keep / 2 ^ (k % 64) : Nat) : Int) := by simp
  have h1 : keep / 2 ^ (k % 64) ≤ keep := Nat.div_le_self _ _
  rw [e]
  unfold kept
  obtain ⟨q, hq⟩ : ∃ q, q = keep / 2 ^ (k % 64) := ⟨_, rfl⟩
  rw [← hq] at h1 ⊢
  rw [low_bit (by omega) (by omega)]
  rcases Nat.mod_two_eq_zero_or_one q with h2 | h2
  · rw [h2, show ((q : Nat) : Int) % 2 = 0 by omega]; rfl
  · rw [h2, show ((q : Nat) : Int) % 2 = 1 by omega]; rfl
theorem again_sect {M L : List (List Nat)} {ws : List (Nat × List Nat)} (hM : Sect M) (hL : Sect L) (hw : ∀ x ∈ ws, x.1 < M.length) : Sect (again M L ws) := by
  unfold again
  induction ws generalizing L with
  | nil => exact hL
  | cons x r ih =>
    rw [List.foldl_cons]
    have h1 := hw x (by simp)
    exact ih (hL.set (by simp [List.getD, h1]; exact hM _ (List.getElem_mem h1))) (fun y hy => hw y (List.mem_cons_of_mem _ hy))
/-- ahead of what is armed being taken back -/
theorem crash_end {w wb wr : World} {B P g1 g2 keep : Nat} {torn bytes : Int} {wv : Value} {d : Dev} {M : List (List Nat)} (h : DevIn w B P g1 g2 wv d) (hM : M = crashed keep torn bytes d.lies d.waits.zipIdx) (h1 : Only (fun k => k = g1) w wb) (h2 : Only (fun k => k = g2) wb wr)
    (ha : Arr wr g1 62 (u8s M.flatten)) (hb : Arr wr g2 62 (u8s M.flatten)) :
    DevIn ((wr.setCell ⟨P, 2, none⟩ (.slice none 0 0)).setCell ⟨P, 3, none⟩ (.bool true)) B P g1 g2 (.slice none 0 0) { d with lies := M, waits := [], down := true } ∧ Only (fun k => k = P ∨ k = g1 ∨ k = g2) w ((wr.setCell ⟨P, 2, none⟩ (.slice none 0 0)).setCell ⟨P, 3, none⟩ (.bool true)) := by
  have o2 : Only (fun k => k = P) wr ((wr.setCell ⟨P, 2, none⟩ (.slice none 0 0)).setCell ⟨P, 3, none⟩ (.bool true)) :=
    (Only.setCell (S := fun k => k = P) _ (p := ⟨P, 2, none⟩) rfl _).trans (Only.setCell (S := fun k => k = P) _ (p := ⟨P, 3, none⟩) rfl _) (fun _ _ h => h)
  have hP := (((h.blk.only h1 (fun e => h.ne1 e)).only h2 (fun e => h.ne2 e)).set 2 (.slice none 0 0)).set 3 (.bool true)
  have hl : M.length = d.lies.length := by rw [hM, crashed_length]
  have e : ((dcells g1 g2 wv d).set 2 (.slice none 0 0)).set 3 (.bool true) = dcells g1 g2 (.slice none 0 0) { d with lies := M, waits := [], down := true } := by simp [dcells, hl]
  rw [e] at hP
  have hok := Dev.crash_ok h.ok keep torn bytes
  refine ⟨⟨hP, ha.only o2 (fun e => h.ne1 e.symm), hb.only o2 (fun e => h.ne2 e.symm), World.ownsRow_nil _ _ _ _, h.ne, h.lo, ⟨by rw [hM]; exact hok.sect, fun x hx => by simp at hx, by rw [hM]; exact hok.pos, by rw [hM]; exact hok.size⟩⟩, ?_⟩
  exact ((h1.mono (T := fun k => k = P ∨ k = g1 ∨ k = g2) (fun _ _ hk => .inr (.inl hk))).trans h2 (fun _ _ hk => .inr (.inr hk))).trans o2 (fun _ _ hk => .inl hk)
set_option maxHeartbeats 16000000 in
set_option maxRecDepth 1000000 in
theorem crash_any {w : World} {B P keep : Nat} {torn bytes : Int} {d : Dev} (h : DevAt w B P d) (hkeep : keep < 18446744073709551616) : Calls Tryd.prog 16 #[.pointer (some ⟨P, 0, none⟩), .int .u64 (keep : Int), .int .i64 torn, .int .i64 bytes] w fun e w' => e = .returned (.tuple #[]) ∧ DevAt w' B P (d.crash keep torn bytes) ∧ Kept P w w' := by
  obtain ⟨g1, g2, wv, h⟩ := h
  obtain ⟨c0, _, c2, _⟩ := h.cells
  obtain ⟨a, c, rfl⟩ := h.slice
  have HD := Lib.hid h
  obtain ⟨n, hn⟩ : ∃ n, n = d.lies.length := ⟨_, rfl⟩
  obtain ⟨m, hm⟩ : ∃ m, m = d.waits.length := ⟨_, rfl⟩
  have HN := Lib.hid hn
  have HM := Lib.hid hm
  have hn8 : n ≤ 8192 := by rw [hn]; exact h.ok.size
  have hmm : m ≤ 9223372036854775807 := by
    rw [hm]
    rcases h.waits.2 with ⟨_, h0⟩ | ⟨_, _, _, _, _, _, h1, h2, _⟩
    · omega
    · exact Nat.le_trans h1 h2
  rw [← hn] at c0
  rw [← hm] at c2
  clear h hn hm
  go_enter Tryd.func16, Tryd.ntmps16
  go_wp2_with fail
  clear c0 c2
  go_loopw [20] (fun i wr => ∃ k : Nat, k ≤ m ∧ i = .int .i64 k ∧ Arr wr g1 62 (u8s (crashed keep torn bytes d.lies (d.waits.zipIdx.take k)).flatten) ∧ Only (fun k => k = g1) w wr) (fun i _ => m - (intOf i).toNat)
  case atStart => exact ⟨0, by omega, rfl, HD.out.lies, Only.refl _ _⟩
  case round =>
    obtain ⟨k, hk, rfl, harr, ho⟩ := hrel
    have HR := Lib.hid harr
    have HO := Lib.hid ho
    have hbP := HD.out.blk.only ho (fun e => HD.out.ne1 e)
    have c0 : wr.cell? ⟨P, 0, none⟩ = some (.slice (some ⟨g1, 0, none⟩) n n) := by rw [HN.out]; exact hbP.cell rfl
    have c2 : wr.cell? ⟨P, 2, none⟩ = some (.slice a m c) := by rw [HM.out]; exact hbP.cell rfl
    have HP := Lib.hid hbP
    clear harr ho hbP
    by_cases hlt : k < m
    · obtain ⟨x, hx⟩ : ∃ x, d.waits[k]? = some x := ⟨d.waits[k]'(by rw [← HM.out]; exact hlt), List.getElem?_eq_getElem _⟩
      obtain ⟨gw, c', hv, hgw, hw⟩ := HD.out.wait hx
      cases hv
      have hx2 : x.2.length = 64 := (HD.out.ok.wait x (List.mem_of_getElem? hx)).2
      have hx1 : x.1 < n := by rw [HN.out]; exact (HD.out.ok.wait x (List.mem_of_getElem? hx)).1
      have hwne : gw ≠ g1 := fun e => HD.out.neW1 (by rw [e]; rfl)
      have HW : Hid (∀ j v, (wcell x)[j]? = some v → wr.cell? ⟨gw, k * 65 + j, none⟩ = some v) := Lib.hid (fun j v hj => by
        have h1 := hw j v hj
        rw [← h1]; exact World.cell?_of_block (HO.out.block _ (cell_lt h1) hwne))
      have HSW : Hid ((Tryd.prog.info? 64).map (·.size) = some (wcell x).length) := Lib.hid (sizeW (wcell_length hx2))
      have HX := Lib.hid hx
      have HX2 := Lib.hid hx2
      have t3 : decide ((k : Int) < (m : Int)) = true := by simp only [decide_eq_true_eq]; omega
      have e1 : IntKind.i64.wrap ((k : Int) + 1) = ((k + 1 : Nat) : Int) := by rw [IntKind.wrap_i64]; omega
      obtain ⟨at_, hat⟩ : ∃ a, a = x.1 := ⟨_, rfl⟩
      have HAT := Lib.hid hat
      rw [← hat] at hx1
      clear hw hx hx2 hat
      have tK := keep_bit keep k hkeep
      obtain ⟨Q, hQ⟩ : ∃ Q, Q = kept keep k := ⟨_, rfl⟩
      rw [← hQ] at tK
      have HQ := Lib.hid hQ
      clear hQ
      cases Q
      · simp only [Bool.not_false] at tK
        repeat (first | (refine wpList_load_part rfl 64 (.tmp 23) rfl gw (k * 65) rfl (wcell x) _ HW.out Tryd.underlying64 rfl HSW.out ?_) | (refine wpList_alloc_zero rfl 64 rfl zeroW (by kernel_rfl) ?_) | (refine wpList_store_part rfl 64 (.tmp 9) (.tmp 24) rfl wr.heap.size 0 (wcell x) rfl rfl 64 zeroW (arr_new wr _ zeroW) HSW.out (by rw [zeroW_length, wcell_length HX2.out]; omega) (wcell_one x) ?_; refine wpList_name ?_; intro W3 hW3) | go_values | go_skip | go_guarded | go_step | go_upon)
        obtain ⟨hb3, _⟩ := wvar hW3.out HX2.out
        have HB3 := Lib.hid hb3
        clear hb3 hW3
        go_roundw
        case rel =>
          refine ⟨k + 1, by omega, by go_num, ?_, HO.out.trans (T := fun k => k = g1) (only_beyond HB3.out) (fun _ _ h => h)⟩
          rw [crashed_take HX.out]
          unfold crash1
          rw [if_neg (by rw [← HQ.out]; simp)]
          exact HR.out.only (only_beyond (S := fun _ => False) HB3.out) (fun h => h)
        case measure => simp [intOf]; omega
      · simp only [Bool.not_true] at tK
        by_cases hT : (k : Int) = torn
        · have tT : ((k : Int) == torn) = true := by simp [hT]
          have HT := Lib.hid hT
          obtain ⟨nn, hnn⟩ : ∃ nn, nn = tornN bytes := ⟨_, rfl⟩
          have HNN := Lib.hid hnn
          have eT : (if 64 < (if bytes < 0 then 0 else bytes) then 64 else (if bytes < 0 then 0 else bytes)) = (nn : Int) := by rw [hnn]; unfold tornN; split <;> split <;> omega
          have hn64 : nn ≤ 64 := by rw [hnn]; exact tornN_le _
          clear hT hnn
          repeat (first | (refine wpList_load_part rfl 64 (.tmp 23) rfl gw (k * 65) rfl (wcell x) _ HW.out Tryd.underlying64 rfl HSW.out ?_) | (refine wpList_alloc_zero rfl 64 rfl zeroW (by kernel_rfl) ?_) | (refine wpList_store_part rfl 64 (.tmp 9) (.tmp 24) rfl wr.heap.size 0 (wcell x) rfl rfl 64 zeroW (arr_new wr _ zeroW) HSW.out (by rw [zeroW_length, wcell_length HX2.out]; omega) (wcell_one x) ?_; refine wpList_name ?_; intro W3 hW3) | go_values | go_skip | go_guarded | go_step | go_upon)
          obtain ⟨L, hL⟩ : ∃ L, L = wr.heap.size := ⟨_, rfl⟩
          obtain ⟨hb3, hv3⟩ := wvar hW3.out HX2.out
          rw [← hL] at hv3 ⊢
          have HB3 := Lib.hid hb3
          have b0 : W3.cell? ⟨P, 0, none⟩ = some (.slice (some ⟨g1, 0, none⟩) n n) := by rw [← c0]; exact World.cell?_of_block (hb3.block _ (cell_lt c0))
          obtain ⟨v0, v1⟩ := wvar_get hv3
          rw [← HAT.out] at v0
          have HV1 := Lib.hid v1
          have HR3 : Hid (Arr W3 g1 62 (u8s (crashed keep torn bytes d.lies (d.waits.zipIdx.take k)).flatten)) := Lib.hid (HR.out.only (only_beyond (S := fun _ => False) hb3) (fun h => h))
          clear hW3 hb3 hv3 v1 hL HW c0 c2
          refine wp_region_still_tail 11 (by kernel_rfl) (by kernel_rfl) ?_
          simp only [List.take_succ_cons, List.take_zero, List.drop_succ_cons, List.drop_zero]
          iterate 8 still_step
          refine wpStill_value rfl (run_upto _ 62 (.tmp 43) (.tmp 44) rfl 5 64 Tryd.underlying62 (by kernel_rfl) g1 (at_ * 64) nn .i64 rfl rfl (by omega) (by omega)) ?_
          (try simp only [Act.put, List.setIfInBounds_toArray, List.set_cons_zero, List.set_cons_succ])
          repeat still_step
          refine wpStill_nil ?_
          change wpList _ _ _ _ _ W3.drew
          have HOKC : Hid (Sect (crashed keep torn bytes d.lies (d.waits.zipIdx.take k))) := Lib.hid (crashed_sect HD.out.ok.sect (fun y hy => Dev.zip_ok HD.out.ok y (List.mem_of_mem_take hy)))
          have HLC : Hid ((crashed keep torn bytes d.lies (d.waits.zipIdx.take k)).length = n) := Lib.hid (by rw [crashed_length, HN.out])
          have HCUR : Hid ((crashed keep torn bytes d.lies (d.waits.zipIdx.take k)).flatten.length = n * 64) := Lib.hid (by rw [flat_length HOKC.out, HLC.out])
          have HNX : Hid ((crashed keep torn bytes d.lies (d.waits.zipIdx.take (k + 1))).flatten = splice (crashed keep torn bytes d.lies (d.waits.zipIdx.take k)).flatten (at_ * 64) (x.2.take nn)) := Lib.hid (by
            rw [crashed_take HX.out]
            unfold crash1
            rw [if_pos (by rw [← HQ.out]), if_pos HT.out, ← HNN.out, ← HAT.out]
            have hlt2 : at_ < (crashed keep torn bytes d.lies (d.waits.zipIdx.take k)).length := by rw [HLC.out]; exact hx1
            rw [show (crashed keep torn bytes d.lies (d.waits.zipIdx.take k)).getD at_ [] = (crashed keep torn bytes d.lies (d.waits.zipIdx.take k))[at_] by simp [List.getD, hlt2]]
            exact flat_part HOKC.out (List.getElem?_eq_getElem hlt2) (by omega) HX2.out)
          obtain ⟨cur, hcur⟩ : ∃ c, c = (crashed keep torn bytes d.lies (d.waits.zipIdx.take k)).flatten := ⟨_, rfl⟩
          rw [← hcur] at HCUR HNX HR3
          clear hcur HR HOKC HLC
          have hmul := Nat.mul_le_mul_right 64 (show at_ + 1 ≤ n from hx1)
          have hln : (x.2.take nn).length = nn := by rw [List.length_take, HX2.out]; omega
          have HRD : Hid (Arr W3.drew g1 62 (u8s cur)) := Lib.hid (Arr.only (w := W3) HR3.out (Only.drew (fun _ => False) W3) (fun h => h))
          refine wpList_copy_own rfl (.tmp 45) (.tmp 47) 33 33 rfl 5 Tryd.underlying33 (by kernel_rfl) g1 (at_ * 64) nn 64 ⟨L, 1, none⟩ 64 64 rfl rfl (u8s cur).toArray 62 HRD.out (u8s (x.2.take nn)) (by rw [u8s_length, hln]; exact (Nat.min_eq_right (by omega)).symm) (fun j v hv => by rw [add_at]; exact HV1.out j v (by simp only [u8s_get, List.getElem?_take] at hv ⊢; split at hv; exact hv; simp at hv)) (by rw [List.size_toArray, u8s_length, u8s_length, HCUR.out, hln]; omega) (u8s_one _) ?_
          refine wpList_name ?_
          intro W5 hW5
          have HR5 : Hid (Arr W5 g1 62 (u8s (crashed keep torn bytes d.lies (d.waits.zipIdx.take (k + 1))).flatten)) := Lib.hid (by
            rw [HNX.out, ← u8s_splice, hW5.out]
            exact setRow_heap _ _ _ _ _ _ HRD.out)
          have HO5 : Hid (Only (fun k => k = g1) w W5) := Lib.hid (by
            refine HO.out.trans (T := fun k => k = g1) ((only_beyond (S := fun k => k = g1) HB3.out).trans (T := fun k => k = g1) ?_ (fun _ _ h => h)) (fun _ _ h => h)
            rw [hW5.out]
            exact ⟨rfl, rfl, rfl, by simp, fun k hk hs => setRow_other W3.drew _ _ _ hs⟩)
          clear hW5 v0 b0
          repeat (first | go_values | go_skip | go_guarded | go_step | go_upon)
          exact ⟨⟨k + 1, by omega, by go_num, HR5.out, HO5.out⟩, by simp [intOf]; omega⟩
        · have tT : ((k : Int) == torn) = false := by simp [hT]
          have HT := Lib.hid hT
          clear hT
          repeat (first | (refine wpList_load_part rfl 64 (.tmp 23) rfl gw (k * 65) rfl (wcell x) _ HW.out Tryd.underlying64 rfl HSW.out ?_) | (refine wpList_alloc_zero rfl 64 rfl zeroW (by kernel_rfl) ?_) | (refine wpList_store_part rfl 64 (.tmp 9) (.tmp 24) rfl wr.heap.size 0 (wcell x) rfl rfl 64 zeroW (arr_new wr _ zeroW) HSW.out (by rw [zeroW_length, wcell_length HX2.out]; omega) (wcell_one x) ?_; refine wpList_name ?_; intro W3 hW3) | go_values | go_skip | go_guarded | go_step | go_upon)
          obtain ⟨L, hL⟩ : ∃ L, L = wr.heap.size := ⟨_, rfl⟩
          obtain ⟨hb3, hv3⟩ := wvar hW3.out HX2.out
          rw [← hL] at hv3 ⊢
          have HB3 := Lib.hid hb3
          have b0 : W3.cell? ⟨P, 0, none⟩ = some (.slice (some ⟨g1, 0, none⟩) n n) := by rw [← c0]; exact World.cell?_of_block (hb3.block _ (cell_lt c0))
          obtain ⟨v0, v1⟩ := wvar_get hv3
          rw [← HAT.out] at v0
          have HV1 := Lib.hid v1
          have HR3 : Hid (Arr W3 g1 62 (u8s (crashed keep torn bytes d.lies (d.waits.zipIdx.take k)).flatten)) := Lib.hid (HR.out.only (only_beyond (S := fun _ => False) hb3) (fun h => h))
          clear hW3 hb3 hv3 v1 hL HW c0 c2
          refine wp_region_still_tail 11 (by kernel_rfl) (by kernel_rfl) ?_
          simp only [List.take_succ_cons, List.take_zero, List.drop_succ_cons, List.drop_zero]
          iterate 8 still_step
          refine wpStill_value rfl (run_upto _ 62 (.tmp 43) (.tmp 44) rfl 5 64 Tryd.underlying62 (by kernel_rfl) g1 (at_ * 64) 64 .i64 rfl rfl (by omega) (by omega)) ?_
          (try simp only [Act.put, List.setIfInBounds_toArray, List.set_cons_zero, List.set_cons_succ])
          repeat still_step
          refine wpStill_nil ?_
          change wpList _ _ _ _ _ W3.drew
          have HOKC : Hid (Sect (crashed keep torn bytes d.lies (d.waits.zipIdx.take k))) := Lib.hid (crashed_sect HD.out.ok.sect (fun y hy => Dev.zip_ok HD.out.ok y (List.mem_of_mem_take hy)))
          have HLC : Hid ((crashed keep torn bytes d.lies (d.waits.zipIdx.take k)).length = n) := Lib.hid (by rw [crashed_length, HN.out])
          have HCUR : Hid ((crashed keep torn bytes d.lies (d.waits.zipIdx.take k)).flatten.length = n * 64) := Lib.hid (by rw [flat_length HOKC.out, HLC.out])
          have HNX : Hid ((crashed keep torn bytes d.lies (d.waits.zipIdx.take (k + 1))).flatten = splice (crashed keep torn bytes d.lies (d.waits.zipIdx.take k)).flatten (at_ * 64) (x.2.take 64)) := Lib.hid (by
            rw [crashed_take HX.out]
            unfold crash1
            rw [if_pos (by rw [← HQ.out]), if_neg HT.out, ← HAT.out]
            have hlt2 : at_ < (crashed keep torn bytes d.lies (d.waits.zipIdx.take k)).length := by rw [HLC.out]; exact hx1
            rw [show (crashed keep torn bytes d.lies (d.waits.zipIdx.take k)).getD at_ [] = (crashed keep torn bytes d.lies (d.waits.zipIdx.take k))[at_] by simp [List.getD, hlt2]]
            exact flat_part HOKC.out (List.getElem?_eq_getElem hlt2) (by omega) HX2.out)
          obtain ⟨cur, hcur⟩ : ∃ c, c = (crashed keep torn bytes d.lies (d.waits.zipIdx.take k)).flatten := ⟨_, rfl⟩
          rw [← hcur] at HCUR HNX HR3
          clear hcur HR HOKC HLC
          have hmul := Nat.mul_le_mul_right 64 (show at_ + 1 ≤ n from hx1)
          have hln : (x.2.take 64).length = 64 := by rw [List.length_take, HX2.out]; omega
          have HRD : Hid (Arr W3.drew g1 62 (u8s cur)) := Lib.hid (Arr.only (w := W3) HR3.out (Only.drew (fun _ => False) W3) (fun h => h))
          refine wpList_copy_own rfl (.tmp 45) (.tmp 47) 33 33 rfl 5 Tryd.underlying33 (by kernel_rfl) g1 (at_ * 64) 64 64 ⟨L, 1, none⟩ 64 64 rfl rfl (u8s cur).toArray 62 HRD.out (u8s (x.2.take 64)) (by rw [u8s_length, hln]; exact (Nat.min_eq_right (by omega)).symm) (fun j v hv => by rw [add_at]; exact HV1.out j v (by simp only [u8s_get, List.getElem?_take] at hv ⊢; split at hv; exact hv; simp at hv)) (by rw [List.size_toArray, u8s_length, u8s_length, HCUR.out, hln]; omega) (u8s_one _) ?_
          refine wpList_name ?_
          intro W5 hW5
          have HR5 : Hid (Arr W5 g1 62 (u8s (crashed keep torn bytes d.lies (d.waits.zipIdx.take (k + 1))).flatten)) := Lib.hid (by
            rw [HNX.out, ← u8s_splice, hW5.out]
            exact setRow_heap _ _ _ _ _ _ HRD.out)
          have HO5 : Hid (Only (fun k => k = g1) w W5) := Lib.hid (by
            refine HO.out.trans (T := fun k => k = g1) ((only_beyond (S := fun k => k = g1) HB3.out).trans (T := fun k => k = g1) ?_ (fun _ _ h => h)) (fun _ _ h => h)
            rw [hW5.out]
            exact ⟨rfl, rfl, rfl, by simp, fun k hk hs => setRow_other W3.drew _ _ _ hs⟩)
          clear hW5 v0 b0
          repeat (first | go_values | go_skip | go_guarded | go_step | go_upon)
          exact ⟨⟨k + 1, by omega, by go_num, HR5.out, HO5.out⟩, by simp [intOf]; omega⟩
    · have t3 : decide ((k : Int) < (m : Int)) = false := by simp only [decide_eq_false_iff_not]; omega
      obtain rfl : k = m := by omega
      obtain ⟨M, hM⟩ : ∃ M, M = crashed keep torn bytes d.lies d.waits.zipIdx := ⟨_, rfl⟩
      have hz : d.waits.zipIdx.take k = d.waits.zipIdx := List.take_of_length_le (by rw [List.length_zipIdx, ← HM.out]; exact Nat.le_refl _)
      rw [hz, ← hM] at HR
      have HMS : Hid (Sect M) := Lib.hid (by rw [hM]; exact crashed_sect HD.out.ok.sect (Dev.zip_ok HD.out.ok))
      have HML : Hid (M.length = n) := Lib.hid (by rw [hM, crashed_length, HN.out])
      have HMM := Lib.hid hM
      have HT0 : Hid (Arr wr g2 62 (u8s d.told.flatten)) := Lib.hid (HD.out.told.only HO.out (fun e => HD.out.ne e.symm))
      have HMQ := HM
      clear hM hz HM
      repeat (first | go_values | go_skip | go_guarded | go_step | go_upon)
      obtain ⟨wb, hwb⟩ : ∃ wb, wb = wr := ⟨_, rfl⟩
      obtain ⟨m, hmk⟩ : ∃ m, m = k := ⟨_, rfl⟩
      subst hwb
      subst hmk
      clear c0 c2
      go_loopw [55] (fun i wr => ∃ k : Nat, k ≤ m ∧ i = .int .i64 k ∧ Arr wr g2 62 (u8s (again M d.told (d.waits.take k)).flatten) ∧ Only (fun k => k = g2) wb wr) (fun i _ => m - (intOf i).toNat)
      case atStart => exact ⟨0, by omega, rfl, HT0.out, Only.refl _ _⟩
      case round =>
        obtain ⟨k, hk, rfl, harr, ho⟩ := hrel
        have HR2 := Lib.hid harr
        have HO2 := Lib.hid ho
        have hbP := HP.out.only ho (fun e => HD.out.ne2 e)
        have c0 : wr.cell? ⟨P, 0, none⟩ = some (.slice (some ⟨g1, 0, none⟩) n n) := by rw [HN.out]; exact hbP.cell rfl
        have c1 : wr.cell? ⟨P, 1, none⟩ = some (.slice (some ⟨g2, 0, none⟩) n n) := by rw [HN.out]; exact hbP.cell rfl
        have c2 : wr.cell? ⟨P, 2, none⟩ = some (.slice a m c) := by rw [HMQ.out]; exact hbP.cell rfl
        have c3 : wr.cell? ⟨P, 3, none⟩ = some (.bool d.down) := hbP.cell rfl
        have f2 := hbP.free 2
        have f3 := hbP.free 3
        have HP2 := Lib.hid hbP
        have HR1 : Hid (Arr wr g1 62 (u8s M.flatten)) := Lib.hid (HR.out.only ho HD.out.ne)
        clear harr ho hbP
        by_cases hlt : k < m
        · obtain ⟨x, hx⟩ : ∃ x, d.waits[k]? = some x := ⟨d.waits[k]'(by rw [← HMQ.out]; exact hlt), List.getElem?_eq_getElem _⟩
          obtain ⟨gw, c', hv, hgw, hw⟩ := HD.out.wait hx
          cases hv
          have hx2 : x.2.length = 64 := (HD.out.ok.wait x (List.mem_of_getElem? hx)).2
          have hx1 : x.1 < n := by rw [HN.out]; exact (HD.out.ok.wait x (List.mem_of_getElem? hx)).1
          have hwne : gw ≠ g1 := fun e => HD.out.neW1 (by rw [e]; rfl)
          have hwne2 : gw ≠ g2 := fun e => HD.out.neW2 (by rw [e]; rfl)
          have HW : Hid (∀ j v, (wcell x)[j]? = some v → wr.cell? ⟨gw, k * 65 + j, none⟩ = some v) := Lib.hid (fun j v hj => by
            have h1 := hw j v hj
            have h2 : wb.cell? ⟨gw, k * 65 + j, none⟩ = some v := by rw [← h1]; exact World.cell?_of_block (HO.out.block _ (cell_lt h1) hwne)
            rw [← h2]; exact World.cell?_of_block (HO2.out.block _ (cell_lt h2) hwne2))
          have HSW : Hid ((Tryd.prog.info? 64).map (·.size) = some (wcell x).length) := Lib.hid (sizeW (wcell_length hx2))
          have HX := Lib.hid hx
          have HX2 := Lib.hid hx2
          have t3 : decide ((k : Int) < (m : Int)) = true := by simp only [decide_eq_true_eq]; omega
          have e1 : IntKind.i64.wrap ((k : Int) + 1) = ((k + 1 : Nat) : Int) := by rw [IntKind.wrap_i64]; omega
          obtain ⟨at_, hat⟩ : ∃ a, a = x.1 := ⟨_, rfl⟩
          have HAT := Lib.hid hat
          rw [← hat] at hx1
          obtain ⟨s, hs⟩ : ∃ s, M[at_]? = some s := ⟨M[at_]'(by rw [HML.out]; exact hx1), List.getElem?_eq_getElem _⟩
          have HS := Lib.hid hs
          have HS64 : Hid (s.length = 64) := Lib.hid (HMS.out.get hs)
          have HSS : Hid ((Tryd.prog.info? 62).map (·.size) = some (u8s s).length) := Lib.hid (sizeS (by rw [u8s_length]; exact HS64.out))
          clear hw hx hx2 hat hs hwne hwne2
          repeat (first | (refine wpList_load_part rfl 64 (.tmp 57) rfl gw (k * 65) rfl (wcell x) _ HW.out Tryd.underlying64 rfl HSW.out ?_) | (refine wpList_alloc_zero rfl 64 rfl zeroW (by kernel_rfl) ?_) | (refine wpList_store_part rfl 64 (.tmp 12) (.tmp 58) rfl wr.heap.size 0 (wcell x) rfl rfl 64 zeroW (arr_new wr _ zeroW) HSW.out (by rw [zeroW_length, wcell_length HX2.out]; omega) (wcell_one x) ?_; refine wpList_name ?_; intro W3 hW3) | go_values | go_skip | go_guarded | go_step | go_upon)
          simp only [Act.put, List.setIfInBounds_toArray, List.set_cons_zero, List.set_cons_succ]
          obtain ⟨L, hL⟩ : ∃ L, L = wr.heap.size := ⟨_, rfl⟩
          obtain ⟨hb3, hv3⟩ := wvar hW3.out HX2.out
          rw [← hL] at hv3 ⊢
          have HB3 := Lib.hid hb3
          have b0 : W3.cell? ⟨P, 0, none⟩ = some (.slice (some ⟨g1, 0, none⟩) n n) := by rw [← c0]; exact World.cell?_of_block (hb3.block _ (cell_lt c0))
          have b1 : W3.cell? ⟨P, 1, none⟩ = some (.slice (some ⟨g2, 0, none⟩) n n) := by rw [← c1]; exact World.cell?_of_block (hb3.block _ (cell_lt c1))
          obtain ⟨v0, _⟩ := wvar_get hv3
          rw [← HAT.out] at v0
          have HR3 : Hid (Arr W3 g2 62 (u8s (again M d.told (d.waits.take k)).flatten)) := Lib.hid (HR2.out.only (only_beyond (S := fun _ => False) hb3) (fun h => h))
          have HG1 : Hid (∀ j v, (u8s s)[j]? = some v → W3.cell? ⟨g1, at_ * 64 + j, none⟩ = some v) := Lib.hid (fun j v hv => by
            have hj : j < 64 := by have := (List.getElem?_eq_some_iff.1 hv).1; rw [u8s_length, HS64.out] at this; exact this
            refine (HR1.out.only (only_beyond (S := fun _ => False) hb3) (fun h => h)).cell ?_
            rw [u8s_get, flat_get HMS.out HS.out hj, ← u8s_get]; exact hv)
          clear hW3 hb3 hv3 hL HW c0 c1 c2 c3 f2 f3
          refine wp_region_still_tail 15 (by kernel_rfl) (by kernel_rfl) ?_
          simp only [List.take_succ_cons, List.take_zero, List.drop_succ_cons, List.drop_zero]
          iterate 13 still_step
          refine wpStill_value rfl (run_load_part _ 62 (.tmp 71) rfl g1 (at_ * 64) rfl (u8s s) _ HG1.out Tryd.underlying62 rfl HSS.out) ?_
          (try simp only [Act.put, List.setIfInBounds_toArray, List.set_cons_zero, List.set_cons_succ])
          repeat still_step
          refine wpStill_nil ?_
          change wpList _ _ _ _ _ W3.drew
          have HOKC : Hid (Sect (again M d.told (d.waits.take k))) := Lib.hid (again_sect HMS.out HD.out.ok.told (fun y hy => by rw [HML.out, HN.out]; exact (HD.out.ok.wait y (List.mem_of_mem_take hy)).1))
          have HLC : Hid ((again M d.told (d.waits.take k)).length = n) := Lib.hid (by rw [again_length, d.told_length, HN.out])
          have HCUR : Hid ((again M d.told (d.waits.take k)).flatten.length = n * 64) := Lib.hid (by rw [flat_length HOKC.out, HLC.out])
          have HNX : Hid ((again M d.told (d.waits.take (k + 1))).flatten = splice (again M d.told (d.waits.take k)).flatten (at_ * 64) s) := Lib.hid (by
            rw [again_take HX.out, ← HAT.out, flat_set HOKC.out (by rw [HLC.out]; exact hx1) (by simp [List.getD, HS.out, HS64.out])]
            simp [List.getD, HS.out])
          obtain ⟨cur, hcur⟩ : ∃ c, c = (again M d.told (d.waits.take k)).flatten := ⟨_, rfl⟩
          rw [← hcur] at HCUR HNX HR3
          clear hcur HR2 HOKC HLC
          have hmul := Nat.mul_le_mul_right 64 (show at_ + 1 ≤ n from hx1)
          have HRD : Hid (Arr W3.drew g2 62 (u8s cur)) := Lib.hid (Arr.only (w := W3) HR3.out (Only.drew (fun _ => False) W3) (fun h => h))
          refine wpList_store_part rfl 62 (.tmp 73) (.tmp 72) rfl g2 (at_ * 64) (u8s s) rfl rfl 62 (u8s cur) HRD.out HSS.out (by rw [u8s_length, u8s_length, HCUR.out, HS64.out]; omega) (u8s_one _) ?_
          refine wpList_name ?_
          intro W5 hW5
          have HR5 : Hid (Arr W5 g2 62 (u8s (again M d.told (d.waits.take (k + 1))).flatten)) := Lib.hid (by
            rw [HNX.out, ← u8s_splice, hW5.out]
            exact setRow_heap _ _ _ _ _ _ HRD.out)
          have HO5 : Hid (Only (fun k => k = g2) wb W5) := Lib.hid (by
            refine HO2.out.trans (T := fun k => k = g2) ((only_beyond (S := fun k => k = g2) HB3.out).trans (T := fun k => k = g2) ?_ (fun _ _ h => h)) (fun _ _ h => h)
            rw [hW5.out]
            exact ⟨rfl, rfl, rfl, by simp, fun k hk hs => setRow_other W3.drew _ _ _ hs⟩)
          clear hW5 v0 b0 b1
          repeat (first | go_values | go_skip | go_guarded | go_step | go_upon)
          exact ⟨⟨k + 1, by omega, by go_num, HR5.out, HO5.out⟩, by simp [intOf]; omega⟩
        · have t3 : decide ((k : Int) < (m : Int)) = false := by simp only [decide_eq_false_iff_not]; omega
          obtain rfl : k = m := by omega
          have HF : Hid (Arr wr g2 62 (u8s M.flatten)) := Lib.hid (by
            have h1 : again M d.told (d.waits.take k) = M := by rw [List.take_of_length_le (by rw [← HMQ.out]; exact Nat.le_refl _), HMM.out]; exact again_crash _ _ _ _ _
            have h2 := HR2.out
            rw [h1] at h2; exact h2)
          have HEND := Lib.hid (crash_end HD.out HMM.out HO.out HO2.out HR1.out HF.out)
          clear HR2
          go_wp2_with (go_at_call 26; refine (disarm_any HEND.out.1).mono ?_; rintro e w' ⟨rfl, hd, ho⟩; have HD2 := Lib.hid hd; have HO3 := Lib.hid ho; clear hd ho)
          go_end0
          have HD3 : DevIn w' B P g1 g2 (.slice none 0 0) (d.crash keep torn bytes) := by have h := HD2.out; rw [HMM.out] at h; exact h
          exact ⟨rfl, ⟨g1, g2, _, HD3⟩, HD.out.keeps (HEND.out.2.trans HO3.out (fun _ _ hk => .inl hk)) HD3 (fun k hk => by simp [Value.ownBlock] at hk)⟩
end Go.Proofs.YtngeilhdambgfaaDoor
