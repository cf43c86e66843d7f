/- What waits, flushed. -/
import Derived.Test.YtngeilhdambgfaaDoorDvLaws
namespace Go.Proofs.YtngeilhdambgfaaDoor
open Go.RowKit

/-- a variable of one's own that holds a writing -/
theorem wvar {w W : World} {x : Nat × List Nat} (hW : W = (w.alloc (.cells zeroW.toArray 64)).setRow w.heap.size (splice zeroW 0 (wcell x)).toArray) (hl : x.2.length = 64) :
    Below w.heap.size w W ∧ Arr W w.heap.size 64 (wcell x) := by
  have h := arr_new w 64 zeroW
  rw [splice_whole (by rw [zeroW_length, wcell_length hl])] at hW
  subst hW
  exact ⟨below_setRow ((Below.refl _ _).alloc (Nat.le_refl _) _) (Nat.le_refl _) _, setRow_heap _ _ _ _ _ _ h⟩
theorem wvar_get {W : World} {L : Nat} {x : Nat × List Nat} (h : Arr W L 64 (wcell x)) : W.cell? ⟨L, 0, none⟩ = some (.int .i64 (x.1 : Int)) ∧ ∀ j v, (u8s x.2)[j]? = some v → W.cell? ⟨L, 1 + j, none⟩ = some v :=
  ⟨h.cell rfl, fun j v hv => h.cell (by rw [Nat.add_comm]; simpa [wcell] using hv)⟩
theorem row_cells {w W : World} {g off : Nat} {l : List Value} (h : ∀ j v, l[j]? = some v → w.cell? ⟨g, off + j, none⟩ = some v) (ho : Only (fun _ => False) w W) : ∀ j v, l[j]? = some v → W.cell? ⟨g, off + j, none⟩ = some v := fun j v hv => by
  have h1 := h j v hv
  rw [← h1]; exact World.cell?_of_block (ho.block _ (cell_lt h1) (fun h => h))

theorem flush_end {w wr : World} {B P g1 g2 : Nat} {wv : Value} {d : Dev} (h : DevIn w B P g1 g2 wv d) (hr : Arr wr g1 62 (u8s d.told.flatten)) (ho : Only (fun k => k = g1) w wr) :
    DevIn (wr.setCell ⟨P, 2, none⟩ (.slice none 0 0)) B P g1 g2 (.slice none 0 0) d.flush ∧ Kept P w (wr.setCell ⟨P, 2, none⟩ (.slice none 0 0)) := by
  have o2 : Only (fun k => k = P) wr (wr.setCell ⟨P, 2, none⟩ (.slice none 0 0)) := Only.setCell (S := fun k => k = P) _ (p := ⟨P, 2, none⟩) rfl _
  have hP := (h.blk.only ho (fun e => h.ne1 e)).set 2 (.slice none 0 0)
  have e : (dcells g1 g2 wv d).set 2 (.slice none 0 0) = dcells g1 g2 (.slice none 0 0) d.flush := by simp [dcells, Dev.flush, d.told_length]
  rw [e] at hP
  have h' : DevIn (wr.setCell ⟨P, 2, none⟩ (.slice none 0 0)) B P g1 g2 (.slice none 0 0) d.flush :=
    ⟨hP, hr.only o2 (fun e => h.ne1 e.symm), (h.told.only ho (fun e => h.ne e.symm)).only o2 (fun e => h.ne2 e.symm), World.ownsRow_nil _ _ _ _, h.ne, h.lo, Dev.flush_ok h.ok⟩
  exact ⟨h', h.keeps ((ho.mono (T := fun k => k = P ∨ k = g1 ∨ k = g2) (fun _ _ hk => .inr (.inl hk))).trans o2 (fun _ _ hk => .inl hk)) h' (fun k hk => by simp [Value.ownBlock] at hk)⟩

set_option maxRecDepth 1000000 in
set_option maxHeartbeats 8000000 in
theorem flush_ok {w : World} {B P : Nat} {d : Dev} (h : DevAt w B P d) (hup : d.down = false) : Calls Tryd.prog 24 #[.pointer (some ⟨P, 0, none⟩)] w fun e w' => e = .returned (.int .i64 0) ∧ DevAt w' B P d.flush ∧ Kept P w w' := by
  have HA := Lib.hid h
  obtain ⟨g1, g2, wv, h⟩ := h
  obtain ⟨c0, _, c2, _⟩ := h.cells
  obtain ⟨a, c, rfl⟩ := h.slice
  have HD := Lib.hid h
  obtain ⟨n, hn⟩ : ∃ n, n = d.lies.length := ⟨_, rfl⟩
  obtain ⟨m, hm⟩ : ∃ m, m = d.waits.length := ⟨_, rfl⟩
  have HN := Lib.hid hn
  have HM := Lib.hid hm
  have hn8 : n ≤ 8192 := by rw [hn]; exact h.ok.size
  have hmm : m ≤ 9223372036854775807 := by
    rw [hm]
    rcases h.waits.2 with ⟨_, h0⟩ | ⟨_, _, _, _, _, _, h1, h2, _⟩
    · omega
    · exact Nat.le_trans h1 h2
  rw [← hn] at c0
  rw [← hm] at c2
  clear h hn hm
  go_enter Tryd.func24, Tryd.ntmps24
  go_wp2_with (go_at_call 35; refine (down_any HA.out).mono ?_; rw [hup]; rintro e w' ⟨rfl, rfl⟩)
  clear c0 c2
  go_loopw [12] (fun i wr => ∃ k : Nat, k ≤ m ∧ i = .int .i64 k ∧ Arr wr g1 62 (u8s (laid d.lies (d.waits.take k)).flatten) ∧ Only (fun k => k = g1) w' wr) (fun i _ => m - (intOf i).toNat)
  case atStart => exact ⟨0, by omega, rfl, HD.out.lies, Only.refl _ _⟩
  case round =>
    obtain ⟨k, hk, rfl, harr, ho⟩ := hrel
    have HR := Lib.hid harr
    have HO := Lib.hid ho
    have hbP := HD.out.blk.only ho (fun e => HD.out.ne1 e)
    have c0 : wr.cell? ⟨P, 0, none⟩ = some (.slice (some ⟨g1, 0, none⟩) n n) := by rw [HN.out]; exact hbP.cell rfl
    have c2 : wr.cell? ⟨P, 2, none⟩ = some (.slice a m c) := by rw [HM.out]; exact hbP.cell rfl
    have f2 := hbP.free 2
    have HP := Lib.hid hbP
    clear harr ho hbP
    by_cases hlt : k < m
    · obtain ⟨x, hx⟩ : ∃ x, d.waits[k]? = some x := ⟨d.waits[k]'(by rw [← HM.out]; exact hlt), List.getElem?_eq_getElem _⟩
      obtain ⟨gw, c', hv, hgw, hw⟩ := HD.out.wait hx
      cases hv
      have hx2 : x.2.length = 64 := (HD.out.ok.wait x (List.mem_of_getElem? hx)).2
      have hx1 : x.1 < n := by rw [HN.out]; exact (HD.out.ok.wait x (List.mem_of_getElem? hx)).1
      have hwne : gw ≠ g1 := fun e => HD.out.neW1 (by rw [e]; rfl)
      have HW : Hid (∀ j v, (wcell x)[j]? = some v → wr.cell? ⟨gw, k * 65 + j, none⟩ = some v) := Lib.hid (fun j v hj => by
        have h1 := hw j v hj
        rw [← h1]; exact World.cell?_of_block (HO.out.block _ (cell_lt h1) hwne))
      have HSW : Hid ((Tryd.prog.info? 64).map (·.size) = some (wcell x).length) := Lib.hid (sizeW (wcell_length hx2))
      have HSS : Hid ((Tryd.prog.info? 62).map (·.size) = some (u8s x.2).length) := Lib.hid (sizeS (by rw [u8s_length]; exact hx2))
      have HX := Lib.hid hx
      have HX2 := Lib.hid hx2
      have t3 : decide ((k : Int) < (m : Int)) = true := by simp only [decide_eq_true_eq]; omega
      have e1 : IntKind.i64.wrap ((k : Int) + 1) = ((k + 1 : Nat) : Int) := by rw [IntKind.wrap_i64]; omega
      obtain ⟨at_, hat⟩ : ∃ a, a = x.1 := ⟨_, rfl⟩
      have HAT := Lib.hid hat
      rw [← hat] at hx1
      clear hw hx hx2 hat
      repeat (first | (refine wpList_load_part rfl 64 (.tmp 14) rfl gw (k * 65) rfl (wcell x) _ HW.out Tryd.underlying64 rfl HSW.out ?_) | (refine wpList_alloc_zero rfl 64 rfl zeroW (by kernel_rfl) ?_) | (refine wpList_store_part rfl 64 (.tmp 4) (.tmp 15) rfl wr.heap.size 0 (wcell x) rfl rfl 64 zeroW (arr_new wr _ zeroW) HSW.out (by rw [zeroW_length, wcell_length HX2.out]; omega) (wcell_one x) ?_; refine wpList_name ?_; intro W3 hW3) | go_values | go_skip | go_guarded | go_step | go_upon)
      simp only [Act.put, List.setIfInBounds_toArray, List.set_cons_zero, List.set_cons_succ]
      obtain ⟨L, hL⟩ : ∃ L, L = wr.heap.size := ⟨_, rfl⟩
      obtain ⟨hb3, hv3⟩ := wvar hW3.out HX2.out
      rw [← hL] at hv3 ⊢
      have HB3 := Lib.hid hb3
      have HV3 := Lib.hid hv3
      have b0 : W3.cell? ⟨P, 0, none⟩ = some (.slice (some ⟨g1, 0, none⟩) n n) := by rw [← c0]; exact World.cell?_of_block (hb3.block _ (cell_lt c0))
      obtain ⟨v0, v1⟩ := wvar_get hv3
      rw [← HAT.out] at v0
      have HV1 := Lib.hid v1
      have HR3 : Hid (Arr W3 g1 62 (u8s (laid d.lies (d.waits.take k)).flatten)) := Lib.hid (HR.out.only (only_beyond (S := fun _ => False) hb3) (fun h => h))
      clear hW3 hb3 hv3 v1 hL HW c0 c2 f2
      refine wp_region_still_tail 9 (by kernel_rfl) (by kernel_rfl) ?_
      simp only [List.take_succ_cons, List.take_zero, List.drop_succ_cons, List.drop_zero]
      iterate 7 still_step
      refine wpStill_value rfl (run_load_part _ 62 (.tmp 22) rfl L 1 rfl (u8s x.2) _ HV1.out Tryd.underlying62 rfl HSS.out) ?_
      (try simp only [Act.put, List.setIfInBounds_toArray, List.set_cons_zero, List.set_cons_succ])
      repeat still_step
      refine wpStill_nil ?_
      change wpList _ _ _ _ _ W3.drew
      have HCUR : Hid ((laid d.lies (d.waits.take k)).flatten.length = n * 64) := Lib.hid (by rw [flat_length (laid_sect HD.out.ok.sect (fun y hy => HD.out.ok.wait y (List.mem_of_mem_take hy))), laid_length, HN.out])
      have HNX : Hid ((laid d.lies (d.waits.take (k + 1))).flatten = splice (laid d.lies (d.waits.take k)).flatten (at_ * 64) x.2) := Lib.hid (by
        rw [laid_take HX.out, HAT.out, flat_set (laid_sect HD.out.ok.sect (fun y hy => HD.out.ok.wait y (List.mem_of_mem_take hy))) (by rw [laid_length, ← HN.out, ← HAT.out]; exact hx1) HX2.out])
      obtain ⟨cur, hcur⟩ : ∃ c, c = (laid d.lies (d.waits.take k)).flatten := ⟨_, rfl⟩
      rw [← hcur] at HCUR HNX HR3
      clear hcur HR
      have hmul := Nat.mul_le_mul_right 64 (show at_ + 1 ≤ n from hx1)
      refine wpList_store_part rfl 62 (.tmp 24) (.tmp 23) rfl g1 (at_ * 64) (u8s x.2) rfl rfl 62 (u8s cur) (Arr.only (w := W3) HR3.out (Only.drew (fun _ => False) W3) (fun h => h)) HSS.out (by rw [u8s_length, u8s_length, HCUR.out, HX2.out]; omega) (u8s_one _) ?_
      refine wpList_name ?_
      intro W5 hW5
      have HR5 : Hid (Arr W5 g1 62 (u8s (laid d.lies (d.waits.take (k + 1))).flatten)) := Lib.hid (by
        rw [HNX.out, ← u8s_splice, hW5.out]
        exact setRow_heap _ _ _ _ _ _ (Arr.only (w := W3) HR3.out (Only.drew (fun _ => False) W3) (fun h => h)))
      have HO5 : Hid (Only (fun k => k = g1) w' W5) := Lib.hid (by
        refine HO.out.trans (T := fun k => k = g1) ((only_beyond (S := fun k => k = g1) HB3.out).trans (T := fun k => k = g1) ?_ (fun _ _ h => h)) (fun _ _ h => h)
        rw [hW5.out]
        exact ⟨rfl, rfl, rfl, by simp, fun k hk hs => setRow_other W3.drew _ _ _ hs⟩)
      clear hW5 v0 b0
      repeat (first | go_values | go_skip | go_guarded | go_step | go_upon)
      exact ⟨⟨k + 1, by omega, by go_num, HR5.out, HO5.out⟩, by simp [intOf]; omega⟩
    · have t3 : decide ((k : Int) < (m : Int)) = false := by simp only [decide_eq_false_iff_not]; omega
      obtain rfl : k = m := by omega
      repeat (first | go_values | go_skip | go_guarded | go_step | go_upon)
      go_ret
      have hall : (laid d.lies (d.waits.take k)) = d.told := by rw [List.take_of_length_le (by rw [← HM.out]; exact Nat.le_refl _)]; rfl
      have HE := flush_end HD.out (by rw [← hall]; exact HR.out) HO.out
      exact ⟨rfl, ⟨g1, g2, _, HE.1⟩, HE.2⟩
end Go.Proofs.YtngeilhdambgfaaDoor
