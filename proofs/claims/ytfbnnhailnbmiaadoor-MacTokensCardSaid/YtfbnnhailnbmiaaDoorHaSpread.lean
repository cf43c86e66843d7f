/- A block's words, as the program spreads them. -/
import Derived.Test.YtfbnnhailnbmiaaDoorHaRot
import Derived.Test.YtfbnnhailnbmiaaDoorHaLaws
import Derived.Test.YtfbnnhailnbmiaaDoorRefL5
namespace Go.Proofs.YtfbnnhailnbmiaaDoor
open Go.RowKit

/-- a block's word, of its first i bytes -/
def pw (blk : List Nat) (i j : Nat) : Nat :=
  if i ≤ 4 * j then 0 else if i = 4 * j + 1 then blk.getD (4 * j) 0 else if i = 4 * j + 2 then blk.getD (4 * j) 0 * 256 + blk.getD (4 * j + 1) 0
  else if i = 4 * j + 3 then (blk.getD (4 * j) 0 * 256 + blk.getD (4 * j + 1) 0) * 256 + blk.getD (4 * j + 2) 0 else be32 blk j
def pws (blk : List Nat) (i : Nat) : List Nat := (List.range 64).map (pw blk i)
theorem pws_length (blk : List Nat) (i : Nat) : (pws blk i).length = 64 := by simp [pws]
theorem pws_at (blk : List Nat) (i : Nat) {j : Nat} (h : j < 64) : (pws blk i)[j]? = some (pw blk i j) := by simp [pws, h]
theorem pw_next (blk : List Nat) (i : Nat) : pw blk (i + 1) (i / 4) = pw blk i (i / 4) * 256 + blk.getD i 0 := by
  obtain ⟨j, hj⟩ : ∃ j, j = i / 4 := ⟨_, rfl⟩
  rw [← hj]
  have h : i = 4 * j ∨ i = 4 * j + 1 ∨ i = 4 * j + 2 ∨ i = 4 * j + 3 := by omega
  unfold pw be32
  rcases h with rfl | rfl | rfl | rfl
  · rw [if_neg (by omega), if_pos rfl, if_pos (by omega)]; omega
  · rw [if_neg (by omega), if_neg (by omega), if_pos (by omega), if_neg (by omega), if_pos rfl]
  · rw [if_neg (by omega), if_neg (by omega), if_neg (by omega), if_pos (by omega), if_neg (by omega), if_neg (by omega), if_pos rfl]
  · rw [if_neg (by omega), if_neg (by omega), if_neg (by omega), if_neg (by omega), if_neg (by omega), if_neg (by omega), if_neg (by omega), if_pos rfl]; omega
theorem pw_other (blk : List Nat) {i j : Nat} (h : j ≠ i / 4) : pw blk (i + 1) j = pw blk i j := by
  unfold pw
  by_cases h1 : i + 1 ≤ 4 * j
  · rw [if_pos h1, if_pos (by omega)]
  · rw [if_neg h1, if_neg (by omega), if_neg (by omega), if_neg (by omega), if_neg (by omega), if_neg (by omega), if_neg (by omega), if_neg (by omega)]
theorem pws_next (blk : List Nat) {i : Nat} (h : i < 64) : (u32s (pws blk i)).set (i / 4) (.int .u32 ((pw blk i (i / 4) * 256 + blk.getD i 0 : Nat) : Int)) = u32s (pws blk (i + 1)) := by
  apply List.ext_getElem?
  intro k
  rw [List.getElem?_set]
  simp only [u32s, List.getElem?_map, List.length_map, pws_length]
  by_cases hk : k < 64
  · rw [pws_at _ _ hk, pws_at _ _ hk]
    by_cases h2 : i / 4 = k
    · subst h2
      rw [if_pos rfl, if_pos hk, pw_next]; rfl
    · rw [if_neg h2, pw_other blk (Ne.symm h2)]
  · have e : ∀ i, (pws blk i)[k]? = none := fun i => List.getElem?_eq_none (by rw [pws_length]; omega)
    rw [e, e, if_neg (by omega)]
theorem pws_end (blk : List Nat) : pws blk 64 = fillL (sched blk 64) 64 16 := by
  apply List.ext_getElem?
  intro k
  by_cases hk : k < 64
  · rw [pws_at _ _ hk]
    by_cases h2 : k < 16
    · rw [fill_at h2 (sched_at blk (by omega : k < 64)), nextW, if_pos h2]
      unfold pw
      rw [if_neg (by omega), if_neg (by omega), if_neg (by omega), if_neg (by omega)]
    · have e : (fillL (sched blk 64) 64 16)[k]? = some 0 := by
        unfold fillL
        rw [List.getElem?_append_right (by simp [sched_length]; omega)]
        simp only [List.length_take, sched_length, List.getElem?_replicate]
        rw [if_pos (by omega)]
      rw [e]
      unfold pw
      rw [if_pos (by omega)]
  · rw [List.getElem?_eq_none (by rw [pws_length]; omega), List.getElem?_eq_none (by simp [fillL, sched_length]; omega)]
theorem pw_small {blk : List Nat} (hb : ∀ x ∈ blk, x < 256) (i : Nat) : pw blk i (i / 4) < 16777216 := by
  have h : ∀ i, blk.getD i 0 < 256 := fun i => getD_lt hb i
  have h0 := h (4 * (i / 4)); have h1 := h (4 * (i / 4) + 1); have h2 := h (4 * (i / 4) + 2)
  unfold pw
  split
  · omega
  · split
    · omega
    · split
      · omega
      · split <;> omega
theorem pws_zero (blk : List Nat) : pws blk 0 = List.replicate 64 0 := by
  apply List.ext_getElem?
  intro k
  by_cases hk : k < 64
  · rw [pws_at _ _ hk, List.getElem?_replicate, if_pos hk]; unfold pw; rw [if_pos (by omega)]
  · rw [List.getElem?_eq_none (by rw [pws_length]; omega), List.getElem?_eq_none (by simp; omega)]

set_option maxHeartbeats 8000000 in
set_option maxRecDepth 1000000 in
theorem spread_any {blk : List Nat} (hl : blk.length = 64) (hb : ∀ x ∈ blk, x < 256) (w : World) :
    Calls Tryd.prog 37 #[.agg (u8s blk).toArray] w fun e w' => e = .returned (.agg (u32s (sched blk 64)).toArray) ∧ Below w.heap.size w w' := by
  obtain ⟨b0, hb0⟩ : ∃ b, b = u8s blk := ⟨_, rfl⟩
  have hb1 : b0.length = 64 := by rw [hb0, u8s_length, hl]
  have hbat : ∀ i, i < 64 → b0[i]? = some (.int .u8 ((blk.getD i 0 : Nat) : Int)) := fun i hi => by rw [hb0]; exact u8s_getD blk i (by omega)
  rw [← hb0]
  have HBA := Lib.hid hbat
  have HB1 := Lib.hid hb1
  have HB := Lib.hid hb
  have HL := Lib.hid hl
  clear hb0 hb1 hbat hb hl
  go_enter Tryd.func37, Tryd.ntmps37
  iterate 23 (first | go_values | go_skip | go_guarded | go_step)
  refine wpList_name ?_
  intro W1 hW1
  have HW1 : Hid (Arr W1 w.heap.size 34 b0) := Lib.hid (by rw [hW1.out]; exact ((arr_new w _ b0).alloc _).alloc _)
  obtain ⟨PR, hPR⟩ : ∃ p, p = w.heap.size + 1 := ⟨_, rfl⟩
  obtain ⟨PW, hPW⟩ : ∃ p, p = w.heap.size + 1 + 1 := ⟨_, rfl⟩
  rw [← hPW, ← hPR]
  have H0 : Hid (Arr W1 PW 51 (u32s (pws blk 0))) := Lib.hid (by rw [hW1.out, pws_zero, hPW]; have h := arr_new ((w.alloc (.cells b0.toArray 34)).alloc (.cells (u32s (List.replicate 64 0)).toArray 51)) 51 (u32s (List.replicate 64 0)); simp only [World.size_alloc] at h; exact h)
  have H1 : Hid (Arr W1 PR 51 (u32s (List.replicate 64 0))) := Lib.hid (by rw [hW1.out, hPR]; have h := (arr_new (w.alloc (.cells b0.toArray 34)) 51 (u32s (List.replicate 64 0))).alloc (.cells (u32s (List.replicate 64 0)).toArray 51); simp only [World.size_alloc] at h; exact h)
  have HBW : Hid (Below w.heap.size w W1) := Lib.hid (by rw [hW1.out]; exact (((Below.refl _ _).alloc (Nat.le_refl _) _).alloc (by simp) _).alloc (by simp; omega) _)
  have hz1 : W1.heap.size = PW + 1 := by rw [hW1.out, hPW]; simp
  have hzR : PR < PW := by omega
  have hzA : w.heap.size < PR := by omega
  have HPR := Lib.hid hPR
  clear hW1 hPR hPW
  refine wpList_load_row rfl 34 (.tmp 1) rfl w.heap.size rfl 34 b0.toArray (0, 0) _ HW1.out Tryd.underlying34 rfl (by rw [show b0.toArray.size = 64 from HB1.out]; kernel_rfl) ?_
  repeat (first | go_values | go_skip | go_guarded | go_step | go_upon)
  go_loopw [10] (fun c wr => ∃ i : Nat, i ≤ 64 ∧ c = .int .i64 i ∧ Arr wr PW 51 (u32s (pws blk i)) ∧ Only (fun k => k = PW) W1 wr) (fun c _ => 64 - (intOf c).toNat)
  case atStart => exact ⟨0, by omega, rfl, H0.out, Only.refl _ _⟩
  case round =>
    obtain ⟨i, hi, rfl, harr, ho⟩ := hrel
    have HA := Lib.hid harr
    have HO := Lib.hid ho
    clear harr ho
    by_cases hlt : i < 64
    · have t1 : decide ((i : Int) < 64) = true := by simp only [decide_eq_true_eq]; omega
      have hti : (i : Int) < 64 := by omega
      have hpw := pw_small HB.out i
      have HN := Lib.hid (pws_next blk hlt)
      have hbl : blk.getD i 0 < 256 := getD_lt HB.out i
      have hbat := HBA.out i hlt
      have c1 := HA.out.cell (u32s_at (pws_at blk i (by omega : i / 4 < 64)))
      have q1 := HA.out.free (i / 4)
      obtain ⟨x, hx⟩ : ∃ x, x = pw blk i (i / 4) := ⟨_, rfl⟩
      obtain ⟨y, hy⟩ : ∃ y, y = blk.getD i 0 := ⟨_, rfl⟩
      rw [← hx] at hpw c1 HN
      rw [← hy] at hbl hbat HN
      have HBAT := Lib.hid hbat
      clear hx hy hbat
      have o1 : bits .or .u32 ((x : Int) * 256) (y : Int) = ((x * 256 + y : Nat) : Int) := by
        rw [show (x : Int) * 256 = ((x * 256 : Nat) : Int) by omega, u32_or_nat _ _ (by omega) (by omega), nat_join 8 _ _ (by omega) (by omega)]
      repeat (first | (refine wpList_index_one rfl 34 (.tmp 9) (.tmp 10) rfl b0 .i64 i _ rfl rfl 64 5 _ Tryd.underlying34 Tryd.underlying5 rfl (by kernel_rfl) hlt HBAT.out ?_) | go_values | go_skip | go_guarded | go_step | go_upon)
      go_roundw
      case rel => exact ⟨i + 1, by omega, by go_num, by have h := HA.out.set (i / 4) (.int .u32 ((x * 256 + y : Nat) : Int)); rw [HN.out] at h; simpa using h, HO.out.trans (Only.setCell (S := fun k => k = PW) wr (p := ⟨PW, i / 4, none⟩) rfl _) (fun _ _ h => h)⟩
      case measure => simp [intOf]; omega
    · have t1 : decide ((i : Int) < 64) = false := by simp only [decide_eq_false_iff_not]; omega
      have hi64 : i = 64 := by omega
      rw [hi64, pws_end] at HA
      clear hlt hi H0 hi64
      obtain ⟨Wl, hWl⟩ : ∃ W, W = wr := ⟨_, rfl⟩
      subst hWl
      repeat (first | go_values | go_skip | go_guarded | go_step | go_upon)
      go_loopw [6] (fun c wr => ∃ t : Nat, 16 ≤ t ∧ t ≤ 64 ∧ c = .int .i64 t ∧ Arr wr PW 51 (u32s (fillL (sched blk 64) 64 t)) ∧ Only (fun k => k = PW) W1 wr) (fun c _ => 64 - (intOf c).toNat)
      case atStart => exact ⟨16, by omega, by omega, rfl, HA.out, HO.out⟩
      case round =>
        obtain ⟨t, ht16, ht, rfl, harr, ho⟩ := hrel
        clear HA HO t1
        have HA := Lib.hid harr
        have HO := Lib.hid ho
        clear harr ho
        have HS64 : Hid ((sched blk 64).length = 64) := Lib.hid (sched_length _ _)
        by_cases hlt64 : t < 64
        · have HSAT := Lib.hid (sched_at blk hlt64)
          obtain ⟨o11, ho11⟩ : ∃ u, wr.cell? ⟨PW, t, none⟩ = some u := ⟨_, HA.out.cell (List.getElem?_eq_getElem (by simp [u32s, fillL, HS64.out]; omega))⟩
          have h16 : ¬ t < 16 := by omega
          have t64 : decide ((t : Int) < 64) = true := by simp only [decide_eq_true_eq]; omega
          have hti : (t : Int) < 64 := by omega
          have HFA : Hid (∀ k x, k < t → (sched blk t)[k]? = some x → wr.cell? ⟨PW, k, none⟩ = some (.int .u32 (x : Int))) := Lib.hid fun k x hk hx => HA.out.cell (u32s_at (fill_at hk (by rw [sched_at blk (by omega : k < 64)]; rw [sched_at blk hk] at hx; exact hx)))
          have hsl := sched_length blk t
          obtain ⟨j15, hj15⟩ : ∃ j, j = t - 15 := ⟨_, rfl⟩
          obtain ⟨j2, hj2⟩ : ∃ j, j = t - 2 := ⟨_, rfl⟩
          obtain ⟨j7, hj7⟩ : ∃ j, j = t - 7 := ⟨_, rfl⟩
          obtain ⟨j16, hj16⟩ : ∃ j, j = t - 16 := ⟨_, rfl⟩
          obtain ⟨a15, h15⟩ : ∃ x, (sched blk t)[j15]? = some x := ⟨_, List.getElem?_eq_getElem (by omega)⟩
          obtain ⟨a2, h2⟩ : ∃ x, (sched blk t)[j2]? = some x := ⟨_, List.getElem?_eq_getElem (by omega)⟩
          obtain ⟨a7, h7⟩ : ∃ x, (sched blk t)[j7]? = some x := ⟨_, List.getElem?_eq_getElem (by omega)⟩
          obtain ⟨a16, h16'⟩ : ∃ x, (sched blk t)[j16]? = some x := ⟨_, List.getElem?_eq_getElem (by omega)⟩
          have d15 := HFA.out j15 a15 (by omega) h15
          have d2 := HFA.out j2 a2 (by omega) h2
          have d7 := HFA.out j7 a7 (by omega) h7
          have d16 := HFA.out j16 a16 (by omega) h16'
          have l15 := sched_lt HB.out h15
          have l2 := sched_lt HB.out h2
          have l7 := sched_lt HB.out h7
          have l16 := sched_lt HB.out h16'
          have w15 : IntKind.i64.wrap ((t : Int) - 15) = (j15 : Int) := by rw [IntKind.wrap_i64]; omega
          have w2' : IntKind.i64.wrap ((t : Int) - 2) = (j2 : Int) := by rw [IntKind.wrap_i64]; omega
          have w7 : IntKind.i64.wrap ((t : Int) - 7) = (j7 : Int) := by rw [IntKind.wrap_i64]; omega
          have w16 : IntKind.i64.wrap ((t : Int) - 16) = (j16 : Int) := by rw [IntKind.wrap_i64]; omega
          have b15 : (j15 : Int) < 64 := by omega
          have b2 : (j2 : Int) < 64 := by omega
          have b7 : (j7 : Int) < 64 := by omega
          have b16 : (j16 : Int) < 64 := by omega
          have r7 : ∀ W, Calls Tryd.prog 38 #[.int .u32 (a15 : Int), .int .i64 7] W fun e w' => e = .returned (.int .u32 ((rotr a15 7 : Nat) : Int)) ∧ w' = W := fun W => right_any (k := 7) l15 (by omega) (by omega) W
          have HR7 := Lib.hid r7
          have r18 : ∀ W, Calls Tryd.prog 38 #[.int .u32 (a15 : Int), .int .i64 18] W fun e w' => e = .returned (.int .u32 ((rotr a15 18 : Nat) : Int)) ∧ w' = W := fun W => right_any (k := 18) l15 (by omega) (by omega) W
          have HR18 := Lib.hid r18
          have r17 : ∀ W, Calls Tryd.prog 38 #[.int .u32 (a2 : Int), .int .i64 17] W fun e w' => e = .returned (.int .u32 ((rotr a2 17 : Nat) : Int)) ∧ w' = W := fun W => right_any (k := 17) l2 (by omega) (by omega) W
          have HR17 := Lib.hid r17
          have r19 : ∀ W, Calls Tryd.prog 38 #[.int .u32 (a2 : Int), .int .i64 19] W fun e w' => e = .returned (.int .u32 ((rotr a2 19 : Nat) : Int)) ∧ w' = W := fun W => right_any (k := 19) l2 (by omega) (by omega) W
          have HR19 := Lib.hid r19
          obtain ⟨p0, hp0⟩ : ∃ p, p = rotr a15 7 ^^^ rotr a15 18 := ⟨_, rfl⟩
          obtain ⟨s0, hs0⟩ : ∃ p, p = sig0 a15 := ⟨_, rfl⟩
          obtain ⟨p1, hp1⟩ : ∃ p, p = rotr a2 17 ^^^ rotr a2 19 := ⟨_, rfl⟩
          obtain ⟨s1, hs1⟩ : ∃ p, p = sig1 a2 := ⟨_, rfl⟩
          have x0 : bits .xor .u32 ((rotr a15 7 : Nat) : Int) ((rotr a15 18 : Nat) : Int) = (p0 : Int) := by rw [u32_xor_nat _ _ (rotr_lt l15) (rotr_lt l15), hp0]
          have x1 : bits .xor .u32 (p0 : Int) ((a15 : Int) / 8) = (s0 : Int) := by
            rw [show (a15 : Int) / 8 = ((a15 / 8 : Nat) : Int) by omega, u32_xor_nat _ _ (by rw [hp0]; exact xor_lt (rotr_lt l15) (rotr_lt l15)) (by omega), hs0, hp0]; rfl
          have x2 : bits .xor .u32 ((rotr a2 17 : Nat) : Int) ((rotr a2 19 : Nat) : Int) = (p1 : Int) := by rw [u32_xor_nat _ _ (rotr_lt l2) (rotr_lt l2), hp1]
          have x3 : bits .xor .u32 (p1 : Int) ((a2 : Int) / 1024) = (s1 : Int) := by
            rw [show (a2 : Int) / 1024 = ((a2 / 1024 : Nat) : Int) by omega, u32_xor_nat _ _ (by rw [hp1]; exact xor_lt (rotr_lt l2) (rotr_lt l2)) (by omega), hs1, hp1]; rfl
          obtain ⟨q1, hq1⟩ : ∃ p, p = (a16 + a7) % 4294967296 := ⟨_, rfl⟩
          obtain ⟨q2, hq2⟩ : ∃ p, p = (q1 + s0) % 4294967296 := ⟨_, rfl⟩
          obtain ⟨y, hy⟩ : ∃ y, y = nextW blk (sched blk t) t := ⟨_, rfl⟩
          have hy2 : y = (q2 + s1) % 4294967296 := by
            rw [hy, nextW, if_neg h16, moreW, ← hj2, ← hj7, ← hj15, ← hj16]
            simp only [List.getD, h15, h2, h7, h16', Option.getD_some]
            rw [← hs1, ← hs0, hq2, hq1]; omega
          have y1 : IntKind.u32.wrap ((a16 : Int) + a7) = (q1 : Int) := by rw [IntKind.wrap_u32, hq1]; omega
          have y2 : IntKind.u32.wrap ((q1 : Int) + s0) = (q2 : Int) := by rw [IntKind.wrap_u32, hq2]; omega
          have y3 : IntKind.u32.wrap ((q2 : Int) + s1) = (y : Int) := by rw [IntKind.wrap_u32, hy2]; omega
          rw [← hy] at HSAT
          clear hsl hj15 hj2 hj7 hj16 h15 h2 h7 h16' r7 r18 r17 r19 hp0 hs0 hp1 hs1 hq1 hq2 hy hy2 l15 l2 l7 l16 hlt64 h16
          repeat (first | go_values | go_skip | go_guarded | go_step | go_upon)
          go_quiet (fail)
          obtain ⟨V1, hwV1⟩ : ∃ W, W = wr.drewN nq := ⟨_, rfl⟩
          have d7V1 : V1.cell? ⟨PW, j7, none⟩ = some (.int .u32 (a7 : Int)) := by rw [hwV1]; exact d7
          have d16V1 : V1.cell? ⟨PW, j16, none⟩ = some (.int .u32 (a16 : Int)) := by rw [hwV1]; exact d16
          have ho11V1 : V1.cell? ⟨PW, t, none⟩ = some o11 := by rw [hwV1]; exact ho11
          rw [← hwV1]
          have HAV1 : Hid (Arr V1 PW 51 (u32s (fillL (sched blk 64) 64 t)) ∧ Only (fun k => k = PW) W1 V1) := Lib.hid (by rw [hwV1]; exact ⟨HA.out, HO.out.trans (only_drewN (fun _ => False) wr _) (fun _ _ h => h.elim)⟩)
          clear hwV1 d15 d2 d7 d16 ho11 w15 w2' b15 b2
          repeat (first | go_values | go_skip | go_guarded | go_step | go_upon)
          refine wp_region_still_tail 28 (by kernel_rfl) (by kernel_rfl) ?_
          simp only [List.take_succ_cons, List.take_zero, List.drop_succ_cons, List.drop_zero]
          repeat still_step
          still_call (HR7.out _)
          repeat still_step
          still_call (HR18.out _)
          repeat still_step
          still_call (HR17.out _)
          repeat still_step
          still_call (HR19.out _)
          repeat still_step
          refine wpStill_nil ?_
          obtain ⟨V3, hwV3⟩ : ∃ W, W = V1.drew := ⟨_, rfl⟩
          have ho11V3 : V3.cell? ⟨PW, t, none⟩ = some o11 := by rw [hwV3]; exact ho11V1
          change wpList _ _ _ _ _ V1.drew
          rw [← hwV3]
          have HAV3 : Hid (Arr V3 PW 51 (u32s (fillL (sched blk 64) 64 t)) ∧ Only (fun k => k = PW) W1 V3) := Lib.hid (by rw [hwV3]; exact ⟨HAV1.out.1, HAV1.out.2.trans (Only.drew (fun _ => False) V1) (fun _ _ h => h.elim)⟩)
          have qV3 : V3.frozen? ⟨PW, t, none⟩ = false := HAV3.out.1.free t
          clear hwV3 d7V1 d16V1 ho11V1
          repeat (first | go_values | go_skip | go_guarded | go_step | go_upon)
          go_roundw
          case rel => exact ⟨t + 1, by omega, by omega, by go_num, by rw [← fill_set (by omega) HSAT.out]; exact HAV3.out.1.set t _, HAV3.out.2.trans (Only.setCell (S := fun k => k = PW) V3 (p := ⟨PW, t, none⟩) rfl _) (fun _ _ h => h)⟩
          case measure => simp [intOf]; omega
        · have t64 : decide ((t : Int) < 64) = false := by simp only [decide_eq_false_iff_not]; omega
          have ht64 : t = 64 := by omega
          rw [ht64, fill_full HS64.out] at HA
          clear ht64
          have H1' : Hid (Arr wr PR 51 (u32s (List.replicate 64 0))) := Lib.hid (H1.out.only HO.out (by omega))
          have HBE : Hid (Below w.heap.size w wr) := Lib.hid (HBW.out.trans (HO.out.below (by omega) (fun k hk => by have := HPR.out; omega)))
          have HAL : Hid ((u32s (sched blk 64)).toArray.size = 64) := Lib.hid (by simp [u32s, HS64.out])
          obtain ⟨L, hL⟩ : ∃ L, L = u32s (sched blk 64) := ⟨_, rfl⟩
          rw [← hL] at HA HAL
          have HI : Hid ((Tryd.prog.info? 51).map (·.size) = some L.toArray.size) := Lib.hid (by rw [HAL.out]; kernel_rfl)
          have HALL : Hid (L.toArray.all (·.oneCell') = true) := Lib.hid (by rw [hL]; exact all_one (u32s_one _))
          have HSZ : Hid ((u32s (List.replicate 64 0)).toArray.size = L.toArray.size) := Lib.hid (by rw [HAL.out]; simp [u32s])
          have HLL := Lib.hid hL
          clear ht ht16 hlt64 hL
          repeat (first | (refine wpList_load_row rfl 51 (.tmp 3) rfl PW rfl 51 L.toArray (0, 0) _ HA.out Tryd.underlying51 rfl HI.out ?_) | (refine wpList_store_row rfl 51 (.tmp 2) (.tmp 67) rfl PR L.toArray rfl rfl 51 (u32s (List.replicate 64 0)).toArray H1'.out HI.out HSZ.out HALL.out ?_) | go_values | go_skip | go_guarded | go_step | go_upon)
          (try simp only [Exit.inBlock, Exit.then])
          refine bodyPost_ret (results_cell_row rfl _ _ PR 51 L.toArray (0, 0) _ rfl (setRow_heap wr PR _ L.toArray _ _ H1'.out) Tryd.underlying51 rfl HI.out) rfl ?_
          exact ⟨by rw [HLL.out], below_setRow HBE.out (by omega) _⟩
end Go.Proofs.YtfbnnhailnbmiaaDoor
