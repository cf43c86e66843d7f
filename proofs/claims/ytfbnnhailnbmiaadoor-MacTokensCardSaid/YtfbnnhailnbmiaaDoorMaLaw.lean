/- The laws' own code of a key and bytes. -/
import Derived.Test.YtfbnnhailnbmiaaDoorMaCode
namespace Go.Proofs.YtfbnnhailnbmiaaDoor
open Go.RowKit

theorem getD_end {l : List Nat} {i : Nat} (h : l.length ≤ i) : l.getD i 0 = 0 := by rw [List.getD, List.getElem?_eq_none h]; rfl
def Apart (v u : Value) : Prop := ∀ k, v.ownBlock = some k → u.ownBlock ≠ some k
theorem one_lie (w : World) (x : Nat) : Lies (w.alloc (.cells #[.int .u8 (x : Int)] 5)) (.slice (some ⟨w.heap.size, 0, none⟩) 1 1) [x] := by
  refine .inr (.inr ⟨w.heap.size, 0, 1, rfl, fun j hj => ?_⟩)
  obtain rfl : j = 0 := by simpa using hj
  rw [cell_of_row _ w.heap.size (0 + 0) _ _ _ (heap_alloc_new w _)]
  rfl
theorem Apart.alt {v u v' : Value} (h : Apart v u) (n : Nat) (hv : v'.ownBlock = v.ownBlock ∨ v'.ownBlock = some n) (hn : ∀ k, u.ownBlock = some k → k < n) : Apart v' u := fun k hk hu => by
  rcases hv with e | e
  · exact h k (by rw [← e]; exact hk) hu
  · rw [e] at hk; cases hk; have := hn _ hu; omega
theorem Apart.symm {v u : Value} (h : Apart v u) : Apart u v := fun k hk hv => h k hv hk
theorem xorB_take {x : Nat} {l : List Nat} {i : Nat} (h : i < l.length) : xorB x (l.take (i + 1)) = xorB x (l.take i) ++ [l.getD i 0 ^^^ x] := by
  have e : l.getD i 0 = l[i] := by simp [List.getD, h]
  rw [e, List.take_succ_eq_append_getElem h, xorB, xorB, List.map_append]
  rfl
theorem key_at {k : List Nat} {i : Nat} : (k ++ List.replicate (64 - k.length) 0).getD i 0 = k.getD i 0 := by
  simp only [List.getD]
  by_cases h : i < k.length
  · rw [List.getElem?_append_left h]
  · rw [List.getElem?_append_right (by omega), List.getElem?_eq_none (l := k) (by omega), List.getElem?_replicate]
    split <;> rfl

set_option maxHeartbeats 16000000 in
set_option maxRecDepth 1000000 in
theorem lcode_any {w : World} {vk vb : Value} {key bs : List Nat} (hk : Lies w vk key) (hkb : ∀ y ∈ key, y < 256) (hkn : key.length ≤ 200) (hv : Lies w vb bs) (hb : ∀ y ∈ bs, y < 256) (hn : bs.length ≤ 200) :
    Calls Tryd.prog 9 #[vk, vb] w fun e w' => e = .returned (.agg (u8s (codeB key bs)).toArray) ∧ Below w.heap.size w w' := by
  obtain ⟨L, hL⟩ : ∃ L, L = u8s (codeB key bs) := ⟨_, rfl⟩
  obtain ⟨D, hD⟩ : ∃ D, D = u8s (digest (xorB 54 (keyB key) ++ bs)) := ⟨_, rfl⟩
  have hLz : L.toArray.size = 32 := by rw [hL]; simp [u8s_length, codeB_len]
  have hDz : D.toArray.size = 32 := by rw [hD]; simp [u8s_length, dig_len]
  rw [← hL]
  have HI32 : Hid ((Tryd.prog.info? 24).map (·.size) = some L.toArray.size) := Lib.hid (by rw [hLz]; kernel_rfl)
  have HAL32 : Hid (L.toArray.all (·.oneCell') = true) := Lib.hid (by rw [hL]; exact all_one (u8s_one _))
  have HSZ32 : Hid ((u8s (List.replicate 32 0)).toArray.size = L.toArray.size) := Lib.hid (by rw [hLz]; rfl)
  have HD32 : Hid ((Tryd.prog.info? 24).map (·.size) = some D.toArray.size) := Lib.hid (by rw [hDz]; kernel_rfl)
  have HDAL : Hid (D.toArray.all (·.oneCell') = true) := Lib.hid (by rw [hD]; exact all_one (u8s_one _))
  have HDSZ : Hid ((u8s (List.replicate 32 0)).toArray.size = D.toArray.size) := Lib.hid (by rw [hDz]; rfl)
  have HV := Lib.hid hv
  have HB := Lib.hid hb
  have HN := Lib.hid hn
  obtain ⟨B, hB⟩ : ∃ B, B = keyB key := ⟨_, rfl⟩
  have HBL : Hid (B.length = 64) := Lib.hid (by rw [hB, keyB_len])
  have HBB : Hid (∀ y ∈ B, y < 256) := Lib.hid (by rw [hB]; exact keyB_lt hkb)
  have HIN : Hid (∀ W v, Lies W v (xorB 54 B ++ bs) → Calls Tryd.prog 15 #[v] W fun e w' => e = .returned (.agg D.toArray) ∧ Below W.heap.size W w') := Lib.hid fun W v h => by
    rw [hD, ← hB]
    refine rsum_any h (fun y hy => ?_) (by rw [List.length_append, xorB_len, HBL.out]; omega)
    rcases List.mem_append.1 hy with h | h
    · exact xorB_lt (by decide) HBB.out y h
    · exact hb y h
  have HDU : Hid (u8s (digest (xorB 54 B ++ bs)) = D) := Lib.hid (by rw [hD, hB])
  obtain ⟨dd, hdd⟩ : ∃ d, d = digest (xorB 54 B ++ bs) := ⟨_, rfl⟩
  have HDD : Hid (D = u8s dd) := Lib.hid (by rw [hdd]; exact HDU.out.symm)
  have HDDL : Hid (dd.length = 32) := Lib.hid (by rw [hdd, dig_len])
  have HOUT : Hid (∀ W v, Lies W v (xorB 92 B ++ dd) → Calls Tryd.prog 15 #[v] W fun e w' => e = .returned (.agg L.toArray) ∧ Below W.heap.size W w') := Lib.hid fun W v h => by
    rw [hL, codeB, ← hB, ← hdd]
    refine rsum_any h (fun y hy => ?_) (by rw [List.length_append, xorB_len, HBL.out, HDDL.out]; decide)
    rcases List.mem_append.1 hy with h | h
    · exact xorB_lt (by decide) HBB.out y h
    · rw [hdd] at h; exact dig_lt _ y h
  obtain ⟨iU, hiU, hzU, hsU, hbU⟩ : ∃ i, Tryd.prog.info? 5 = some i ∧ i.zero = some (.int .u8 0) ∧ i.size = 1 ∧ i.bytes = 1 := by
    have h := infoU8
    cases hi : Tryd.prog.info? 5 with
    | none => rw [hi] at h; simp at h
    | some i => rw [hi] at h; simp at h; exact ⟨i, rfl, h.1, h.2.1, h.2.2⟩
  obtain ⟨a, c, rfl, _⟩ := lies_form hk
  by_cases hlong : 64 < key.length
  · have t1 : decide (64 < (key.length : Int)) = true := by simp only [decide_eq_true_eq]; omega
    have tk : (64 : Int) < (key.length : Int) := by omega
    obtain ⟨kk, hkk⟩ : ∃ k, k = digest key := ⟨_, rfl⟩
    have hkl : kk.length = 32 := by rw [hkk, dig_len]
    obtain ⟨KD, hKD⟩ : ∃ K, K = u8s kk := ⟨_, rfl⟩
    have hKz : KD.toArray.size = 32 := by rw [hKD]; simp [u8s_length, hkl]
    have HK32 : Hid ((Tryd.prog.info? 24).map (·.size) = some KD.toArray.size) := Lib.hid (by rw [hKz]; kernel_rfl)
    have HKAL : Hid (KD.toArray.all (·.oneCell') = true) := Lib.hid (by rw [hKD]; exact all_one (u8s_one _))
    have HKSZ : Hid ((u8s (List.replicate 32 0)).toArray.size = KD.toArray.size) := Lib.hid (by rw [hKz]; rfl)
    have HKS : Hid (∀ W, Below w.heap.size w W → Calls Tryd.prog 15 #[.slice a key.length c] W fun e w' => e = .returned (.agg KD.toArray) ∧ Below W.heap.size W w') := Lib.hid fun W hW => by rw [hKD, hkk]; exact rsum_any (lies_keep hk hW) hkb (by omega)
    have HKB : Hid (∀ i, B.getD i 0 = kk.getD i 0) := Lib.hid fun i => by rw [hB, ← keyB_long hlong, ← hkk, key_at]
    have HKU := Lib.hid hKD
    have HKL := Lib.hid hkl
    obtain ⟨n0, hn0⟩ : ∃ n, n = key.length := ⟨_, rfl⟩
    rw [← hn0] at t1 tk HKS ⊢
    clear hL hLz hD hDz hB hdd hk hkb hkn hv hb hn hlong hkk hKD hKz hn0 HDU hkl
    go_enter Tryd.func9, Tryd.ntmps9
    repeat (first | (refine wpList_alloc_zero rfl 24 rfl (u8s (List.replicate 32 0)) (by kernel_rfl) ?_) | (go_at_call 15; refine calls_name ?_; intro W0 hW0; have HR0 := Lib.hid (show Arr W0 w.heap.size 24 (u8s (List.replicate 32 0)) by rw [hW0.out]; exact arr_new _ _ _); have HB0 := Lib.hid (show Below w.heap.size w W0 by rw [hW0.out]; exact (Below.refl _ _).alloc (Nat.le_refl _) _); clear hW0; refine (HKS.out W0 HB0.out).mono ?_; rintro e W1 ⟨rfl, hb1⟩; have HR1 := Lib.hid (HR0.out.only (only_beyond (S := fun _ => False) hb1) (fun h => h)); have HB1 := Lib.hid (HB0.out.trans (hb1.mono HB0.out.size)); clear hb1; dsimp only) | (refine wpList_store_row rfl 24 (.tmp 5) (.tmp 15) rfl W1.heap.size KD.toArray rfl rfl 24 (u8s (List.replicate 32 0)).toArray (arr_new W1 _ (u8s (List.replicate 32 0))) HK32.out HKSZ.out HKAL.out ?_; refine wpList_name ?_; intro W2 hW2; have HKA := Lib.hid (show Arr W2 W1.heap.size 24 KD by rw [hW2.out]; exact Arr.stored (arr_new W1 _ (u8s (List.replicate 32 0)))); have HB12 := Lib.hid (show Below W1.heap.size W1 W2 by rw [hW2.out]; exact below_setRow ((Below.refl _ _).alloc (Nat.le_refl _) _) (Nat.le_refl _) _); have HR2 := Lib.hid (HR1.out.only (only_beyond (S := fun _ => False) HB12.out) (fun h => h)); have HB2 := Lib.hid (HB1.out.trans (HB12.out.mono HB1.out.size)); clear hW2) | go_values | go_skip | go_guarded | go_step | go_upon)
    have HKK : Hid (∀ i, i < 32 → ∃ b o, (some ⟨W1.heap.size, 0, none⟩ : Option Addr) = some ⟨b, o, none⟩ ∧ W2.cell? ⟨b, o + i, none⟩ = some (.int .u8 ((B.getD i 0 : Nat) : Int)) ∧ b < W2.heap.size) := Lib.hid fun i hi => ⟨_, _, rfl, by rw [Nat.zero_add, HKB.out i]; exact HKA.out.cell (by rw [HKU.out]; exact u8s_getD kk i (by rw [HKL.out]; exact hi)), HKA.out.lt⟩
    obtain ⟨a0, ha0⟩ : ∃ a, a = (some ⟨W1.heap.size, 0, none⟩ : Option Addr) := ⟨_, rfl⟩
    obtain ⟨m, hm⟩ : ∃ m, m = 32 := ⟨_, rfl⟩
    have HTAIL : Hid (∀ i, 32 ≤ i → B.getD i 0 = 0) := Lib.hid fun i hi => by rw [HKB.out i]; exact getD_end (by rw [HKL.out]; exact hi)
    rw [← hm] at HKK HTAIL
    rw [← ha0] at HKK
    have hm64 : m ≤ 64 := by omega
    rw [show (Value.slice (some ⟨W1.heap.size, 0, none⟩) 32 32) = Value.slice a0 m 32 by rw [ha0, hm]]
    clear ha0 hm
    clear HKA HKU HKB HKL
    go_loopw [6, 7, 17] (fun v6 v7 c wr => ∃ i : Nat, i ≤ 64 ∧ c = .int .i64 i ∧ wr.ownsRow W2.heap.size 5 1 v6 i (u8s (xorB 54 (B.take i))) ∧ wr.ownsRow W2.heap.size 5 1 v7 i (u8s (xorB 92 (B.take i))) ∧ Apart v6 v7 ∧ Below W2.heap.size W2 wr) (fun _ _ c _ => 64 - (intOf c).toNat)
    case atStart => exact ⟨0, by omega, rfl, ⟨rfl, .inl ⟨rfl, rfl⟩⟩, ⟨rfl, .inl ⟨rfl, rfl⟩⟩, fun k h => by simp [Value.ownBlock] at h, Below.refl _ _⟩
    case round =>
      obtain ⟨i, hi, rfl, ho6, ho7, hap, hbw⟩ := hrel
      have HO6 := Lib.hid ho6
      have HO7 := Lib.hid ho7
      have HAP := Lib.hid hap
      have HBW := Lib.hid hbw
      clear ho6 ho7 hap hbw t1
      by_cases hlt : i < 64
      · have t3 : decide ((i : Int) < 64) = true := by simp only [decide_eq_true_eq]; omega
        have hti : (i : Int) < 64 := by omega
        obtain ⟨x, hx⟩ : ∃ x, x = B.getD i 0 := ⟨_, rfl⟩
        have hx256 : x < 256 := by rw [hx]; exact getD_byte HBB.out i
        obtain ⟨y, hy⟩ : ∃ y, y = x ^^^ 54 := ⟨_, rfl⟩
        obtain ⟨z, hz⟩ : ∃ z, z = x ^^^ 92 := ⟨_, rfl⟩
        have e1 : bits .xor .u8 (x : Int) 54 = (y : Int) := by rw [show (54 : Int) = ((54 : Nat) : Int) from rfl, u8_xor_nat x 54 hx256 (by decide), hy]
        have e2 : bits .xor .u8 (x : Int) 92 = (z : Int) := by rw [show (92 : Int) = ((92 : Nat) : Int) from rfl, u8_xor_nat x 92 hx256 (by decide), hz]
        have HX6 : Hid (xorB 54 (B.take (i + 1)) = xorB 54 (B.take i) ++ [y]) := Lib.hid (by rw [xorB_take (by rw [HBL.out]; exact hlt), ← hx, hy])
        have HX7 : Hid (xorB 92 (B.take (i + 1)) = xorB 92 (B.take i) ++ [z]) := Lib.hid (by rw [xorB_take (by rw [HBL.out]; exact hlt), ← hx, hz])
        have HLO : Hid (xorB 54 (B.take i) = xorB 54 (B.take i)) := Lib.hid rfl
        by_cases him : i < m
        · obtain ⟨b0, o0, rfl, hc, hb0⟩ := HKK.out i him
          have d1 : wr.cell? ⟨b0, o0 + i, none⟩ = some (.int .u8 (x : Int)) := by rw [hx, ← hc]; exact HBW.out.cell (p := ⟨b0, o0 + i, none⟩) hb0
          have t4 : decide ((i : Int) < (m : Int)) = true := by simp only [decide_eq_true_eq]; omega
          have htm : (i : Int) < (m : Int) := by omega
          clear hx hy hz hc
          repeat (first | (refine wpList_append_bytes _ rfl (.tmp 28) (.tmp 31) 22 rfl W2.heap.size 5 iU Tryd.underlying22 hiU hzU hsU hbU _ i (u8s (xorB 54 (B.take i))) (by rfl) (row_only HO6.out (Only.alloc (fun _ => False) wr _) (fun _ _ h => h)) _ [y] (by rfl) (one_lie wr y) (by simp; omega) (by have := HBW.out.size; simp; omega) ?_; intro v8 W8 hown hg hwh; have HO8 := Lib.hid (show W8.ownsRow W2.heap.size 5 1 v8 (i + 1) (u8s (xorB 54 (B.take (i + 1)))) by rw [HX6.out, u8s_append]; exact hown); have HO78 := Lib.hid (row_only (row_only HO7.out (Only.alloc (fun _ => False) wr _) (fun _ _ h => h)) (Only.grown hg) (fun k h7 h6 => HAP.out k h6 h7)); have HAP8 : Hid (Apart v8 u7) := Lib.hid (HAP.out.alt (wr.heap.size + 1) (by simpa using hwh) (fun k hk => by have := (HO7.out.lt k hk).2; omega)); have HBW8 : Hid (Below W2.heap.size W2 W8) := Lib.hid ((HBW.out.alloc HBW.out.size _).grown hg (by have := HBW.out.size; simp; omega) (fun k hk => (HO6.out.lt k hk).1)); clear hown hg hwh) | (refine wpList_append_bytes _ rfl (.tmp 33) (.tmp 36) 22 rfl W2.heap.size 5 iU Tryd.underlying22 hiU hzU hsU hbU _ i (u8s (xorB 92 (B.take i))) (by rfl) (row_only HO78.out (Only.alloc (fun _ => False) W8 _) (fun _ _ h => h)) _ [z] (by rfl) (one_lie W8 z) (by simp; omega) (by have := HBW8.out.size; simp; omega) ?_; intro v9 W9 hown hg hwh; have HO9 := Lib.hid (show W9.ownsRow W2.heap.size 5 1 v9 (i + 1) (u8s (xorB 92 (B.take (i + 1)))) by rw [HX7.out, u8s_append]; exact hown); have HO89 := Lib.hid (row_only (row_only HO8.out (Only.alloc (fun _ => False) W8 _) (fun _ _ h => h)) (Only.grown hg) (fun k h8 h7 => HAP8.out k h8 h7)); have HAP9 : Hid (Apart v8 v9) := Lib.hid (HAP8.out.symm.alt (W8.heap.size + 1) (by simpa using hwh) (fun k hk => by have := (HO8.out.lt k hk).2; omega)).symm; have HBW9 : Hid (Below W2.heap.size W2 W9) := Lib.hid ((HBW8.out.alloc HBW8.out.size _).grown hg (by have := HBW8.out.size; simp; omega) (fun k hk => (HO78.out.lt k hk).1)); clear hown hg hwh) | go_values | go_skip | go_guarded | go_step | go_upon)
          exact ⟨⟨i + 1, by omega, by go_num, HO89.out, HO9.out, HAP9.out, HBW9.out⟩, by simp [intOf]; omega⟩
        · have t4 : decide ((i : Int) < (m : Int)) = false := by simp only [decide_eq_false_iff_not]; omega
          obtain rfl : x = 0 := by rw [hx]; exact HTAIL.out i (by omega)
          obtain rfl : y = 54 := by rw [hy]; rfl
          obtain rfl : z = 92 := by rw [hz]; rfl
          clear hx hy hz
          repeat (first | (refine wpList_append_bytes _ rfl (.tmp 28) (.tmp 31) 22 rfl W2.heap.size 5 iU Tryd.underlying22 hiU hzU hsU hbU _ i (u8s (xorB 54 (B.take i))) (by rfl) (row_only HO6.out (Only.alloc (fun _ => False) wr _) (fun _ _ h => h)) _ [54] (by rfl) (one_lie wr 54) (by simp; omega) (by have := HBW.out.size; simp; omega) ?_; intro v8 W8 hown hg hwh; have HO8 := Lib.hid (show W8.ownsRow W2.heap.size 5 1 v8 (i + 1) (u8s (xorB 54 (B.take (i + 1)))) by rw [HX6.out, u8s_append]; exact hown); have HO78 := Lib.hid (row_only (row_only HO7.out (Only.alloc (fun _ => False) wr _) (fun _ _ h => h)) (Only.grown hg) (fun k h7 h6 => HAP.out k h6 h7)); have HAP8 : Hid (Apart v8 u7) := Lib.hid (HAP.out.alt (wr.heap.size + 1) (by simpa using hwh) (fun k hk => by have := (HO7.out.lt k hk).2; omega)); have HBW8 : Hid (Below W2.heap.size W2 W8) := Lib.hid ((HBW.out.alloc HBW.out.size _).grown hg (by have := HBW.out.size; simp; omega) (fun k hk => (HO6.out.lt k hk).1)); clear hown hg hwh) | (refine wpList_append_bytes _ rfl (.tmp 33) (.tmp 36) 22 rfl W2.heap.size 5 iU Tryd.underlying22 hiU hzU hsU hbU _ i (u8s (xorB 92 (B.take i))) (by rfl) (row_only HO78.out (Only.alloc (fun _ => False) W8 _) (fun _ _ h => h)) _ [92] (by rfl) (one_lie W8 92) (by simp; omega) (by have := HBW8.out.size; simp; omega) ?_; intro v9 W9 hown hg hwh; have HO9 := Lib.hid (show W9.ownsRow W2.heap.size 5 1 v9 (i + 1) (u8s (xorB 92 (B.take (i + 1)))) by rw [HX7.out, u8s_append]; exact hown); have HO89 := Lib.hid (row_only (row_only HO8.out (Only.alloc (fun _ => False) W8 _) (fun _ _ h => h)) (Only.grown hg) (fun k h8 h7 => HAP8.out k h8 h7)); have HAP9 : Hid (Apart v8 v9) := Lib.hid (HAP8.out.symm.alt (W8.heap.size + 1) (by simpa using hwh) (fun k hk => by have := (HO8.out.lt k hk).2; omega)).symm; have HBW9 : Hid (Below W2.heap.size W2 W9) := Lib.hid ((HBW8.out.alloc HBW8.out.size _).grown hg (by have := HBW8.out.size; simp; omega) (fun k hk => (HO78.out.lt k hk).1)); clear hown hg hwh) | go_values | go_skip | go_guarded | go_step | go_upon)
          exact ⟨⟨i + 1, by omega, by go_num, HO89.out, HO9.out, HAP9.out, HBW9.out⟩, by simp [intOf]; omega⟩
      · have t3 : decide ((i : Int) < 64) = false := by simp only [decide_eq_false_iff_not]; omega
        obtain rfl : i = 64 := by omega
        have HF6 := Lib.hid (show wr.ownsRow W2.heap.size 5 1 u6 64 (u8s (xorB 54 B)) by have h := HO6.out; rw [List.take_of_length_le (by rw [HBL.out]; exact Nat.le_refl _)] at h; exact h)
        have HF7 := Lib.hid (show wr.ownsRow W2.heap.size 5 1 u7 64 (u8s (xorB 92 B)) by have h := HO7.out; rw [List.take_of_length_le (by rw [HBL.out]; exact Nat.le_refl _)] at h; exact h)
        have HBR := Lib.hid (HB2.out.trans (HBW.out.mono HB2.out.size))
        have HRR := Lib.hid ((HBW.out.block _ HR2.out.lt).trans HR2.out)
        clear HO6 HO7
        repeat (first | (refine wpList_alloc_zero rfl 24 rfl (u8s (List.replicate 32 0)) (by kernel_rfl) ?_) | (refine wpList_store_row rfl 24 (.tmp 10) (.tmp 42) rfl W9.heap.size D.toArray rfl rfl 24 (u8s (List.replicate 32 0)).toArray (arr_new W9 _ (u8s (List.replicate 32 0))) HD32.out HDSZ.out HDAL.out ?_; refine wpList_name ?_; intro W10 hW10; have HDA := Lib.hid (show Arr W10 W9.heap.size 24 (u8s dd) by rw [hW10.out, ← HDD.out]; exact Arr.stored (arr_new W9 _ (u8s (List.replicate 32 0)))); have HB910 := Lib.hid (show Below W9.heap.size W9 W10 by rw [hW10.out]; exact below_setRow ((Below.refl _ _).alloc (Nat.le_refl _) _) (Nat.le_refl _) _); have HF710 := Lib.hid (ownsRow_beyond HF79.out HB910.out); have HBW10 := Lib.hid (HBW9.out.trans (HB910.out.mono HBW9.out.size)); clear hW10) | (refine wpList_store_row rfl 24 (.tmp 4) (.tmp 46) rfl w.heap.size L.toArray rfl rfl 24 (u8s (List.replicate 32 0)).toArray HR12.out HI32.out HSZ32.out HAL32.out ?_) | (refine wpList_append_bytes _ rfl (.tmp 39) (.tmp 40) 22 rfl W2.heap.size 5 iU Tryd.underlying22 hiU hzU hsU hbU _ 64 (u8s (xorB 54 B)) (by rfl) HF6.out vb bs (by rfl) (lies_keep HV.out HBR.out) (by have := HN.out; omega) HBW.out.size ?_; intro v8 W8 hown hg _; have HLI := Lib.hid (ownsRow_lies (show W8.ownsRow W2.heap.size 5 1 v8 (64 + bs.length) (u8s (xorB 54 B ++ bs)) by rw [u8s_append]; exact hown)); have HF78 := Lib.hid (row_only HF7.out (Only.grown hg) (fun k h7 h6 => HAP.out k h6 h7)); have HBW8 : Hid (Below W2.heap.size W2 W8) := Lib.hid (HBW.out.grown hg HBW.out.size (fun k hk => (HF6.out.lt k hk).1)); clear hown hg) | (refine wpList_append_bytes _ rfl (.tmp 43) (.tmp 44) 22 rfl W2.heap.size 5 iU Tryd.underlying22 hiU hzU hsU hbU _ 64 (u8s (xorB 92 B)) (by rfl) HF710.out _ dd (by rfl) (show Lies W10 (.slice (some ⟨W9.heap.size, 0, none⟩) 32 32) dd by have h := lies_arr (c := 32) HDA.out; rw [HDDL.out] at h; exact h) (by rw [HDDL.out]; omega) HBW10.out.size ?_; intro v11 W11 hown hg _; have HLI2 := Lib.hid (ownsRow_lies (show W11.ownsRow W2.heap.size 5 1 v11 (64 + dd.length) (u8s (xorB 92 B ++ dd)) by rw [u8s_append]; exact hown)); have HBW11 : Hid (Below W2.heap.size W2 W11) := Lib.hid (HBW10.out.grown hg HBW10.out.size (fun k hk => (HF710.out.lt k hk).1)); clear hown hg) | (go_at_call 15; refine (HOUT.out _ _ HLI2.out).mono ?_; rintro e W12 ⟨rfl, hb12⟩; have HBW12 := Lib.hid (HBW11.out.trans (hb12.mono HBW11.out.size)); have HR12 := Lib.hid (show Arr W12 w.heap.size 24 (u8s (List.replicate 32 0)) from (HBW12.out.block _ HR2.out.lt).trans HR2.out); have HB12 := Lib.hid (HB2.out.trans (HBW12.out.mono HB2.out.size)); clear hb12; dsimp only) | (go_at_call 15; refine (HIN.out _ _ HLI.out).mono ?_; rintro e W9 ⟨rfl, hb9⟩; have HF79 := Lib.hid (ownsRow_beyond HF78.out hb9); have HBW9 := Lib.hid (HBW8.out.trans (hb9.mono HBW8.out.size)); clear hb9 HLI; dsimp only) | go_values | go_skip | go_guarded | go_step | go_upon)
        (try simp only [Exit.inBlock, Exit.then])
        refine bodyPost_ret (results_cell_row rfl _ _ w.heap.size 24 L.toArray (0, 0) _ rfl (setRow_heap W12 w.heap.size _ L.toArray _ _ HR12.out) Tryd.underlying24 rfl HI32.out) rfl ?_
        exact ⟨rfl, below_setRow HB12.out (Nat.le_refl _) _⟩
  · have t1 : decide (64 < (key.length : Int)) = false := by simp only [decide_eq_false_iff_not]; omega
    have HKB : Hid (∀ i, B.getD i 0 = key.getD i 0) := Lib.hid fun i => by rw [hB, ← keyB_short hlong, key_at]
    obtain ⟨a0, ha0⟩ : ∃ a0, a0 = a := ⟨_, rfl⟩
    have HFK : Hid (∀ W, Below w.heap.size w W → ∀ i, i < key.length → ∃ b o, a0 = some ⟨b, o, none⟩ ∧ W.cell? ⟨b, o + i, none⟩ = some (.int .u8 ((B.getD i 0 : Nat) : Int)) ∧ b < W.heap.size) := Lib.hid fun W hW i hi => by
      obtain ⟨a', c', he, hf⟩ := lies_form hk
      cases he
      obtain ⟨b, o, he, hby⟩ := hf (fun e => by rw [e] at hi; simp at hi)
      have hc := hby i hi
      exact ⟨b, o, by rw [ha0]; exact he, by rw [HKB.out i, ← hc]; exact hW.cell (p := ⟨b, o + i, none⟩) (cell_lt hc), Nat.lt_of_lt_of_le (cell_lt hc) hW.size⟩
    obtain ⟨m, hm⟩ : ∃ m, m = key.length := ⟨_, rfl⟩
    have HTAIL : Hid (∀ i, m ≤ i → B.getD i 0 = 0) := Lib.hid fun i hi => by rw [HKB.out i]; exact getD_end (by omega)
    have hm64 : m ≤ 64 := by omega
    rw [← hm] at HFK t1 ⊢
    rw [← ha0]
    clear hL hLz hD hDz hB hdd hk hkb hkn hv hb hn hlong hm HDU ha0 HKB
    go_enter Tryd.func9, Tryd.ntmps9
    repeat (first | (refine wpList_alloc_zero rfl 24 rfl (u8s (List.replicate 32 0)) (by kernel_rfl) ?_; refine wpList_name ?_; intro W2 hW2; have HR2 := Lib.hid (show Arr W2 w.heap.size 24 (u8s (List.replicate 32 0)) by rw [hW2.out]; exact arr_new _ _ _); have HB2 := Lib.hid (show Below w.heap.size w W2 by rw [hW2.out]; exact (Below.refl _ _).alloc (Nat.le_refl _) _); clear hW2) | go_values | go_skip | go_guarded | go_step | go_upon)
    have HKK := Lib.hid (HFK.out W2 HB2.out)
    clear HFK
    go_loopw [6, 7, 17] (fun v6 v7 c wr => ∃ i : Nat, i ≤ 64 ∧ c = .int .i64 i ∧ wr.ownsRow W2.heap.size 5 1 v6 i (u8s (xorB 54 (B.take i))) ∧ wr.ownsRow W2.heap.size 5 1 v7 i (u8s (xorB 92 (B.take i))) ∧ Apart v6 v7 ∧ Below W2.heap.size W2 wr) (fun _ _ c _ => 64 - (intOf c).toNat)
    case atStart => exact ⟨0, by omega, rfl, ⟨rfl, .inl ⟨rfl, rfl⟩⟩, ⟨rfl, .inl ⟨rfl, rfl⟩⟩, fun k h => by simp [Value.ownBlock] at h, Below.refl _ _⟩
    case round =>
      obtain ⟨i, hi, rfl, ho6, ho7, hap, hbw⟩ := hrel
      have HO6 := Lib.hid ho6
      have HO7 := Lib.hid ho7
      have HAP := Lib.hid hap
      have HBW := Lib.hid hbw
      clear ho6 ho7 hap hbw t1
      by_cases hlt : i < 64
      · have t3 : decide ((i : Int) < 64) = true := by simp only [decide_eq_true_eq]; omega
        have hti : (i : Int) < 64 := by omega
        obtain ⟨x, hx⟩ : ∃ x, x = B.getD i 0 := ⟨_, rfl⟩
        have hx256 : x < 256 := by rw [hx]; exact getD_byte HBB.out i
        obtain ⟨y, hy⟩ : ∃ y, y = x ^^^ 54 := ⟨_, rfl⟩
        obtain ⟨z, hz⟩ : ∃ z, z = x ^^^ 92 := ⟨_, rfl⟩
        have e1 : bits .xor .u8 (x : Int) 54 = (y : Int) := by rw [show (54 : Int) = ((54 : Nat) : Int) from rfl, u8_xor_nat x 54 hx256 (by decide), hy]
        have e2 : bits .xor .u8 (x : Int) 92 = (z : Int) := by rw [show (92 : Int) = ((92 : Nat) : Int) from rfl, u8_xor_nat x 92 hx256 (by decide), hz]
        have HX6 : Hid (xorB 54 (B.take (i + 1)) = xorB 54 (B.take i) ++ [y]) := Lib.hid (by rw [xorB_take (by rw [HBL.out]; exact hlt), ← hx, hy])
        have HX7 : Hid (xorB 92 (B.take (i + 1)) = xorB 92 (B.take i) ++ [z]) := Lib.hid (by rw [xorB_take (by rw [HBL.out]; exact hlt), ← hx, hz])
        have HLO : Hid (xorB 54 (B.take i) = xorB 54 (B.take i)) := Lib.hid rfl
        by_cases him : i < m
        · obtain ⟨b0, o0, rfl, hc, hb0⟩ := HKK.out i him
          have d1 : wr.cell? ⟨b0, o0 + i, none⟩ = some (.int .u8 (x : Int)) := by rw [hx, ← hc]; exact HBW.out.cell (p := ⟨b0, o0 + i, none⟩) hb0
          have t4 : decide ((i : Int) < (m : Int)) = true := by simp only [decide_eq_true_eq]; omega
          have htm : (i : Int) < (m : Int) := by omega
          clear hx hy hz hc
          repeat (first | (refine wpList_append_bytes _ rfl (.tmp 28) (.tmp 31) 22 rfl W2.heap.size 5 iU Tryd.underlying22 hiU hzU hsU hbU _ i (u8s (xorB 54 (B.take i))) (by rfl) (row_only HO6.out (Only.alloc (fun _ => False) wr _) (fun _ _ h => h)) _ [y] (by rfl) (one_lie wr y) (by simp; omega) (by have := HBW.out.size; simp; omega) ?_; intro v8 W8 hown hg hwh; have HO8 := Lib.hid (show W8.ownsRow W2.heap.size 5 1 v8 (i + 1) (u8s (xorB 54 (B.take (i + 1)))) by rw [HX6.out, u8s_append]; exact hown); have HO78 := Lib.hid (row_only (row_only HO7.out (Only.alloc (fun _ => False) wr _) (fun _ _ h => h)) (Only.grown hg) (fun k h7 h6 => HAP.out k h6 h7)); have HAP8 : Hid (Apart v8 u7) := Lib.hid (HAP.out.alt (wr.heap.size + 1) (by simpa using hwh) (fun k hk => by have := (HO7.out.lt k hk).2; omega)); have HBW8 : Hid (Below W2.heap.size W2 W8) := Lib.hid ((HBW.out.alloc HBW.out.size _).grown hg (by have := HBW.out.size; simp; omega) (fun k hk => (HO6.out.lt k hk).1)); clear hown hg hwh) | (refine wpList_append_bytes _ rfl (.tmp 33) (.tmp 36) 22 rfl W2.heap.size 5 iU Tryd.underlying22 hiU hzU hsU hbU _ i (u8s (xorB 92 (B.take i))) (by rfl) (row_only HO78.out (Only.alloc (fun _ => False) W8 _) (fun _ _ h => h)) _ [z] (by rfl) (one_lie W8 z) (by simp; omega) (by have := HBW8.out.size; simp; omega) ?_; intro v9 W9 hown hg hwh; have HO9 := Lib.hid (show W9.ownsRow W2.heap.size 5 1 v9 (i + 1) (u8s (xorB 92 (B.take (i + 1)))) by rw [HX7.out, u8s_append]; exact hown); have HO89 := Lib.hid (row_only (row_only HO8.out (Only.alloc (fun _ => False) W8 _) (fun _ _ h => h)) (Only.grown hg) (fun k h8 h7 => HAP8.out k h8 h7)); have HAP9 : Hid (Apart v8 v9) := Lib.hid (HAP8.out.symm.alt (W8.heap.size + 1) (by simpa using hwh) (fun k hk => by have := (HO8.out.lt k hk).2; omega)).symm; have HBW9 : Hid (Below W2.heap.size W2 W9) := Lib.hid ((HBW8.out.alloc HBW8.out.size _).grown hg (by have := HBW8.out.size; simp; omega) (fun k hk => (HO78.out.lt k hk).1)); clear hown hg hwh) | go_values | go_skip | go_guarded | go_step | go_upon)
          exact ⟨⟨i + 1, by omega, by go_num, HO89.out, HO9.out, HAP9.out, HBW9.out⟩, by simp [intOf]; omega⟩
        · have t4 : decide ((i : Int) < (m : Int)) = false := by simp only [decide_eq_false_iff_not]; omega
          obtain rfl : x = 0 := by rw [hx]; exact HTAIL.out i (by omega)
          obtain rfl : y = 54 := by rw [hy]; rfl
          obtain rfl : z = 92 := by rw [hz]; rfl
          clear hx hy hz
          repeat (first | (refine wpList_append_bytes _ rfl (.tmp 28) (.tmp 31) 22 rfl W2.heap.size 5 iU Tryd.underlying22 hiU hzU hsU hbU _ i (u8s (xorB 54 (B.take i))) (by rfl) (row_only HO6.out (Only.alloc (fun _ => False) wr _) (fun _ _ h => h)) _ [54] (by rfl) (one_lie wr 54) (by simp; omega) (by have := HBW.out.size; simp; omega) ?_; intro v8 W8 hown hg hwh; have HO8 := Lib.hid (show W8.ownsRow W2.heap.size 5 1 v8 (i + 1) (u8s (xorB 54 (B.take (i + 1)))) by rw [HX6.out, u8s_append]; exact hown); have HO78 := Lib.hid (row_only (row_only HO7.out (Only.alloc (fun _ => False) wr _) (fun _ _ h => h)) (Only.grown hg) (fun k h7 h6 => HAP.out k h6 h7)); have HAP8 : Hid (Apart v8 u7) := Lib.hid (HAP.out.alt (wr.heap.size + 1) (by simpa using hwh) (fun k hk => by have := (HO7.out.lt k hk).2; omega)); have HBW8 : Hid (Below W2.heap.size W2 W8) := Lib.hid ((HBW.out.alloc HBW.out.size _).grown hg (by have := HBW.out.size; simp; omega) (fun k hk => (HO6.out.lt k hk).1)); clear hown hg hwh) | (refine wpList_append_bytes _ rfl (.tmp 33) (.tmp 36) 22 rfl W2.heap.size 5 iU Tryd.underlying22 hiU hzU hsU hbU _ i (u8s (xorB 92 (B.take i))) (by rfl) (row_only HO78.out (Only.alloc (fun _ => False) W8 _) (fun _ _ h => h)) _ [92] (by rfl) (one_lie W8 92) (by simp; omega) (by have := HBW8.out.size; simp; omega) ?_; intro v9 W9 hown hg hwh; have HO9 := Lib.hid (show W9.ownsRow W2.heap.size 5 1 v9 (i + 1) (u8s (xorB 92 (B.take (i + 1)))) by rw [HX7.out, u8s_append]; exact hown); have HO89 := Lib.hid (row_only (row_only HO8.out (Only.alloc (fun _ => False) W8 _) (fun _ _ h => h)) (Only.grown hg) (fun k h8 h7 => HAP8.out k h8 h7)); have HAP9 : Hid (Apart v8 v9) := Lib.hid (HAP8.out.symm.alt (W8.heap.size + 1) (by simpa using hwh) (fun k hk => by have := (HO8.out.lt k hk).2; omega)).symm; have HBW9 : Hid (Below W2.heap.size W2 W9) := Lib.hid ((HBW8.out.alloc HBW8.out.size _).grown hg (by have := HBW8.out.size; simp; omega) (fun k hk => (HO78.out.lt k hk).1)); clear hown hg hwh) | go_values | go_skip | go_guarded | go_step | go_upon)
          exact ⟨⟨i + 1, by omega, by go_num, HO89.out, HO9.out, HAP9.out, HBW9.out⟩, by simp [intOf]; omega⟩
      · have t3 : decide ((i : Int) < 64) = false := by simp only [decide_eq_false_iff_not]; omega
        obtain rfl : i = 64 := by omega
        have HF6 := Lib.hid (show wr.ownsRow W2.heap.size 5 1 u6 64 (u8s (xorB 54 B)) by have h := HO6.out; rw [List.take_of_length_le (by rw [HBL.out]; exact Nat.le_refl _)] at h; exact h)
        have HF7 := Lib.hid (show wr.ownsRow W2.heap.size 5 1 u7 64 (u8s (xorB 92 B)) by have h := HO7.out; rw [List.take_of_length_le (by rw [HBL.out]; exact Nat.le_refl _)] at h; exact h)
        have HBR := Lib.hid (HB2.out.trans (HBW.out.mono HB2.out.size))
        have HRR := Lib.hid ((HBW.out.block _ HR2.out.lt).trans HR2.out)
        clear HO6 HO7
        repeat (first | (refine wpList_alloc_zero rfl 24 rfl (u8s (List.replicate 32 0)) (by kernel_rfl) ?_) | (refine wpList_store_row rfl 24 (.tmp 10) (.tmp 42) rfl W9.heap.size D.toArray rfl rfl 24 (u8s (List.replicate 32 0)).toArray (arr_new W9 _ (u8s (List.replicate 32 0))) HD32.out HDSZ.out HDAL.out ?_; refine wpList_name ?_; intro W10 hW10; have HDA := Lib.hid (show Arr W10 W9.heap.size 24 (u8s dd) by rw [hW10.out, ← HDD.out]; exact Arr.stored (arr_new W9 _ (u8s (List.replicate 32 0)))); have HB910 := Lib.hid (show Below W9.heap.size W9 W10 by rw [hW10.out]; exact below_setRow ((Below.refl _ _).alloc (Nat.le_refl _) _) (Nat.le_refl _) _); have HF710 := Lib.hid (ownsRow_beyond HF79.out HB910.out); have HBW10 := Lib.hid (HBW9.out.trans (HB910.out.mono HBW9.out.size)); clear hW10) | (refine wpList_store_row rfl 24 (.tmp 4) (.tmp 46) rfl w.heap.size L.toArray rfl rfl 24 (u8s (List.replicate 32 0)).toArray HR12.out HI32.out HSZ32.out HAL32.out ?_) | (refine wpList_append_bytes _ rfl (.tmp 39) (.tmp 40) 22 rfl W2.heap.size 5 iU Tryd.underlying22 hiU hzU hsU hbU _ 64 (u8s (xorB 54 B)) (by rfl) HF6.out vb bs (by rfl) (lies_keep HV.out HBR.out) (by have := HN.out; omega) HBW.out.size ?_; intro v8 W8 hown hg _; have HLI := Lib.hid (ownsRow_lies (show W8.ownsRow W2.heap.size 5 1 v8 (64 + bs.length) (u8s (xorB 54 B ++ bs)) by rw [u8s_append]; exact hown)); have HF78 := Lib.hid (row_only HF7.out (Only.grown hg) (fun k h7 h6 => HAP.out k h6 h7)); have HBW8 : Hid (Below W2.heap.size W2 W8) := Lib.hid (HBW.out.grown hg HBW.out.size (fun k hk => (HF6.out.lt k hk).1)); clear hown hg) | (refine wpList_append_bytes _ rfl (.tmp 43) (.tmp 44) 22 rfl W2.heap.size 5 iU Tryd.underlying22 hiU hzU hsU hbU _ 64 (u8s (xorB 92 B)) (by rfl) HF710.out _ dd (by rfl) (show Lies W10 (.slice (some ⟨W9.heap.size, 0, none⟩) 32 32) dd by have h := lies_arr (c := 32) HDA.out; rw [HDDL.out] at h; exact h) (by rw [HDDL.out]; omega) HBW10.out.size ?_; intro v11 W11 hown hg _; have HLI2 := Lib.hid (ownsRow_lies (show W11.ownsRow W2.heap.size 5 1 v11 (64 + dd.length) (u8s (xorB 92 B ++ dd)) by rw [u8s_append]; exact hown)); have HBW11 : Hid (Below W2.heap.size W2 W11) := Lib.hid (HBW10.out.grown hg HBW10.out.size (fun k hk => (HF710.out.lt k hk).1)); clear hown hg) | (go_at_call 15; refine (HOUT.out _ _ HLI2.out).mono ?_; rintro e W12 ⟨rfl, hb12⟩; have HBW12 := Lib.hid (HBW11.out.trans (hb12.mono HBW11.out.size)); have HR12 := Lib.hid (show Arr W12 w.heap.size 24 (u8s (List.replicate 32 0)) from (HBW12.out.block _ HR2.out.lt).trans HR2.out); have HB12 := Lib.hid (HB2.out.trans (HBW12.out.mono HB2.out.size)); clear hb12; dsimp only) | (go_at_call 15; refine (HIN.out _ _ HLI.out).mono ?_; rintro e W9 ⟨rfl, hb9⟩; have HF79 := Lib.hid (ownsRow_beyond HF78.out hb9); have HBW9 := Lib.hid (HBW8.out.trans (hb9.mono HBW8.out.size)); clear hb9 HLI; dsimp only) | go_values | go_skip | go_guarded | go_step | go_upon)
        (try simp only [Exit.inBlock, Exit.then])
        refine bodyPost_ret (results_cell_row rfl _ _ w.heap.size 24 L.toArray (0, 0) _ rfl (setRow_heap W12 w.heap.size _ L.toArray _ _ HR12.out) Tryd.underlying24 rfl HI32.out) rfl ?_
        exact ⟨rfl, below_setRow HB12.out (Nat.le_refl _) _⟩
end Go.Proofs.YtfbnnhailnbmiaaDoor
