/- A state's last bytes, filled up. -/
import Derived.Test.YtfbnnhailnbmiaaDoorHaSt
import Derived.Test.YtfbnnhailnbmiaaDoorRefS
import Derived.ArgAppend
namespace Go.Proofs.YtfbnnhailnbmiaaDoor
open Go.RowKit

set_option maxHeartbeats 8000000 in
set_option maxRecDepth 1000000 in
theorem ending_any {w : World} {P : Nat} {bs : List Nat} (h : St w P bs) (hn : bs.length < 1000000000) :
    Calls Tryd.prog 33 #[.pointer (some ⟨P, 0, none⟩)] w fun e w' => ∃ v, e = .returned v ∧ w'.ownsRow w.heap.size 5 1 v ((padded bs).length - 64 * (bs.length / 64)) (u8s ((padded bs).drop (64 * (bs.length / 64)))) ∧ Below w.heap.size w w' := by
  have HLEFT := Lib.hid (left_any h (by omega))
  obtain ⟨s0, blk, harr, htold, hb⟩ := h
  obtain ⟨n, hnn⟩ : ∃ n, n = bs.length := ⟨_, rfl⟩
  obtain ⟨r, hr⟩ : ∃ r, r = bs.length % 64 := ⟨_, rfl⟩
  rw [← hr] at HLEFT
  obtain ⟨rm, hrm⟩ : ∃ l, l = bs.drop (64 * (bs.length / 64)) := ⟨_, rfl⟩
  have hrl : rm.length = r := by rw [hrm, List.length_drop]; omega
  have hcell : ∀ j u, (u8s rm)[j]? = some u → w.cell? ((⟨P, 8, none⟩ : Addr).add j) = some u := fun j u hu => by
    have hj : j < r := by have := (List.getElem?_eq_some_iff.1 hu).1; rw [u8s_length, hrl] at this; exact this
    rw [add_at]
    refine harr.cell (stCells_byte rfl ?_)
    rw [hrm, ← htold.rest, ← hr] at hu
    rw [← hu]
    simp [u8s, hj]
  have c72 := harr.cell (stCells_count (n := bs.length) (ws := s0.words) rfl htold.len)
  rw [← hnn] at c72 hn
  have hr64 : r < 64 := by omega
  have hrn : r = n % 64 := by omega
  have HPD : Hid ((padded bs).drop (64 * (bs.length / 64)) = rm ++ fillB n) := Lib.hid (by rw [padded, List.drop_append_of_le_length (by omega), ← hrm, hnn])
  have HPL : Hid ((padded bs).length - 64 * (bs.length / 64) = r + (1 + padZ n + 8)) := Lib.hid (by
    have h1 := congrArg List.length HPD.out
    rw [List.length_drop, List.length_append, fillB_length, hrl] at h1; exact h1)
  have HC := Lib.hid hcell
  have HRL := Lib.hid hrl
  have HA := Lib.hid harr
  have HRN := Lib.hid hrn
  clear hcell hr hrm harr htold hb hnn hrl hrn
  obtain ⟨iU, hiU, hzU, hsU, hbU⟩ : ∃ i, Tryd.prog.info? 5 = some i ∧ i.zero = some (.int .u8 0) ∧ i.size = 1 ∧ i.bytes = 1 := by
    have h := infoU8
    cases hi : Tryd.prog.info? 5 with
    | none => rw [hi] at h; simp at h
    | some i => rw [hi] at h; simp at h; exact ⟨i, rfl, h.1, h.2.1, h.2.2⟩
  go_enter Tryd.func33, Tryd.ntmps33
  repeat (first | (go_at_call 31; refine HLEFT.out.mono ?_; rintro e w' ⟨rfl, hw'⟩; have hw' := hw'.symm; subst hw'; dsimp only) | (refine wpList_cut rfl 34 (.tmp 11) (.tmp 12) (.tmp 13) rfl 5 64 Tryd.underlying34 (by kernel_rfl) P 8 r .i64 rfl rfl rfl (by omega) ?_) | (refine wpList_append_grows _ rfl (.tmp 14) (.tmp 15) 22 rfl 5 iU (.int .u8 0) 1 1 Tryd.underlying22 hiU hzU hsU hbU rfl (by decide) (some ⟨P, 8, none⟩) r r (u8s rm) rfl (by simp) (by rw [u8s_length, HRL.out]; omega) (fun b hb j u hu => by cases hb; exact (((Below.refl w.heap.size w).alloc (Nat.le_refl _) _).cell (p := (⟨P, 8, none⟩ : Addr).add j) (cell_lt (HC.out j u hu))).trans (HC.out j u hu)) ⟨w.heap.size, 0, none⟩ 1 1 [.int .u8 128] rfl rfl (World.news_of_block (heap_alloc_new w _)) (by simp [Value.oneCell']) (by omega) (by unfold maxLen; omega) (by omega) ?_; intro vB WB hownB hgB; have HOB := Lib.hid hownB; have HBB := Lib.hid (((Below.refl w.heap.size w).alloc (Nat.le_refl _) _).grown hgB (by simp) (fun k hk => by cases hk)); clear hownB hgB) | go_values | go_skip | go_guarded | go_step | go_upon)
  obtain ⟨Bm, hBm⟩ : ∃ B, B = w.heap.size := ⟨_, rfl⟩
  have HBW : Hid (Bm = w.heap.size) := Lib.hid hBm
  have hown0 : WB.ownsRow Bm 5 1 vB (r + 1 + 0) (u8s (rm ++ 128 :: List.replicate 0 0)) := by
    have := row_base HOB.out (B' := Bm) (by simp; omega)
    simpa [u8s] using this
  have HOB2 := Lib.hid hown0
  have HBB2 : Hid (Below Bm w WB) := Lib.hid (by rw [hBm]; exact HBB.out)
  have H72 : Hid (∀ W, Below Bm w W → W.cell? ⟨P, 72, none⟩ = some (.int .u64 (n : Int))) := Lib.hid fun W hW => by
    rw [← c72]; exact hW.cell (p := ⟨P, 72, none⟩) (by rw [hBm]; exact HA.out.lt)
  have hzB := HBB2.out.size
  clear hown0 HOB HBB hBm HLEFT HC HA c72 hw'
  go_loopw [4] (fun v wr => ∃ z : Nat, z ≤ padZ n ∧ wr.ownsRow Bm 5 1 v (r + 1 + z) (u8s (rm ++ 128 :: List.replicate z 0)) ∧ Below Bm w wr) (fun v _ => 10000000 - lenV2 v)
  case atStart => exact ⟨0, by omega, HOB2.out, HBB2.out⟩
  case round =>
    obtain ⟨z, hz, hown, hbw⟩ := hrel
    obtain ⟨a8, c8, rfl⟩ := own_slice hown
    have HO := Lib.hid hown
    have HBW2 := Lib.hid hbw
    have hzw := hbw.size
    have hpz : padZ n < 64 := padZ_lt n
    have hBw : Bm ≤ wr.heap.size := by have := HBW.out; omega
    clear hown hbw HOB2 HBB2
    have hr1 : ((r + 1 + z : Nat) : Int).tmod 64 = (((r + 1 + z) % 64 : Nat) : Int) := by rw [Int.tmod_eq_emod_of_nonneg (by omega)]; omega
    have hr2 : ((r + 1 + z : Nat) : Int) % 64 = (((r + 1 + z) % 64 : Nat) : Int) := by omega
    obtain ⟨L, hL⟩ : ∃ L, L = r + 1 + z := ⟨_, rfl⟩
    rw [← hL] at hr1 hr2 HO ⊢
    have HLb : Hid (L ≤ 200) := Lib.hid (by omega)
    have HLL := Lib.hid hL
    by_cases hlt : z < padZ n
    · have hne : L % 64 ≠ 56 := by rw [hL]; have := HRN.out; unfold padZ at hlt; omega
      have t1 : (((L % 64 : Nat) : Int) != 56) = true := by simp; omega
      repeat (first | (refine wpList_append_own_at _ rfl (.tmp 21) (.tmp 22) 22 rfl Bm 5 iU (.int .u8 0) 1 1 Tryd.underlying22 hiU hzU hsU hbU rfl (by decide) _ _ _ rfl (HO.out.alloc _) ⟨wr.heap.size, 0, none⟩ 1 1 [.int .u8 0] rfl rfl (World.news_of_block (heap_alloc_new wr _)) (by simp [Value.oneCell']) (by unfold maxLen; omega) (by omega) (by simp; omega) ?_; intro v5 W5 hown5 hgrow5 _ _; obtain ⟨a9, c9, rfl⟩ := own_slice hown5; have HO5 := Lib.hid hown5; have HB5 := Lib.hid ((HBW2.out.alloc hBw _).grown hgrow5 (by simp; omega) (fun k hk => (HO.out.lt k hk).1)); clear hown5 hgrow5) | go_values | go_skip | go_guarded | go_step | go_upon)
      go_roundw
      case rel => exact ⟨z + 1, by omega, by have h5 := HO5.out; rw [HLL.out] at h5; rw [List.replicate_succ', show r + 1 + (z + 1) = r + 1 + z + 1 by omega]; simpa [u8s] using h5, HB5.out⟩
      case measure => simp [lenV2]; omega
    · obtain rfl : z = padZ n := by omega
      have hne : L % 64 = 56 := by rw [hL]; have := HRN.out; unfold padZ; omega
      have t1 : (((L % 64 : Nat) : Int) != 56) = false := by simp; omega
      obtain ⟨N, hN⟩ : ∃ N, N = 8 * n := ⟨_, rfl⟩
      have e2 : IntKind.u64.wrap ((n : Int) * 8) = (N : Int) := by rw [IntKind.wrap_u64]; omega
      have HNN := Lib.hid hN
      have HNZ := Lib.hid hz
      obtain ⟨Wm, hWm⟩ : ∃ W, W = wr := ⟨_, rfl⟩
      subst hWm
      have c72 := H72.out Wm HBW2.out
      clear hL hN hlt hz hpz
      repeat (first | go_values | go_skip | go_guarded | go_step | go_upon)
      go_loopw [4, 29] (fun v c wr => ∃ j : Nat, j ≤ 8 ∧ c = .int .i64 j ∧ wr.ownsRow Bm 5 1 v (L + j) (u8s (rm ++ 128 :: (List.replicate (padZ n) 0 ++ (len8 N).take j))) ∧ Below Bm w wr) (fun _ c _ => 8 - (intOf c).toNat)
      case atStart => exact ⟨0, by omega, rfl, by simpa using HO.out, HBW2.out⟩
      case round =>
        clear HO HBW2 hzw hBw c72
        obtain ⟨j, hj, rfl, hown, hbw⟩ := hrel
        obtain ⟨a8, c8, rfl⟩ := own_slice hown
        have HO := Lib.hid hown
        have HBW2 := Lib.hid hbw
        have hzw := hbw.size
        have hBw : Bm ≤ wr.heap.size := by have := HBW.out; omega
        by_cases hlt : j < 8
        · obtain ⟨b, hb⟩ : ∃ b, b = 7 - j := ⟨_, rfl⟩
          have hx := len8_at N hlt
          rw [← hb] at hx
          obtain ⟨y, hy⟩ : ∃ y, y = N / 2 ^ (8 * b) % 256 := ⟨_, rfl⟩
          rw [← hy] at hx
          obtain ⟨b8, hb8⟩ : ∃ b8, b8 = 8 * b := ⟨_, rfl⟩
          rw [← hb8] at hy
          have t1 : decide ((j : Int) < 8) = true := by simp only [decide_eq_true_eq]; omega
          have e0 : IntKind.i64.wrap (7 - (j : Int)) = (b : Int) := by rw [IntKind.wrap_i64]; omega
          have e3 : IntKind.i64.wrap (8 * (b : Int)) = (b8 : Int) := by rw [IntKind.wrap_i64]; omega
          have e5 : IntKind.u8.wrap ((N : Int) / 2 ^ b8) = (y : Int) := by
            rw [show ((N : Int) / 2 ^ b8) = ((N / 2 ^ b8 : Nat) : Int) by simp, IntKind.wrap_u8, hy]; omega
          have hb864 : b8 < 64 := by omega
          have HX := Lib.hid hx
          have HBJ := Lib.hid hb
          clear hown hbw hx hy hb hb8
          repeat (first | (refine wpList_append_own_at _ rfl (.tmp 32) (.tmp 39) 22 rfl Bm 5 iU (.int .u8 0) 1 1 Tryd.underlying22 hiU hzU hsU hbU rfl (by decide) _ _ _ rfl (HO.out.alloc _) ⟨wr.heap.size, 0, none⟩ 1 1 [.int .u8 (y : Int)] rfl rfl (World.news_of_block (heap_alloc_new wr _)) (by simp [Value.oneCell']) (by have := HLb.out; unfold maxLen; omega) (by have := HLb.out; omega) (by simp; omega) ?_; intro v5 W5 hown5 hgrow5 _ _; have HO5 := Lib.hid hown5; have HB5 := Lib.hid ((HBW2.out.alloc hBw _).grown hgrow5 (by simp; omega) (fun k hk => (HO.out.lt k hk).1)); clear hown5 hgrow5) | go_values | go_skip | go_guarded | go_step | go_upon)
          go_roundw
          case rel => exact ⟨j + 1, by omega, by go_num, by rw [List.take_add_one, HX.out, ← Nat.add_assoc]; have := HO5.out; simpa [u8s] using this, HB5.out⟩
          case measure => simp [intOf]; omega
        · obtain rfl : j = 8 := by omega
          have t1 : decide (((8 : Nat) : Int) < 8) = false := by simp
          have hfin : rm ++ 128 :: (List.replicate (padZ n) 0 ++ (len8 N).take 8) = rm ++ fillB n := by
            rw [fillB, HNN.out, List.take_of_length_le (by rw [len8_length]; omega)]
          have HOF : Hid (wr.ownsRow w.heap.size 5 1 (.slice a8 (L + 8) c8) ((padded bs).length - 64 * (bs.length / 64)) (u8s ((padded bs).drop (64 * (bs.length / 64))))) := Lib.hid (by
            rw [HPL.out, HPD.out, ← hfin, ← HBW.out]
            have := HO.out
            rw [show r + (1 + padZ n + 8) = L + 8 by have := HLL.out; omega]; exact this)
          have HBF : Hid (Below w.heap.size w wr) := Lib.hid (by rw [← HBW.out]; exact HBW2.out)
          clear hown hbw hj hlt hfin
          repeat (first | go_values | go_skip | go_guarded | go_step | go_upon)
          go_ret
          exact ⟨_, rfl, HOF.out, HBF.out⟩
end Go.Proofs.YtfbnnhailnbmiaaDoor
