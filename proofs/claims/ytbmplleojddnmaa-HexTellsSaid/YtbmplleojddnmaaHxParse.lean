/- Package hex: the bytes whose signs these are. -/
import Derived.Test.YtbmplleojddnmaaHxHalf
import Derived.Test.YtbmplleojddnmaaHxAdd
import Derived.Test.YtbmplleojddnmaaHxRead
namespace Go.Proofs.Ytbmplleojddnmaa
open Go.RowKit

set_option maxHeartbeats 8000000 in
set_option maxRecDepth 1000000 in
theorem hxparse_any {w : World} {s : ByteArray} (hs : s.size ≤ 1000000000) :
    Calls Try.prog 7 #[.string s] w fun e w' => (∃ v m, e = .returned (.tuple #[v, .int .i64 m]) ∧ ParseIs w' w.heap.size s v m) ∧ Below w.heap.size w w' := by
  obtain ⟨iU, hiU, hzU, hsU, hbU⟩ := info_u8
  obtain ⟨S, hS⟩ : ∃ S, S = ordsOf s := ⟨_, rfl⟩
  have hSl : S.length = s.size := by rw [hS, ordsOf_length]
  obtain ⟨m, hm⟩ : ∃ m, m = (s.size + 1) / 2 := ⟨_, rfl⟩
  have em : Int.tdiv ((s.size : Int) + 1) 2 = (m : Int) := by rw [Int.tdiv_eq_ediv_of_nonneg (by omega)]; omega
  have hm2 : m ≤ 600000000 := by omega
  obtain ⟨l, hl⟩ : ∃ l, l = pairsB S := ⟨_, rfl⟩
  have hll : l.length = m := by rw [hl, pairsB_length, hSl, hm]
  have HS := Lib.hid hS
  have HSL := Lib.hid hSl
  have HM := Lib.hid hm
  have HLQ := Lib.hid hl
  have HLL := Lib.hid hll
  clear hS hSl hm hl hll
  go_enter Try.func7, Try.ntmps7
  repeat (first | (refine wpList_make_full w rfl (.tmp 11) (.tmp 11) 22 rfl w.heap.size 5 iU (.int .u8 0) 1 Try.underlying22 hiU hzU hsU .i64 .i64 _ _ m rfl rfl rfl rfl (by rw [hbU]; omega) (by unfold maxLen; omega) (Nat.le_refl _) ?_; intro W1 hown1 hg1; rw [made_u8] at hown1; have HA1 := Lib.hid (arr_full hown1); have HB1 : Hid (Below w.heap.size w W1) := Lib.hid ((Below.refl w.heap.size w).grown hg1 (Nat.le_refl _) (fun k hk => by cases hk)); clear hown1 hg1) | go_values | go_skip | go_guarded | go_step)
  go_loopw [15] (fun c wr => ∃ i : Nat, i ≤ s.size ∧ c = .int .i64 i ∧ Arr wr w.heap.size 5 (u8s (readB l i)) ∧ Below w.heap.size w wr ∧ ∀ k, k < i → (halfB (S.getD k 0)).isSome = true) (fun c _ => s.size - (intOf c).toNat)
  case atStart => exact ⟨0, by omega, rfl, by rw [readB_zero, HLL.out]; exact HA1.out, HB1.out, fun k hk => by omega⟩
  case round =>
    obtain ⟨i, hi, rfl, harr, hbw, hall⟩ := hrel
    have HA := Lib.hid harr
    have HBW := Lib.hid hbw
    have HALL := Lib.hid hall
    clear harr hbw hall
    by_cases hlt : i < s.size
    · have t3 : decide ((i : Int) < (s.size : Int)) = true := by simp only [decide_eq_true_eq]; omega
      have hti : (i : Int) < (s.size : Int) := by omega
      obtain ⟨c, hc⟩ : ∃ c, c = (s[i]'hlt).toNat := ⟨_, rfl⟩
      have ec : (((s[i]'hlt).toNat : Nat) : Int) = (c : Int) := by rw [hc]
      have hc256 : c < 256 := by rw [hc]; exact (s[i]'hlt).toNat_lt
      have hcS : S.getD i 0 = c := by
        have hg := ords_get s i hlt
        rw [HS.out, List.getD, hg, hc]; rfl
      have HCS := Lib.hid hcS
      clear hc hcS
      obtain ⟨h, hh⟩ : ∃ h, h = (halfB c).getD 0 := ⟨_, rfl⟩
      have HF := Lib.hid (hxhalf_any wr hc256)
      rw [← hh] at HF
      cases hs2 : halfB c with
      | none =>
        rw [hs2] at HF
        simp only [Option.isSome_none] at HF
        have HNO : Hid (halfB ((ordsOf s).getD i 0) = none) := Lib.hid (by rw [← HS.out, HCS.out]; exact hs2)
        clear hs2 hh
        repeat (first | go_values | go_skip | go_guarded | go_step)
        refine HF.out.mono ?_
        rintro e w2 ⟨rfl, rfl⟩
        dsimp only
        repeat (first | go_values | go_skip | go_guarded | go_step | go_upon)
        go_ret2
        exact ⟨⟨_, _, rfl, .inr (.inl ⟨rfl, rfl, i, hlt, HNO.out⟩)⟩, HBW.out⟩
      | some x =>
        rw [hs2] at HF
        simp only [Option.isSome_some] at HF
        obtain rfl : h = x := by rw [hh, hs2]; rfl
        have hh16 : h < 16 := (half_lt hs2).1
        have HAL2 : Hid (∀ k, k < i + 1 → (halfB (S.getD k 0)).isSome = true) := Lib.hid fun k hk => by
          rcases Nat.lt_or_ge k i with h1 | h1
          · exact HALL.out k h1
          · obtain rfl : k = i := by omega
            rw [HCS.out, hs2]; rfl
        have HHA : Hid (halfAt S i = h) := Lib.hid (by unfold halfAt; rw [HCS.out, hs2]; rfl)
        clear hs2 hh
        obtain ⟨j, hj⟩ : ∃ j, i = 2 * j ∨ i = 2 * j + 1 := ⟨i / 2, by omega⟩
        have hjm : j < m := by have := HM.out; omega
        have eij : Int.tdiv (i : Int) 2 = (j : Int) := by rw [Int.tdiv_eq_ediv_of_nonneg (by omega)]; omega
        obtain ⟨y, hy⟩ : ∃ y, y = (readB l i).getD j 0 := ⟨_, rfl⟩
        obtain ⟨z, hz⟩ : ∃ z, z = 16 * y + h := ⟨_, rfl⟩
        have hstep : y < 16 ∧ (readB l i).set j z = readB l (i + 1) := by
          have hp := pairsB_at (S := S) (j := j) (by have := HM.out; have := HSL.out; omega)
          rw [← HLQ.out] at hp
          have h1 := halfAt_lt S (2 * j)
          have h2 := halfAt_lt S (2 * j + 1)
          rcases hj with rfl | rfl
          · obtain ⟨e1, e2⟩ := readB_even (l := l) (j := j) (by rw [HLL.out]; exact hjm)
            have h3 : y = 0 := by rw [hy, e1]
            have : l.getD j 0 / 16 = 16 * y + h := by rw [hp, ← HHA.out, h3]; omega
            rw [hz, ← this]
            exact ⟨by omega, e2⟩
          · obtain ⟨e1, e2⟩ := readB_odd (l := l) (j := j) (by rw [HLL.out]; exact hjm)
            have h3 : y = halfAt S (2 * j) := by rw [hy, e1, hp]; omega
            have : l.getD j 0 = 16 * y + h := by rw [hp, ← HHA.out, h3]
            rw [hz, ← this]
            exact ⟨by omega, e2⟩
        have hy16 := hstep.1
        have HSET := Lib.hid hstep.2
        have hlen : (readB l i).length = m := by
          rw [readB_length (by have := HLL.out; have := HM.out; omega), HLL.out]
        have d1 : wr.cell? ⟨w.heap.size, j, none⟩ = some (.int .u8 (y : Int)) := HA.out.cell (by rw [hy]; exact u8s_getD _ _ (by rw [hlen]; exact hjm))
        have q1 : wr.frozen? ⟨w.heap.size, j, none⟩ = false := HA.out.free j
        have ez : bits .or .u8 ((y : Int) * 16) (h : Int) = (z : Int) := by
          have h3 : y * 16 ||| h = 16 * y + h := by
            have h4 := Nat.two_pow_add_eq_or_of_lt (i := 4) (b := h) (by omega) y
            rw [Nat.mul_comm y 16]; exact h4.symm
          rw [show ((y : Int) * 16) = ((y * 16 : Nat) : Int) by omega, u8_or_nat _ _ (by omega) (by omega), h3, hz]
        clear hstep hy hlen hz
        repeat (first | go_values | go_skip | go_guarded | go_step)
        refine HF.out.mono ?_
        rintro e w2 ⟨rfl, rfl⟩
        dsimp only
        repeat (first | go_values | go_skip | go_guarded | go_step | go_upon)
        have HA2 : Hid (Arr (w2.setCell ⟨w.heap.size, j, none⟩ (.int .u8 (z : Int))) w.heap.size 5 (u8s (readB l (i + 1)))) := Lib.hid (by
          have h1 := HA.out.set j (.int .u8 (z : Int))
          rw [u8s_set, HSET.out] at h1; exact h1)
        have HB2 : Hid (Below w.heap.size w (w2.setCell ⟨w.heap.size, j, none⟩ (.int .u8 (z : Int)))) := Lib.hid (HBW.out.trans ((Only.setCell (S := fun k => k = w.heap.size) w2 (p := ⟨w.heap.size, j, none⟩) rfl _).below HBW.out.size (fun k hk => by omega)))
        exact ⟨⟨i + 1, by omega, by go_num, HA2.out, HB2.out, HAL2.out⟩, by simp [intOf]; omega⟩
    · have t3 : decide ((i : Int) < (s.size : Int)) = false := by simp only [decide_eq_false_iff_not]; omega
      obtain rfl : i = s.size := by omega
      by_cases hpar : s.size % 2 = 0
      · have tp : ((s.size : Int) % 2 != 0) = false := by simp; omega
        obtain ⟨q, hq⟩ : ∃ q, s.size = 2 * q := ⟨s.size / 2, by omega⟩
        have hmq : m = q := by have := HM.out; omega
        have HOS : Hid (ordsOf s = signsB l) := Lib.hid (by
          rw [HLQ.out, ← HS.out]
          exact pairs_signs (m := q) (by rw [HSL.out, hq]) (fun k hk => HALL.out k (by rw [HSL.out] at hk; exact hk)))
        have HRO : Hid (wr.ownsRow w.heap.size 5 1 (.slice (some ⟨w.heap.size, 0, none⟩) m m) l.length (u8s l)) := Lib.hid (by
          have h1 := HA.out
          rw [show readB l s.size = l by rw [hq, ← hmq, ← HLL.out]; exact readB_all l] at h1
          rw [HLL.out]
          exact full_arr h1 (Nat.le_refl _) (by rw [u8s_length, HLL.out]) (by unfold maxLen; omega))
        have HLT : Hid (∀ x ∈ l, x < 256) := Lib.hid (by rw [HLQ.out]; exact pairsB_lt S)
        clear hq hmq hpar
        repeat (first | go_values | go_skip | go_guarded | go_step | go_upon)
        go_ret2
        exact ⟨⟨_, _, rfl, .inl ⟨rfl, l, HOS.out, HLT.out, HRO.out⟩⟩, HBW.out⟩
      · have tp : ((s.size : Int) % 2 != 0) = true := by simp; omega
        have HOD : Hid (s.size % 2 = 1) := Lib.hid (by omega)
        have HAL3 : Hid (∀ k, k < s.size → (halfB ((ordsOf s).getD k 0)).isSome = true) := Lib.hid (by rw [← HS.out]; exact HALL.out)
        clear hpar
        repeat (first | go_values | go_skip | go_guarded | go_step | go_upon)
        go_ret2
        exact ⟨⟨_, _, rfl, .inr (.inr ⟨rfl, rfl, HOD.out, HAL3.out⟩)⟩, HBW.out⟩
end Go.Proofs.Ytbmplleojddnmaa
