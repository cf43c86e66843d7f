/- Package hex: the signs of bytes; the law's own signs. -/
import Derived.Test.YtbmplleojddnmaaHxAdd
namespace Go.Proofs.Ytbmplleojddnmaa
open Go.RowKit

set_option maxHeartbeats 8000000 in
set_option maxRecDepth 1000000 in
theorem hxtext_any {w : World} {v : Value} {bs : List Nat} (hv : Lies w v bs) (hb : ∀ x ∈ bs, x < 256) (hn : bs.length ≤ 400000000) :
    Calls Try.prog 9 #[v] w fun e w' => e = .returned (.string (strOf (signsB bs))) ∧ Below w.heap.size w w' := by
  obtain ⟨iU, hiU, hzU, hsU, hbU⟩ := info_u8
  obtain ⟨a, c, rfl, hform⟩ := lies_form hv
  obtain ⟨n, hnn⟩ : ∃ n, n = bs.length := ⟨_, rfl⟩
  have HF := Lib.hid hform
  have HNN := Lib.hid hnn
  have HBS := Lib.hid hb
  rw [← hnn]
  have hn2 : n ≤ 400000000 := by omega
  clear hv hform hnn hb hn
  obtain ⟨m, hm⟩ : ∃ m, m = 2 * n := ⟨_, rfl⟩
  have e2 : (2 : Int) * (n : Int) = (m : Int) := by omega
  have hm2 : m ≤ 800000000 := by omega
  clear hm
  go_enter Try.func9, Try.ntmps9
  repeat (first | (refine wpList_make_own w rfl (.const (.int .i64 0)) (.tmp 8) 22 rfl w.heap.size 5 iU (.int .u8 0) 1 Try.underlying22 hiU hzU hsU .i64 .i64 _ m rfl rfl rfl (by rw [hbU]; omega) (by unfold maxLen; omega) (Nat.le_refl _) ?_; intro W1 hown1 hg1; have HO1 := Lib.hid hown1; have HB1 : Hid (Below w.heap.size w W1) := Lib.hid ((Below.refl w.heap.size w).grown hg1 (Nat.le_refl _) (fun k hk => by cases hk)); clear hown1 hg1) | go_values | go_skip | go_guarded | go_step)
  go_loopw [3, 12] (fun v3 c wr => ∃ i : Nat, i ≤ n ∧ c = .int .i64 i ∧ wr.ownsRow w.heap.size 5 1 v3 (2 * i) (u8s (signsB (bs.take i))) ∧ Below w.heap.size w wr) (fun _ c _ => n - (intOf c).toNat)
  case atStart => exact ⟨0, by omega, rfl, by simpa [signsB, u8s] using HO1.out, HB1.out⟩
  case round =>
    obtain ⟨i, hi, rfl, hown, hbw⟩ := hrel
    have HO := Lib.hid hown
    have HBW := Lib.hid hbw
    obtain ⟨v3, hv3⟩ : ∃ v, v = u3 := ⟨_, rfl⟩
    clear hown hbw
    by_cases hlt : i < n
    · have t3 : decide ((i : Int) < (n : Int)) = true := by simp only [decide_eq_true_eq]; omega
      have hti : (i : Int) < (n : Int) := by omega
      obtain ⟨b, off, rfl, hby⟩ := HF.out (fun e => by have h := HNN.out; rw [e] at h; simp at h; omega)
      obtain ⟨x, hx⟩ : ∃ x, x = bs.getD i 0 := ⟨_, rfl⟩
      have hx256 : x < 256 := by rw [hx]; exact getD_byte HBS.out i
      have d1 : wr.cell? ⟨b, off + i, none⟩ = some (.int .u8 (x : Int)) := by
        have h := hby i (by rw [← HNN.out]; exact hlt)
        rw [hx, ← h]
        exact HBW.out.cell (p := ⟨b, off + i, none⟩) (cell_lt h)
      have HSN : Hid (signsB (bs.take (i + 1)) = signsB (bs.take i) ++ [signB (x / 16), signB (x % 16)]) := Lib.hid (by
        have hl : i < bs.length := by rw [← HNN.out]; exact hlt
        have hx2 : bs[i] = x := by rw [hx]; simp [List.getD, hl]
        rw [List.take_succ_eq_append_getElem hl, signsB_snoc, hx2])
      clear hx hby
      repeat (first | go_values | go_skip | go_guarded | go_step)
      refine (hxadd_any HO.out hx256 (by omega) HBW.out.size).mono ?_
      rintro e w7 ⟨⟨v7, rfl, hown⟩, hb7⟩
      rw [← HSN.out] at hown
      have HO7 := Lib.hid hown
      have HB7 := Lib.hid (HBW.out.trans hb7)
      clear hown hb7
      dsimp only
      repeat (first | go_values | go_skip | go_guarded | go_step | go_upon)
      exact ⟨⟨i + 1, by omega, by go_num, HO7.out, HB7.out⟩, by simp [intOf]; omega⟩
    · have t3 : decide ((i : Int) < (n : Int)) = false := by simp only [decide_eq_false_iff_not]; omega
      obtain rfl : i = n := by omega
      have htx := text_of (ownsRow_lies HO.out) 9 Try.underlying9
      have HT : Hid (bs.take i = bs) := Lib.hid (List.take_of_length_le (by rw [← HNN.out]; exact Nat.le_refl _))
      rw [HT.out] at htx
      repeat (first | go_values | go_skip | go_guarded | go_step | go_upon)
      go_ret
      exact ⟨rfl, HBW.out⟩
end Go.Proofs.Ytbmplleojddnmaa
