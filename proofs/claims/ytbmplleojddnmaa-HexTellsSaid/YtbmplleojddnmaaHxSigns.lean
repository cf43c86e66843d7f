/- The law's own signs of bytes. -/
import Derived.Test.YtbmplleojddnmaaHxL
import Derived.WalkSmall
namespace Go.Proofs.Ytbmplleojddnmaa
open Go.RowKit

set_option maxHeartbeats 8000000 in
set_option maxRecDepth 1000000 in
theorem lsigns_any {w : World} {v : Value} {bs : List Nat} (hv : Lies w v bs) (hb : ∀ x ∈ bs, x < 256) (hn : bs.length ≤ 400000000) :
    Calls Try.prog 8 #[v] w fun e w' => e = .returned (.string (strOf (signsB bs))) ∧ Below w.heap.size w w' := by
  obtain ⟨a, c, rfl, hform⟩ := lies_form hv
  obtain ⟨n, hnn⟩ : ∃ n, n = bs.length := ⟨_, rfl⟩
  have HF := Lib.hid hform
  have HNN := Lib.hid hnn
  have HBS := Lib.hid hb
  rw [← hnn]
  have hn2 : n ≤ 400000000 := by omega
  have HST0 : Hid ((⟨#[]⟩ : ByteArray) = strOf (signsB (bs.take 0))) := Lib.hid (by rw [List.take_zero]; rfl)
  clear hv hform hnn hb hn
  go_enter Try.func8, Try.ntmps8
  repeat (first | go_values | go_skip | go_guarded | go_step)
  go_loopw [3, 8] (fun v3 c wr => ∃ i : Nat, i ≤ n ∧ c = .int .i64 i ∧ v3 = .string (strOf (signsB (bs.take i))) ∧ Below w.heap.size w wr) (fun _ c _ => n - (intOf c).toNat)
  case atStart => exact ⟨0, by omega, rfl, congrArg Value.string HST0.out, Below.refl _ _⟩
  case round =>
    obtain ⟨i, hi, rfl, rfl, hbw⟩ := hrel
    have HBW := Lib.hid hbw
    obtain ⟨want, hwant⟩ : ∃ s, s = strOf (signsB (bs.take i)) := ⟨_, rfl⟩
    have hwz : want.size ≤ 800000000 := by rw [hwant, strOf_size, signsB_len, List.length_take, ← HNN.out]; omega
    have HW := Lib.hid hwant
    rw [← hwant]
    clear hwant hbw
    by_cases hlt : i < n
    · have t3 : decide ((i : Int) < (n : Int)) = true := by simp only [decide_eq_true_eq]; omega
      have hti : (i : Int) < (n : Int) := by omega
      obtain ⟨b, off, rfl, hby⟩ := HF.out (fun e => by have h := HNN.out; rw [e] at h; simp at h; omega)
      obtain ⟨x, hx⟩ : ∃ x, x = bs.getD i 0 := ⟨_, rfl⟩
      have hx256 : x < 256 := by rw [hx]; exact getD_byte HBS.out i
      have d1 : wr.cell? ⟨b, off + i, none⟩ = some (.int .u8 (x : Int)) := by
        have h := hby i (by rw [← HNN.out]; exact hlt)
        rw [hx, ← h]
        exact HBW.out.cell (p := ⟨b, off + i, none⟩) (cell_lt h)
      obtain ⟨p, hp⟩ : ∃ p, p = x / 16 := ⟨_, rfl⟩
      obtain ⟨q, hq⟩ : ∃ q, q = x % 16 := ⟨_, rfl⟩
      have e0 : Int.tdiv (x : Int) 16 = (p : Int) := by rw [Int.tdiv_eq_ediv_of_nonneg (by omega)]; omega
      have e1 : Int.tmod (x : Int) 16 = (q : Int) := by rw [Int.tmod_eq_emod_of_nonneg (by omega)]; omega
      have hp16 : p < 16 := by omega
      have hq16 : q < 16 := by omega
      have hxp : (⟨#[48, 49, 50, 51, 52, 53, 54, 55, 56, 57, 97, 98, 99, 100, 101, 102]⟩ : ByteArray).extract p (p + 1) = strOf [signB p] := hex_cut p hp16
      have hxq : (⟨#[48, 49, 50, 51, 52, 53, 54, 55, 56, 57, 97, 98, 99, 100, 101, 102]⟩ : ByteArray).extract q (q + 1) = strOf [signB q] := hex_cut q hq16
      have z1 : ∀ y, (strOf [signB y]).size = 1 := fun y => by rw [strOf_size]; rfl
      have HNX : Hid (want ++ (strOf [signB p] ++ strOf [signB q]) = strOf (signsB (bs.take (i + 1)))) := Lib.hid (by
        have hl : i < bs.length := by rw [← HNN.out]; exact hlt
        have hx2 : bs[i] = x := by rw [hx]; simp [List.getD, hl]
        rw [List.take_succ_eq_append_getElem hl, signsB_snoc, hx2, ← hp, ← hq, HW.out, ← strOf_append, ← strOf_append]
        congr 1)
      clear hx hp hq hby
      repeat (first | go_values | go_skip | go_guarded | go_step)
      go_quiet (fail)
      repeat (first | go_values | go_skip | go_guarded | go_step | go_upon)
      exact ⟨⟨i + 1, by omega, by go_num, congrArg Value.string HNX.out, below_drewN HBW.out _⟩, by simp [intOf]; omega⟩
    · have t3 : decide ((i : Int) < (n : Int)) = false := by simp only [decide_eq_false_iff_not]; omega
      obtain rfl : i = n := by omega
      have HT : Hid (want = strOf (signsB bs)) := Lib.hid (by rw [HW.out, List.take_of_length_le (by rw [← HNN.out]; exact Nat.le_refl _)])
      repeat (first | go_values | go_skip | go_guarded | go_step | go_upon)
      go_ret
      exact ⟨by rw [HT.out]; rfl, HBW.out⟩
end Go.Proofs.Ytbmplleojddnmaa
