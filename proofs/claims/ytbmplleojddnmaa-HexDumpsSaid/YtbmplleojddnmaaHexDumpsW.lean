/- HexDumps, walked (written by wip/py/hex-dumps.py). -/
import Derived.Test.YtbmplleojddnmaaHxLives
import Derived.Test.YtbmplleojddnmaaHxSigns
import Derived.Test.YtbmplleojddnmaaHxDump
namespace Go.Proofs.Ytbmplleojddnmaa
open Go.RowKit

theorem ext_byte (x k : Nat) : ((x : Int) / 2 ^ (8 * k)) % 256 = ((x / 256 ^ k % 256 : Nat) : Int) := by
  have e : (2 : Int) ^ (8 * k) = ((256 ^ k : Nat) : Int) := by rw [Int.pow_mul]; simp
  rw [e, ← Int.natCast_ediv]; omega

set_option maxHeartbeats 16000000 in
set_option maxRecDepth 1000000 in
theorem hexDumps_walk {w : World} {v0 : Value} {bs : List Nat} (hv0 : Lies w v0 bs) (hf0 : Fits v0) (hb0 : ∀ x ∈ bs, x < 256) (_hm0 : bs.length ≤ maxLen) {xi : Int} (hx0 : 0 ≤ xi) (hx1 : xi ≤ 18446744073709551615) :
    Calls Try.prog 4 #[v0, .int .u64 xi] w fun e w' => e = .returned (.bool true) ∧ Below w.heap.size w w' := by
  obtain ⟨a0, c0, rfl⟩ := lies_len hv0
  obtain ⟨n, hn⟩ : ∃ n, n = bs.length := ⟨_, rfl⟩
  obtain ⟨X, rfl⟩ := Int.eq_ofNat_of_zero_le hx0
  have hXb : X < 18446744073709551616 := by omega
  have HV0 := Lib.hid hv0
  have HF0 := Lib.hid hf0
  have HBS := Lib.hid hb0
  have HNN := Lib.hid hn
  rw [← hn]
  clear hv0 hf0 hb0 hx0 hx1
  by_cases h1 : n ≤ 200
  · have tn : decide (200 < (n : Int)) = false := by simp only [decide_eq_false_iff_not]; omega
    obtain ⟨iU, hiU, hzU, hsU, hbU⟩ := info_u8
    obtain ⟨NS, hNS⟩ : ∃ s, s = strOf (numS X) := ⟨_, rfl⟩
    have HNUM : Hid (∀ W, Calls Try.prog 11 #[.int .u64 (X : Int)] W fun e w' => e = .returned (.string NS) ∧ Below W.heap.size W w') := Lib.hid fun W => by rw [hNS]; exact hxnum_any hXb
    have HNS : Hid (strOf (signsB (eightB X)) = NS) := Lib.hid (by rw [eight_signs, hNS])
    obtain ⟨DT, hDT⟩ : ∃ s, s = strOf (dumpB bs) := ⟨_, rfl⟩
    have HDU : Hid (∀ W, Below w.heap.size w W → Calls Try.prog 10 #[.slice a0 n c0] W fun e w' => e = .returned (.string DT) ∧ Below W.heap.size W w') := Lib.hid fun W hW => by
      rw [hDT, hn]; exact hxdump_any (lies_keep HV0.out hW) HF0.out HBS.out (by omega)
    have HDT : Hid (strOf (linesB bs n) = DT) := Lib.hid (by rw [hDT, hn]; rfl)
    have HST0 : Hid ((⟨#[]⟩ : ByteArray) = strOf (linesB bs 0)) := Lib.hid rfl
    clear hn hNS hDT HF0
    go_enter Try.func4, Try.ntmps4
    repeat (first | go_values | go_skip | go_guarded | go_step | go_upon)
    refine (hxlives_any w).mono ?_
    rintro e W0 ⟨rfl, hw0⟩
    have HB0 := Lib.hid hw0
    clear hw0
    dsimp only
    repeat (first | go_values | go_skip | go_guarded | go_step)
    go_loopw [5, 20] (fun v5 c wr => ∃ i : Nat, i ≤ n ∧ c = .int .i64 i ∧ v5 = .string (strOf (linesB bs i)) ∧ Below w.heap.size w wr) (fun _ c _ => n - (intOf c).toNat)
    case atStart => exact ⟨0, by omega, rfl, congrArg Value.string HST0.out, HB0.out⟩
    case round =>
      obtain ⟨i, hi, rfl, rfl, hbw⟩ := hrel
      have HBW := Lib.hid hbw
      obtain ⟨want, hwant⟩ : ∃ s, s = strOf (linesB bs i) := ⟨_, rfl⟩
      have hwz : want.size ≤ 2600 := by rw [hwant, strOf_size]; have := linesB_length bs i; omega
      have HW := Lib.hid hwant
      rw [← hwant]
      clear hwant hbw
      by_cases hlt : i < n
      · have t3 : decide ((i : Int) < (n : Int)) = true := by simp only [decide_eq_true_eq]; omega
        have hti : (i : Int) < (n : Int) := by omega
        obtain ⟨b, off, rfl, hby⟩ : ∃ b off, a0 = some ⟨b, off, none⟩ ∧ BytesAt w b off bs := by
          obtain ⟨a', c', e, h1⟩ := lies_form HV0.out
          cases e
          exact h1 (fun e => by have h2 := HNN.out; rw [e] at h2; simp at h2; omega)
        obtain ⟨x, hx⟩ : ∃ x, x = bs.getD i 0 := ⟨_, rfl⟩
        have hx256 : x < 256 := by rw [hx]; exact getD_byte HBS.out i
        have d1 : wr.cell? ⟨b, off + i, none⟩ = some (.int .u8 (x : Int)) := by
          have h := hby i (by rw [← HNN.out]; exact hlt)
          rw [hx, ← h]
          exact HBW.out.cell (p := ⟨b, off + i, none⟩) (cell_lt h)
        obtain ⟨TX, hTX⟩ : ∃ s, s = strOf (signsB [x]) := ⟨_, rfl⟩
        obtain ⟨TI, hTI⟩ : ∃ s, s = strOf (signsB [i]) := ⟨_, rfl⟩
        have zX : TX.size = 2 := by rw [hTX, strOf_size, signsB_len]; rfl
        have zI : TI.size = 2 := by rw [hTI, strOf_size, signsB_len]; rfl
        have HTX := Lib.hid hTX
        have HTI := Lib.hid hTI
        clear hTX hTI hby
        by_cases hk : i % 16 = 0
        · by_cases he : i + 1 = n
          ·
            have tk : ((i : Int) % 16 == 0) = true := by simp; omega
            have tf : ((i : Int) % 16 == 15) = false := by simp; omega
            have te : ((i : Int) == (n : Int) - 1) = true := by simp; omega
            have HNX : Hid (want ++ (⟨#[48, 48, 48, 48, 48, 48]⟩ ++ TI ++ ⟨#[58]⟩) ++ (⟨#[32]⟩ ++ TX) ++ ⟨#[10]⟩ = strOf (linesB bs (i + 1))) := Lib.hid (by
              rw [linesB, ← hx, HW.out, HTX.out, HTI.out]
              rw [if_pos (by omega), place_small i (by omega), if_pos (by rw [← HNN.out]; omega)]
              apply ByteArray.ext; simp [strOf])
            clear hx
            repeat (first | go_values | go_skip | go_guarded | go_step)
            refine calls_name ?_
            intro W1 hW1
            have HLW : Hid (Lies W1 (.slice (some ⟨wr.heap.size, 0, none⟩) 1 1) [i]) := Lib.hid (by rw [hW1.out]; exact byte_new wr i)
            have HB1 : Hid (Below w.heap.size w W1) := Lib.hid (by rw [hW1.out]; exact HBW.out.alloc HBW.out.size _)
            clear hW1
            have hcI := lsigns_any HLW.out (by intro y hy; rw [List.mem_singleton.1 hy]; omega) (by simp)
            rw [← HTI.out] at hcI
            refine hcI.mono ?_
            clear hcI
            rintro e W2 ⟨rfl, hw2⟩
            have HB2 := Lib.hid (HB1.out.trans (hw2.mono HB1.out.size))
            clear hw2 HB1 HLW
            dsimp only
            repeat (first | go_values | go_skip | go_guarded | go_step)
            refine calls_name ?_
            intro W3 hW3
            have HLW : Hid (Lies W3 (.slice (some ⟨W2.heap.size, 0, none⟩) 1 1) [x]) := Lib.hid (by rw [hW3.out]; exact byte_new W2 x)
            have HB3 : Hid (Below w.heap.size w W3) := Lib.hid (by rw [hW3.out]; exact HB2.out.alloc HB2.out.size _)
            clear hW3
            have hcX := lsigns_any HLW.out (by intro y hy; rw [List.mem_singleton.1 hy]; exact hx256) (by simp)
            rw [← HTX.out] at hcX
            refine hcX.mono ?_
            clear hcX
            rintro e W4 ⟨rfl, hw4⟩
            have HB4 := Lib.hid (HB3.out.trans (hw4.mono HB3.out.size))
            clear hw4 HB3 HLW
            dsimp only
            repeat (first | go_values | go_skip | go_guarded | go_step | go_upon)
            exact ⟨⟨i + 1, by omega, by go_num, congrArg Value.string HNX.out, HB4.out⟩, by simp [intOf]; omega⟩
          ·
            have tk : ((i : Int) % 16 == 0) = true := by simp; omega
            have tf : ((i : Int) % 16 == 15) = false := by simp; omega
            have te : ((i : Int) == (n : Int) - 1) = false := by simp; omega
            have HNX : Hid (want ++ (⟨#[48, 48, 48, 48, 48, 48]⟩ ++ TI ++ ⟨#[58]⟩) ++ (⟨#[32]⟩ ++ TX) = strOf (linesB bs (i + 1))) := Lib.hid (by
              rw [linesB, ← hx, HW.out, HTX.out, HTI.out]
              rw [if_pos (by omega), place_small i (by omega), if_neg (by rw [← HNN.out]; omega)]
              apply ByteArray.ext; simp [strOf])
            clear hx
            repeat (first | go_values | go_skip | go_guarded | go_step)
            refine calls_name ?_
            intro W1 hW1
            have HLW : Hid (Lies W1 (.slice (some ⟨wr.heap.size, 0, none⟩) 1 1) [i]) := Lib.hid (by rw [hW1.out]; exact byte_new wr i)
            have HB1 : Hid (Below w.heap.size w W1) := Lib.hid (by rw [hW1.out]; exact HBW.out.alloc HBW.out.size _)
            clear hW1
            have hcI := lsigns_any HLW.out (by intro y hy; rw [List.mem_singleton.1 hy]; omega) (by simp)
            rw [← HTI.out] at hcI
            refine hcI.mono ?_
            clear hcI
            rintro e W2 ⟨rfl, hw2⟩
            have HB2 := Lib.hid (HB1.out.trans (hw2.mono HB1.out.size))
            clear hw2 HB1 HLW
            dsimp only
            repeat (first | go_values | go_skip | go_guarded | go_step)
            refine calls_name ?_
            intro W3 hW3
            have HLW : Hid (Lies W3 (.slice (some ⟨W2.heap.size, 0, none⟩) 1 1) [x]) := Lib.hid (by rw [hW3.out]; exact byte_new W2 x)
            have HB3 : Hid (Below w.heap.size w W3) := Lib.hid (by rw [hW3.out]; exact HB2.out.alloc HB2.out.size _)
            clear hW3
            have hcX := lsigns_any HLW.out (by intro y hy; rw [List.mem_singleton.1 hy]; exact hx256) (by simp)
            rw [← HTX.out] at hcX
            refine hcX.mono ?_
            clear hcX
            rintro e W4 ⟨rfl, hw4⟩
            have HB4 := Lib.hid (HB3.out.trans (hw4.mono HB3.out.size))
            clear hw4 HB3 HLW
            dsimp only
            repeat (first | go_values | go_skip | go_guarded | go_step | go_upon)
            exact ⟨⟨i + 1, by omega, by go_num, congrArg Value.string HNX.out, HB4.out⟩, by simp [intOf]; omega⟩
        · by_cases hf : i % 16 = 15
          ·
            have tk : ((i : Int) % 16 == 0) = false := by simp; omega
            have tf : ((i : Int) % 16 == 15) = true := by simp; omega
            have HNX : Hid (want ++ (⟨#[32]⟩ ++ TX) ++ ⟨#[10]⟩ = strOf (linesB bs (i + 1))) := Lib.hid (by
              rw [linesB, ← hx, HW.out, HTX.out]
              rw [if_neg (by omega), if_pos (by rw [← HNN.out]; omega)]
              apply ByteArray.ext; simp [strOf])
            clear hx
            repeat (first | go_values | go_skip | go_guarded | go_step)
            refine calls_name ?_
            intro W3 hW3
            have HLW : Hid (Lies W3 (.slice (some ⟨wr.heap.size, 0, none⟩) 1 1) [x]) := Lib.hid (by rw [hW3.out]; exact byte_new wr x)
            have HB3 : Hid (Below w.heap.size w W3) := Lib.hid (by rw [hW3.out]; exact HBW.out.alloc HBW.out.size _)
            clear hW3
            have hcX := lsigns_any HLW.out (by intro y hy; rw [List.mem_singleton.1 hy]; exact hx256) (by simp)
            rw [← HTX.out] at hcX
            refine hcX.mono ?_
            clear hcX
            rintro e W4 ⟨rfl, hw4⟩
            have HB4 := Lib.hid (HB3.out.trans (hw4.mono HB3.out.size))
            clear hw4 HB3 HLW
            dsimp only
            repeat (first | go_values | go_skip | go_guarded | go_step | go_upon)
            exact ⟨⟨i + 1, by omega, by go_num, congrArg Value.string HNX.out, HB4.out⟩, by simp [intOf]; omega⟩
          · by_cases he : i + 1 = n
            ·
              have tk : ((i : Int) % 16 == 0) = false := by simp; omega
              have tf : ((i : Int) % 16 == 15) = false := by simp; omega
              have te : ((i : Int) == (n : Int) - 1) = true := by simp; omega
              have HNX : Hid (want ++ (⟨#[32]⟩ ++ TX) ++ ⟨#[10]⟩ = strOf (linesB bs (i + 1))) := Lib.hid (by
                rw [linesB, ← hx, HW.out, HTX.out]
                rw [if_neg (by omega), if_pos (by rw [← HNN.out]; omega)]
                apply ByteArray.ext; simp [strOf])
              clear hx
              repeat (first | go_values | go_skip | go_guarded | go_step)
              refine calls_name ?_
              intro W3 hW3
              have HLW : Hid (Lies W3 (.slice (some ⟨wr.heap.size, 0, none⟩) 1 1) [x]) := Lib.hid (by rw [hW3.out]; exact byte_new wr x)
              have HB3 : Hid (Below w.heap.size w W3) := Lib.hid (by rw [hW3.out]; exact HBW.out.alloc HBW.out.size _)
              clear hW3
              have hcX := lsigns_any HLW.out (by intro y hy; rw [List.mem_singleton.1 hy]; exact hx256) (by simp)
              rw [← HTX.out] at hcX
              refine hcX.mono ?_
              clear hcX
              rintro e W4 ⟨rfl, hw4⟩
              have HB4 := Lib.hid (HB3.out.trans (hw4.mono HB3.out.size))
              clear hw4 HB3 HLW
              dsimp only
              repeat (first | go_values | go_skip | go_guarded | go_step | go_upon)
              exact ⟨⟨i + 1, by omega, by go_num, congrArg Value.string HNX.out, HB4.out⟩, by simp [intOf]; omega⟩
            ·
              have tk : ((i : Int) % 16 == 0) = false := by simp; omega
              have tf : ((i : Int) % 16 == 15) = false := by simp; omega
              have te : ((i : Int) == (n : Int) - 1) = false := by simp; omega
              have HNX : Hid (want ++ (⟨#[32]⟩ ++ TX) = strOf (linesB bs (i + 1))) := Lib.hid (by
                rw [linesB, ← hx, HW.out, HTX.out]
                rw [if_neg (by omega), if_neg (by rw [← HNN.out]; omega)]
                apply ByteArray.ext; simp [strOf])
              clear hx
              repeat (first | go_values | go_skip | go_guarded | go_step)
              refine calls_name ?_
              intro W3 hW3
              have HLW : Hid (Lies W3 (.slice (some ⟨wr.heap.size, 0, none⟩) 1 1) [x]) := Lib.hid (by rw [hW3.out]; exact byte_new wr x)
              have HB3 : Hid (Below w.heap.size w W3) := Lib.hid (by rw [hW3.out]; exact HBW.out.alloc HBW.out.size _)
              clear hW3
              have hcX := lsigns_any HLW.out (by intro y hy; rw [List.mem_singleton.1 hy]; exact hx256) (by simp)
              rw [← HTX.out] at hcX
              refine hcX.mono ?_
              clear hcX
              rintro e W4 ⟨rfl, hw4⟩
              have HB4 := Lib.hid (HB3.out.trans (hw4.mono HB3.out.size))
              clear hw4 HB3 HLW
              dsimp only
              repeat (first | go_values | go_skip | go_guarded | go_step | go_upon)
              exact ⟨⟨i + 1, by omega, by go_num, congrArg Value.string HNX.out, HB4.out⟩, by simp [intOf]; omega⟩
      · have t3 : decide ((i : Int) < (n : Int)) = false := by simp only [decide_eq_false_iff_not]; omega
        obtain rfl : i = n := by omega
        obtain rfl : want = DT := by rw [HW.out, HDT.out]
        clear HW HDT
        repeat (first | go_values | go_skip | go_guarded | go_step)
        obtain ⟨wq, hwq⟩ : ∃ wq, wq = wr := ⟨_, rfl⟩
        subst hwq
        go_loopw [8, 9] (fun v8 c wr => ∃ k : Nat, k ≤ 8 ∧ c = .int .i64 ((k : Int) - 1) ∧ wr.ownsRow w.heap.size 5 1 v8 (8 - k) (u8s ((eightB X).take (8 - k))) ∧ Below w.heap.size w wr) (fun _ c _ => (intOf c + 1).toNat)
        case atStart => exact ⟨8, by omega, rfl, ⟨rfl, .inl ⟨rfl, rfl⟩⟩, HBW.out⟩
        case round =>
          obtain ⟨k, hk, rfl, hown, hbw⟩ := hrel
          have HO := Lib.hid hown
          have HBR := Lib.hid hbw
          clear hown hbw
          cases k with
          | zero =>
            have t5 : decide ((0 : Int) ≤ ((0 : Nat) : Int) - 1) = false := by decide
            have HOE : Hid (wr.ownsRow w.heap.size 5 1 u8 8 (u8s (eightB X))) := Lib.hid HO.out
            clear HO
            repeat (first | go_values | go_skip | go_guarded | go_step)
            refine (HDU.out wr HBR.out).mono ?_
            rintro e W5 ⟨rfl, hw5⟩
            have HB5 := Lib.hid (HBR.out.trans (hw5.mono HBR.out.size))
            have HO5 := Lib.hid (ownsRow_beyond HOE.out hw5)
            clear hw5 HOE
            dsimp only
            repeat (first | go_values | go_skip | go_guarded | go_step | go_upon)
            refine (HNUM.out W5).mono ?_
            rintro e W6 ⟨rfl, hw6⟩
            have HB6 := Lib.hid (HB5.out.trans (hw6.mono HB5.out.size))
            have HO6 := Lib.hid (ownsRow_beyond HO5.out hw6)
            clear hw6 HO5
            dsimp only
            have HS8 := Lib.hid (lsigns_any (ownsRow_lies HO6.out) (fun y hy => by obtain ⟨j, _, rfl⟩ := List.mem_map.1 hy; exact Nat.mod_lt _ (by decide)) (by rw [eightB_length]; omega))
            rw [HNS.out] at HS8
            repeat (first | go_values | go_skip | go_guarded | go_step | go_upon)
            refine HS8.out.mono ?_
            rintro e W7 ⟨rfl, hw7⟩
            have HB7 := Lib.hid (HB6.out.trans (hw7.mono HB6.out.size))
            clear hw7 HS8 HO6
            dsimp only
            repeat (first | go_values | go_skip | go_guarded | go_step | go_upon)
            go_ret
            exact ⟨rfl, HB7.out⟩
          | succ y =>
            have e9 : ((y + 1 : Nat) : Int) - 1 = (y : Int) := by omega
            rw [e9]
            have t5 : decide ((0 : Int) ≤ (y : Int)) = true := by simp only [decide_eq_true_eq]; omega
            obtain ⟨z, hz⟩ : ∃ z, z = X / 256 ^ y % 256 := ⟨_, rfl⟩
            have ez : ((X : Int) / 2 ^ (8 * y)) % 256 = (z : Int) := by rw [ext_byte, hz]
            have HTK : Hid ((eightB X).take (8 - (y + 1)) ++ [z] = (eightB X).take (8 - y)) := Lib.hid (by
              have h1 := eightB_at X (i := 7 - y) (by omega)
              rw [show 7 - (7 - y) = y by omega, ← hz] at h1
              rw [show 8 - (y + 1) = 7 - y by omega, show 8 - y = 7 - y + 1 by omega, List.take_add_one, h1]; rfl)
            clear hz
            repeat (first | ((with_reducible refine wpList_here ?_); refine wpList_at (op := .call { callee := .builtin .append, args := #[.tmp 59, .tmp 65], argTypes := #[22, 22] }) rfl ?_; refine wpList_append_bytes (wr.alloc (.cells #[.int .u8 (z : Int)] 5)) rfl (.tmp 59) (.tmp 65) 22 rfl w.heap.size 5 iU Try.underlying22 hiU hzU hsU hbU u8 (8 - (y + 1)) (u8s ((eightB X).take (8 - (y + 1)))) rfl (own_alloc HO.out _) (.slice (some ⟨wr.heap.size, 0, none⟩) 1 1) [z] rfl (byte_new wr z) (by show 8 - (y + 1) + 1 ≤ _; omega) (Nat.le_trans HBR.out.size (by simp)) ?_; intro v9 W9 hown9 hg9 _; rw [← u8s_append, HTK.out] at hown9; have HO9 : Hid (W9.ownsRow w.heap.size 5 1 v9 (8 - y) (u8s ((eightB X).take (8 - y)))) := Lib.hid (by rw [show 8 - y = 8 - (y + 1) + 1 by omega] at hown9 ⊢; exact hown9); have HB9 : Hid (Below w.heap.size w W9) := Lib.hid ((HBR.out.alloc HBR.out.size _).grown hg9 (Nat.le_trans HBR.out.size (by simp)) (fun k hk => (HO.out.lt k hk).1)); clear hown9 hg9) | go_values | go_skip | go_guarded | go_step | go_upon)
            exact ⟨⟨y, by omega, rfl, HO9.out, HB9.out⟩, by simp [intOf]⟩
  · have tn : decide (200 < (n : Int)) = true := by simp only [decide_eq_true_eq]; omega
    clear hn HV0 HF0 HBS
    go_enter Try.func4, Try.ntmps4
    repeat (first | go_values | go_skip | go_guarded | go_step | go_upon)
    refine (hxlives_any w).mono ?_
    rintro e W1 ⟨rfl, hw1⟩
    have HBW1 := Lib.hid hw1
    clear hw1
    dsimp only
    repeat (first | go_values | go_skip | go_guarded | go_step | go_upon)
    refine (hxlives_any W1).mono ?_
    rintro e W2 ⟨rfl, hw2⟩
    have HB := Lib.hid (HBW1.out.trans (hw2.mono HBW1.out.size))
    clear hw2 HBW1
    dsimp only
    repeat (first | go_values | go_skip | go_guarded | go_step | go_upon)
    go_ret
    exact ⟨rfl, HB.out⟩
end Go.Proofs.Ytbmplleojddnmaa
