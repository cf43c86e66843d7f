/- Package hex: a dump's lines. -/
import Derived.Test.YtbmplleojddnmaaHxNum
import Derived.Lib.MinMax
namespace Go.Proofs.Ytbmplleojddnmaa
open Go.RowKit

theorem byte_new (W : World) (x : Nat) : Lies (W.alloc (.cells #[.int .u8 (x : Int)] 5)) (.slice (some ⟨W.heap.size, 0, none⟩) 1 1) [x] := const_lies W [x] (0, 0)
theorem own_alloc {W : World} {B : Nat} {e : TypeId} {s : Nat} {v : Value} {n : Nat} {xs : List Value} (h : W.ownsRow B e s v n xs) (o : Obj) : (W.alloc o).ownsRow B e s v n xs := row_only h (Only.alloc (fun _ => False) W o) (fun _ _ h => h)

set_option maxHeartbeats 16000000 in
set_option maxRecDepth 1000000 in
theorem hxdump_any {w : World} {v : Value} {bs : List Nat} (hv : Lies w v bs) (hf : Fits v) (hb : ∀ x ∈ bs, x < 256) (hn : bs.length ≤ 50000000) :
    Calls Try.prog 10 #[v] w fun e w' => e = .returned (.string (strOf (dumpB bs))) ∧ Below w.heap.size w w' := by
  obtain ⟨iU, hiU, hzU, hsU, hbU⟩ := info_u8
  have hsz1 : (Try.prog.info? 5).map (·.size) = some 1 := by rw [hiU, Option.map_some, hsU]
  obtain ⟨a0, c0, rfl⟩ := lies_len hv
  obtain ⟨n, hnn⟩ : ∃ n, n = bs.length := ⟨_, rfl⟩
  have HV := Lib.hid hv
  have HF : Hid (bs.length ≤ c0) := Lib.hid (hf _ _ _ rfl)
  have hcap : n ≤ c0 := by rw [hnn]; exact HF.out
  have HNN := Lib.hid hnn
  have HBS := Lib.hid hb
  have HSZ := Lib.hid hsz1
  rw [← hnn]
  have hn2 : n ≤ 50000000 := by omega
  clear hv hf hnn hb hn hsz1
  go_enter Try.func10, Try.ntmps10
  repeat (first | go_values | go_skip | go_guarded | go_step)
  go_loopw [3, 4] (fun v3 c wr => ∃ q : Nat, 16 * q < n + 16 ∧ c = .int .i64 ((16 * q : Nat) : Int) ∧ wr.ownsRow w.heap.size 5 1 v3 (linesB bs (min (16 * q) n)).length (u8s (linesB bs (min (16 * q) n))) ∧ Below w.heap.size w wr) (fun _ c _ => n + 16 - (intOf c).toNat)
  case atStart => exact ⟨0, by omega, rfl, by rw [show min (16 * 0) n = 0 by omega]; exact ⟨rfl, .inl ⟨rfl, rfl⟩⟩, Below.refl _ _⟩
  case round =>
    obtain ⟨q, hq, rfl, hown, hbw⟩ := hrel
    have HO := Lib.hid hown
    have HBW := Lib.hid hbw
    clear hown hbw
    obtain ⟨a, ha⟩ : ∃ a, a = 16 * q := ⟨_, rfl⟩
    rw [← ha] at HO hq ⊢
    have HAQ := Lib.hid ha
    clear ha
    by_cases hlt : a < n
    · have t3 : decide ((a : Int) < (n : Int)) = true := by simp only [decide_eq_true_eq]; omega
      have hti : (a : Int) < (n : Int) := by omega
      rw [show min a n = a by omega] at HO
      obtain ⟨L0, hL0⟩ : ∃ L, L = linesB bs a := ⟨_, rfl⟩
      have hL0z : L0.length ≤ 650000000 := by rw [hL0]; have := linesB_length bs a; omega
      rw [← hL0] at HO
      have HL0 := Lib.hid hL0
      clear hL0
      obtain ⟨z0, hz0⟩ : ∃ z, z = L0.length := ⟨_, rfl⟩
      rw [← hz0] at HO hL0z
      clear hz0
      have HNUM : Hid (∀ W, Calls Try.prog 11 #[.int .u64 (a : Int)] W fun e w' => e = .returned (.string (strOf (numS a))) ∧ Below W.heap.size W w') := Lib.hid fun W => hxnum_any (by omega)
      obtain ⟨NS, hNS⟩ : ∃ s, s = strOf (numS a) := ⟨_, rfl⟩
      rw [← hNS] at HNUM
      have hNz : NS.size = 16 := by rw [hNS, strOf_size, numS_length]
      obtain ⟨PS, hPS⟩ : ∃ s, s = NS.extract 8 16 := ⟨_, rfl⟩
      have hPo : ordsOf PS = (numS a).drop 8 := by
        rw [hPS, hNS, ords_extract, ords_strOf (numS_lt a), List.take_of_length_le (by rw [List.length_drop, numS_length]; omega)]
      have hPz : PS.size = 8 := by rw [← ordsOf_length, hPo, List.length_drop, numS_length]
      have hex8 : NS.extract 8 16 = PS := hPS.symm
      have HPC : Hid (Lib.strCells PS = u8s ((numS a).drop 8)) := Lib.hid (by rw [strCells_ords, hPo])
      clear hNS hPS hPo
      obtain ⟨h, hh⟩ : ∃ h, h = min (a + 16) n := ⟨_, rfl⟩
      have hah : a ≤ h := by omega
      have hhn : h ≤ n := by omega
      have em : min ((a : Int) + 16) (n : Int) = (h : Int) := by omega
      obtain ⟨m, hm⟩ : ∃ m, m = h - a := ⟨_, rfl⟩
      have HM : Hid (m = min 16 (bs.length - a)) := Lib.hid (by rw [← HNN.out]; omega)
      have HAM : Hid (a + m = min (16 * (q + 1)) n) := Lib.hid (by have := HAQ.out; omega)
      have hm16 : m ≤ 16 := by omega
      have ehm : h - a = m := hm.symm
      have hac : a < c0 := by omega
      have eca : (c0 = a) = False := by simp; omega
      obtain ⟨b, off, rfl, hby⟩ : ∃ b off, a0 = some ⟨b, off, none⟩ ∧ BytesAt w b off bs := by
        obtain ⟨a', c', e, h1⟩ := lies_form HV.out
        cases e
        exact h1 (fun e => by have h2 := HNN.out; rw [e] at h2; simp at h2; omega)
      have HBY := Lib.hid hby
      clear hh hm hby
      repeat (first | go_values | go_skip | go_guarded | go_step)
      refine (HNUM.out wr).mono ?_
      rintro e W1 ⟨rfl, hw1⟩
      have HO1 := Lib.hid (ownsRow_beyond HO.out hw1)
      have HB1 := Lib.hid (HBW.out.trans (hw1.mono HBW.out.size))
      clear hw1
      dsimp only
      repeat (first | ((with_reducible refine wpList_here ?_); refine wpList_at (op := .call { callee := .builtin .append, args := #[.tmp 13, .tmp 17], argTypes := #[22, 9] }) rfl ?_; refine wpList_append_str W1 rfl (.tmp 13) (.tmp 17) 22 9 rfl w.heap.size 5 iU Try.underlying22 Try.underlying9 hiU hzU hsU hbU u3 z0 (u8s L0) rfl HO1.out PS rfl (by omega) HB1.out.size ?_; intro v2 W2 hown2 hg2 _; rw [HPC.out, ← u8s_append, hPz] at hown2; have HO2 := Lib.hid hown2; have HB2 : Hid (Below w.heap.size w W2) := Lib.hid (HB1.out.grown hg2 HB1.out.size (fun k hk => (HO1.out.lt k hk).1)); clear hown2 hg2) | ((with_reducible refine wpList_here ?_); refine wpList_at (op := .call { callee := .builtin .append, args := #[.tmp 19, .tmp 20], argTypes := #[22, 22] }) rfl ?_; refine wpList_append_bytes (W2.alloc (.cells #[.int .u8 58] 5)) rfl (.tmp 19) (.tmp 20) 22 rfl w.heap.size 5 iU Try.underlying22 hiU hzU hsU hbU v2 (z0 + 8) (u8s (L0 ++ (numS a).drop 8)) rfl (own_alloc HO2.out _) (.slice (some ⟨W2.heap.size, 0, none⟩) 1 1) [58] rfl (byte_new W2 58) (by show z0 + 8 + 1 ≤ _; omega) (Nat.le_trans HB2.out.size (by simp)) ?_; intro v3 W3 hown3 hg3 _; rw [← u8s_append, List.append_assoc] at hown3; have HO3 := Lib.hid (show W3.ownsRow w.heap.size 5 1 v3 (z0 + 9) (u8s (L0 ++ lineB bs a 0)) from hown3); have HB3 : Hid (Below w.heap.size w W3) := Lib.hid ((HB2.out.alloc HB2.out.size _).grown hg3 (Nat.le_trans HB2.out.size (by simp)) (fun k hk => (HO2.out.lt k hk).1)); clear hown3 hg3) | go_values | go_skip | go_guarded | go_step)
      clear HO HBW HO1 HB1 HO2 HB2 HNUM
      go_loopw [3, 31] (fun v5 c wr => ∃ j : Nat, j ≤ m ∧ c = .int .i64 (j : Int) ∧ wr.ownsRow w.heap.size 5 1 v5 (z0 + 9 + 3 * j) (u8s (L0 ++ lineB bs a j)) ∧ Below w.heap.size w wr) (fun _ c _ => m - (intOf c).toNat)
      case atStart => exact ⟨0, by omega, rfl, HO3.out, HB3.out⟩
      case round =>
        obtain ⟨j, hj, rfl, hown, hbw⟩ := hrel
        have HO := Lib.hid hown
        have HBW := Lib.hid hbw
        clear hown hbw
        by_cases hjm : j < m
        · have t4 : decide ((j : Int) < (m : Int)) = true := by simp only [decide_eq_true_eq]; omega
          have htj : (j : Int) < (m : Int) := by omega
          obtain ⟨x, hx⟩ : ∃ x, x = bs.getD (a + j) 0 := ⟨_, rfl⟩
          have hx256 : x < 256 := by rw [hx]; exact getD_byte HBS.out _
          have d1 : wr.cell? ⟨b, off + a + j, none⟩ = some (.int .u8 (x : Int)) := by
            have h1 := HBY.out (a + j) (by rw [← HNN.out]; omega)
            rw [hx, ← h1, Nat.add_assoc]
            exact HBW.out.cell (p := ⟨b, off + (a + j), none⟩) (cell_lt h1)
          have HSN : Hid (L0 ++ lineB bs a j ++ [32] ++ [signB (x / 16), signB (x % 16)] = L0 ++ lineB bs a (j + 1)) := Lib.hid (by
            rw [show lineB bs a (j + 1) = lineB bs a j ++ (32 :: signsB [bs.getD (a + j) 0]) from rfl, ← hx, signsB_cons, signsB_nil]
            simp)
          clear hx
          repeat (first | ((with_reducible refine wpList_here ?_); refine wpList_at (op := .call { callee := .builtin .append, args := #[.tmp 35, .tmp 36], argTypes := #[22, 22] }) rfl ?_; refine wpList_append_bytes (wr.alloc (.cells #[.int .u8 32] 5)) rfl (.tmp 35) (.tmp 36) 22 rfl w.heap.size 5 iU Try.underlying22 hiU hzU hsU hbU u3 (z0 + 9 + 3 * j) (u8s (L0 ++ lineB bs a j)) rfl (own_alloc HO.out _) (.slice (some ⟨wr.heap.size, 0, none⟩) 1 1) [32] rfl (byte_new wr 32) (by show z0 + 9 + 3 * j + 1 ≤ _; omega) (Nat.le_trans HBW.out.size (by simp)) ?_; intro v4 W4 hown4 hg4 _; rw [← u8s_append] at hown4; have HO4 := Lib.hid (show W4.ownsRow w.heap.size 5 1 v4 (z0 + 9 + 3 * j + 1) (u8s (L0 ++ lineB bs a j ++ [32])) from hown4); have HB4 : Hid (Below w.heap.size w W4) := Lib.hid ((HBW.out.alloc HBW.out.size _).grown hg4 (Nat.le_trans HBW.out.size (by simp)) (fun k hk => (HO.out.lt k hk).1)); clear hown4 hg4) | go_values | go_skip | go_guarded | go_step)
          refine (hxadd_any HO4.out hx256 (by omega) HB4.out.size).mono ?_
          rintro e w7 ⟨⟨v7, rfl, hown⟩, hb7⟩
          rw [HSN.out] at hown
          have HO7 := Lib.hid (show w7.ownsRow w.heap.size 5 1 v7 (z0 + 9 + 3 * (j + 1)) (u8s (L0 ++ lineB bs a (j + 1))) from hown)
          have HB7 := Lib.hid (HB4.out.trans hb7)
          clear hown hb7
          dsimp only
          repeat (first | go_values | go_skip | go_guarded | go_step | go_upon)
          exact ⟨⟨j + 1, by omega, by go_num, HO7.out, HB7.out⟩, by simp [intOf]; omega⟩
        · have t4 : decide ((j : Int) < (m : Int)) = false := by simp only [decide_eq_false_iff_not]; omega
          obtain rfl : j = m := by omega
          have HEND : Hid (L0 ++ lineB bs a j ++ [10] = linesB bs (min (16 * (q + 1)) n)) := Lib.hid (by
            rw [HL0.out, HAQ.out]
            rw [line_done (l := bs) (q := q) (m := j) (by rw [← HAQ.out, ← HNN.out]; exact hlt) (by rw [← HAQ.out]; exact HM.out), ← HAQ.out, HAM.out])
          repeat (first | ((with_reducible refine wpList_here ?_); refine wpList_at (op := .call { callee := .builtin .append, args := #[.tmp 42, .tmp 43], argTypes := #[22, 22] }) rfl ?_; refine wpList_append_bytes (wr.alloc (.cells #[.int .u8 10] 5)) rfl (.tmp 42) (.tmp 43) 22 rfl w.heap.size 5 iU Try.underlying22 hiU hzU hsU hbU u3 (z0 + 9 + 3 * j) (u8s (L0 ++ lineB bs a j)) rfl (own_alloc HO.out _) (.slice (some ⟨wr.heap.size, 0, none⟩) 1 1) [10] rfl (byte_new wr 10) (by show z0 + 9 + 3 * j + 1 ≤ _; omega) (Nat.le_trans HBW.out.size (by simp)) ?_; intro v4 W4 hown4 hg4 _; rw [← u8s_append, HEND.out] at hown4; have HO4 : Hid (W4.ownsRow w.heap.size 5 1 v4 (linesB bs (min (16 * (q + 1)) n)).length (u8s (linesB bs (min (16 * (q + 1)) n)))) := Lib.hid (by have h1 := hown4.1; rw [u8s_length, Nat.mul_one] at h1; rw [h1]; exact hown4); have HB4 : Hid (Below w.heap.size w W4) := Lib.hid ((HBW.out.alloc HBW.out.size _).grown hg4 (Nat.le_trans HBW.out.size (by simp)) (fun k hk => (HO.out.lt k hk).1)); clear hown4 hg4) | go_values | go_skip | go_guarded | go_step | go_upon)
          exact ⟨⟨q + 1, by have := HAQ.out; omega, by have := HAQ.out; congr 1; omega, HO4.out, HB4.out⟩, by simp [intOf]; omega⟩
    · have t3 : decide ((a : Int) < (n : Int)) = false := by simp only [decide_eq_false_iff_not]; omega
      have HT : Hid (linesB bs (min a n) = dumpB bs) := Lib.hid (by rw [show min a n = n by omega, HNN.out]; rfl)
      have htx := text_of (ownsRow_lies HO.out) 9 Try.underlying9
      rw [HT.out] at htx
      repeat (first | go_values | go_skip | go_guarded | go_step | go_upon)
      go_ret
      exact ⟨rfl, HBW.out⟩
end Go.Proofs.Ytbmplleojddnmaa
