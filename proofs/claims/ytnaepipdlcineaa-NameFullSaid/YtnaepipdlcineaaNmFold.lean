/- Package name: what a text is folded to; the law's own signs. -/
import Derived.Test.YtnaepipdlcineaaNmRight
namespace Go.Proofs.Ytnaepipdlcineaa
open Go.RowKit

theorem fold_take {l : List Nat} {k : Nat} (h : k < l.length) : foldN (l.take (k + 1)) = putN (foldN (l.take k)) (l.getD k 0) := by
  unfold foldN
  rw [List.take_succ_eq_append_getElem h, List.foldl_append, show l.getD k 0 = l[k] by simp [List.getD, List.getElem?_eq_getElem h]]
  rfl
theorem fold_stop {l : List Nat} {k : Nat} (h : 16 ≤ (foldN (l.take k)).length) : foldN l = foldN (l.take k) := by
  conv => lhs; rw [← List.take_append_drop k l]
  unfold foldN at h ⊢
  rw [List.foldl_append, put_full h]
set_option maxHeartbeats 8000000 in
set_option maxRecDepth 1000000 in
theorem nmfold_any (w : World) (s : ByteArray) (hs : s.size ≤ 1000000000000) :
    Calls Try.prog 12 #[.string s] w fun e w' => e = .returned (.string (strOf (foldN (ordsOf s)))) ∧ Below w.heap.size w w' := by
  obtain ⟨iU, hiU, hzU, hsU, hbU⟩ := info_u8
  go_enter Try.func12, Try.ntmps12
  go_wp2_with fail
  go_loopw [3, 4] (fun v3 c wr => ∃ k : Nat, k ≤ s.size ∧ c = .int .i64 (k : Int) ∧ wr.ownsRow w.heap.size 5 1 v3 (foldN ((ordsOf s).take k)).length (u8s (foldN ((ordsOf s).take k))) ∧ Below w.heap.size w wr) (fun _ c _ => s.size - (intOf c).toNat)
  case atStart => exact ⟨0, Nat.zero_le _, rfl, ⟨rfl, .inl ⟨rfl, rfl⟩⟩, Below.refl _ _⟩
  case round =>
    obtain ⟨k, hk, rfl, hown, hbw⟩ := hrel
    obtain ⟨m, hm⟩ : ∃ m, m = (foldN ((ordsOf s).take k)).length := ⟨_, rfl⟩
    obtain ⟨xs, hxs⟩ : ∃ xs, xs = foldN ((ordsOf s).take k) := ⟨_, rfl⟩
    have hm16 : m ≤ 16 := by rw [hm]; exact fold_len _
    rw [← hm, ← hxs] at hown
    obtain ⟨a, c, rfl⟩ := own_slice hown
    have HO := Lib.hid hown
    have HBW := Lib.hid hbw
    have HXS := Lib.hid hxs
    have HXL : Hid (xs.length = m) := Lib.hid (by rw [hxs, hm])
    have HTX := Lib.hid (text_of (ownsRow_lies hown) 9 Try.underlying9)
    clear hown hbw hm hxs
    by_cases hk2 : k < s.size
    · have tk : decide ((k : Int) < (s.size : Int)) = true := by simp only [decide_eq_true_eq]; omega
      by_cases hmm : m < 16
      · have tm : decide ((m : Int) < 16) = true := by simp only [decide_eq_true_eq]; omega
        obtain ⟨d, hd⟩ : ∃ d, d = (ordsOf s).getD k 0 := ⟨_, rfl⟩
        have hd2 : ((s[k]'hk2).toNat : Int) = (d : Int) := by rw [hd, ords_at s k hk2]
        have hd256 : d < 256 := by rw [hd, ords_at s k hk2]; exact (s[k]'hk2).toNat_lt
        obtain ⟨b, hb⟩ : ∃ b, b = smallN d := ⟨_, rfl⟩
        have hb256 : b < 256 := by rw [hb]; exact small_lt hd256
        have HST : Hid (foldN ((ordsOf s).take (k + 1)) = putN xs d) := Lib.hid (by rw [fold_take (by rw [ordsOf_length]; exact hk2), ← HXS.out, ← hd])
        have HSM := Lib.hid (nmsmall_any wr hd256)
        rw [← hb] at HSM
        have HBS := Lib.hid hb
        have HLE := Lib.hid (nmlet_any wr hb256)
        have HFI := Lib.hid (nmfits_any wr hb256)
        clear hd hb
        have HNEXT : Hid ((letN b = true ∨ (0 < m ∧ fitN b = true)) → foldN ((ordsOf s).take (k + 1)) = xs ++ [b]) := Lib.hid fun h => by
          rw [HST.out, put_step, ← HBS.out]
          rw [← HBS.out, HXL.out]
          exact ⟨hmm, h.imp id fun h => ⟨fun e => by have := HXL.out; rw [e] at this; simp at this; omega, h.2⟩⟩
        have HLEFT : Hid (letN b = false → (0 < m → fitN b = false) → foldN ((ordsOf s).take (k + 1)) = xs) := Lib.hid fun h1 h2 => by
          rw [HST.out, put_left]
          rw [← HBS.out, HXL.out]
          rintro ⟨_, h | ⟨h, h'⟩⟩
          · rw [h1] at h; cases h
          · rw [h2 (Nat.pos_of_ne_zero fun e => h (List.length_eq_zero_iff.1 (by rw [HXL.out]; exact e)))] at h'; cases h'
        cases hL : letN b with
        | true =>
          rw [hL] at HLE
          have HN := Lib.hid (HNEXT.out (.inl hL))
          clear hL HNEXT HLEFT HFI
          repeat (first | go_values | go_skip | go_guarded | go_step)
          refine HSM.out.mono ?_
          rintro e w1 ⟨rfl, hw⟩; replace hw := hw.symm; subst hw
          dsimp only
          repeat (first | go_values | go_skip | go_guarded | go_step)
          refine HLE.out.mono ?_
          rintro e w1 ⟨rfl, hw⟩; replace hw := hw.symm; subst hw
          dsimp only
          have HOA : Hid ((wr.alloc (.cells #[.int .u8 (b : Int)] 5)).ownsRow w.heap.size 5 1 (.slice a m c) m (u8s xs)) := Lib.hid (own_alloc HO.out _)
          have HBA : Hid (Below w.heap.size w (wr.alloc (.cells #[.int .u8 (b : Int)] 5))) := Lib.hid (HBW.out.alloc HBW.out.size _)
          have HLA : Hid (Lies (wr.alloc (.cells #[.int .u8 (b : Int)] 5)) (.slice (some ⟨wr.heap.size, 0, none⟩) 1 1) [b]) := Lib.hid (byte_new wr b)
          repeat (first | ((with_reducible refine wpList_here ?_); refine wpList_at (op := .call { callee := .builtin .append, args := #[.tmp 32, .tmp 34], argTypes := #[30, 30] }) rfl ?_; refine wpList_append_bytes (wr.alloc (.cells #[.int .u8 (b : Int)] 5)) rfl (.tmp 32) (.tmp 34) 30 rfl w.heap.size 5 iU Try.underlying30 hiU hzU hsU hbU (.slice a m c) m (u8s xs) rfl HOA.out (.slice (some ⟨wr.heap.size, 0, none⟩) 1 1) [b] rfl HLA.out (by simp only [List.length_cons, List.length_nil]; omega) HBA.out.size ?_; intro v5 W5 hown5 hg5 _; have HO5 := Lib.hid (show W5.ownsRow w.heap.size 5 1 v5 (m + 1) (u8s (xs ++ [b])) by rw [u8s_append]; exact hown5); have HB5 : Hid (Below w.heap.size w W5) := Lib.hid (HBA.out.grown hg5 HBA.out.size (fun k hk => (HOA.out.lt k hk).1)); clear hown5 hg5 HOA HLA) | go_values | go_skip | go_guarded | go_step)
          exact ⟨⟨k + 1, by omega, by go_num, by rw [HN.out, List.length_append, HXL.out]; exact HO5.out, HB5.out⟩, by simp [intOf]; omega⟩
        | false =>
          rw [hL] at HLE
          by_cases hm0 : 0 < m
          · have t0 : decide ((0 : Int) < (m : Int)) = true := by simp only [decide_eq_true_eq]; omega
            cases hF : fitN b with
            | true =>
              rw [hF] at HFI
              have HN := Lib.hid (HNEXT.out (.inr ⟨hm0, hF⟩))
              clear hL hF HNEXT HLEFT
              repeat (first | go_values | go_skip | go_guarded | go_step)
              refine HSM.out.mono ?_
              rintro e w1 ⟨rfl, hw⟩; replace hw := hw.symm; subst hw
              dsimp only
              repeat (first | go_values | go_skip | go_guarded | go_step)
              refine HLE.out.mono ?_
              rintro e w1 ⟨rfl, hw⟩; replace hw := hw.symm; subst hw
              dsimp only
              repeat (first | go_values | go_skip | go_guarded | go_step)
              refine HFI.out.mono ?_
              rintro e w1 ⟨rfl, hw⟩; replace hw := hw.symm; subst hw
              dsimp only
              have HOA : Hid ((wr.alloc (.cells #[.int .u8 (b : Int)] 5)).ownsRow w.heap.size 5 1 (.slice a m c) m (u8s xs)) := Lib.hid (own_alloc HO.out _)
              have HBA : Hid (Below w.heap.size w (wr.alloc (.cells #[.int .u8 (b : Int)] 5))) := Lib.hid (HBW.out.alloc HBW.out.size _)
              have HLA : Hid (Lies (wr.alloc (.cells #[.int .u8 (b : Int)] 5)) (.slice (some ⟨wr.heap.size, 0, none⟩) 1 1) [b]) := Lib.hid (byte_new wr b)
              repeat (first | ((with_reducible refine wpList_here ?_); refine wpList_at (op := .call { callee := .builtin .append, args := #[.tmp 32, .tmp 34], argTypes := #[30, 30] }) rfl ?_; refine wpList_append_bytes (wr.alloc (.cells #[.int .u8 (b : Int)] 5)) rfl (.tmp 32) (.tmp 34) 30 rfl w.heap.size 5 iU Try.underlying30 hiU hzU hsU hbU (.slice a m c) m (u8s xs) rfl HOA.out (.slice (some ⟨wr.heap.size, 0, none⟩) 1 1) [b] rfl HLA.out (by simp only [List.length_cons, List.length_nil]; omega) HBA.out.size ?_; intro v5 W5 hown5 hg5 _; have HO5 := Lib.hid (show W5.ownsRow w.heap.size 5 1 v5 (m + 1) (u8s (xs ++ [b])) by rw [u8s_append]; exact hown5); have HB5 : Hid (Below w.heap.size w W5) := Lib.hid (HBA.out.grown hg5 HBA.out.size (fun k hk => (HOA.out.lt k hk).1)); clear hown5 hg5 HOA HLA) | go_values | go_skip | go_guarded | go_step)
              exact ⟨⟨k + 1, by omega, by go_num, by rw [HN.out, List.length_append, HXL.out]; exact HO5.out, HB5.out⟩, by simp [intOf]; omega⟩
            | false =>
              rw [hF] at HFI
              have HN := Lib.hid (HLEFT.out hL fun _ => hF)
              clear hL hF HNEXT HLEFT
              repeat (first | go_values | go_skip | go_guarded | go_step)
              refine HSM.out.mono ?_
              rintro e w1 ⟨rfl, hw⟩; replace hw := hw.symm; subst hw
              dsimp only
              repeat (first | go_values | go_skip | go_guarded | go_step)
              refine HLE.out.mono ?_
              rintro e w1 ⟨rfl, hw⟩; replace hw := hw.symm; subst hw
              dsimp only
              repeat (first | go_values | go_skip | go_guarded | go_step)
              refine HFI.out.mono ?_
              rintro e w1 ⟨rfl, hw⟩; replace hw := hw.symm; subst hw
              dsimp only
              repeat (first | go_values | go_skip | go_guarded | go_step | go_upon)
              exact ⟨⟨k + 1, by omega, by go_num, by rw [HN.out, HXL.out]; exact HO.out, HBW.out⟩, by simp [intOf]; omega⟩
          · have t0 : decide ((0 : Int) < (m : Int)) = false := by simp only [decide_eq_false_iff_not]; omega
            have HN := Lib.hid (HLEFT.out hL fun h => absurd h hm0)
            clear hL HNEXT HLEFT HFI
            repeat (first | go_values | go_skip | go_guarded | go_step)
            refine HSM.out.mono ?_
            rintro e w1 ⟨rfl, hw⟩; replace hw := hw.symm; subst hw
            dsimp only
            repeat (first | go_values | go_skip | go_guarded | go_step)
            refine HLE.out.mono ?_
            rintro e w1 ⟨rfl, hw⟩; replace hw := hw.symm; subst hw
            dsimp only
            repeat (first | go_values | go_skip | go_guarded | go_step | go_upon)
            exact ⟨⟨k + 1, by omega, by go_num, by rw [HN.out, HXL.out]; exact HO.out, HBW.out⟩, by simp [intOf]; omega⟩
      · have tm : decide ((m : Int) < 16) = false := by simp only [decide_eq_false_iff_not]; omega
        have HEND : Hid (foldN (ordsOf s) = xs) := Lib.hid (by rw [HXS.out]; exact fold_stop (by rw [← HXS.out, HXL.out]; omega))
        have htx := HTX.out
        repeat (first | go_values | go_skip | go_guarded | go_step | go_upon)
        go_ret
        exact ⟨by rw [HEND.out]; rfl, HBW.out⟩
    · have tk : decide ((k : Int) < (s.size : Int)) = false := by simp only [decide_eq_false_iff_not]; omega
      have HEND : Hid (foldN (ordsOf s) = xs) := Lib.hid (by rw [HXS.out, List.take_of_length_le (by rw [ordsOf_length]; omega)])
      have htx := HTX.out
      repeat (first | go_values | go_skip | go_guarded | go_step | go_upon)
      go_ret
      exact ⟨by rw [HEND.out]; rfl, HBW.out⟩
end Go.Proofs.Ytnaepipdlcineaa
