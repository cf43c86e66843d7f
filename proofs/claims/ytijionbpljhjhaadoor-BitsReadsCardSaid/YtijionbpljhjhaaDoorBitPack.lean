/- The law's own pack, walked. -/
import Derived.Test.YtijionbpljhjhaaDoorBitSigns
namespace Go.Proofs.YtijionbpljhjhaaDoor
open Go.RowKit

theorem sgn_get (l : List Bool) (q : Nat) (h : q < l.length) : (strOf (sgn l)).data[q]? = some (UInt8.ofNat (48 + l[q].toNat)) := by
  simp [strOf, sgn, h]

theorem next_put (l : List Bool) (b : Bool) (h : l.length % 8 = 0) : (u8s (packB l) ++ [Value.int .u8 0]).set (l.length / 8) (Value.int .u8 (lastB l b : Nat)) = u8s (packB (l ++ [b])) := by
  rw [bytesN_grow l h, bytesN_put]
theorem next_set (l : List Bool) (b : Bool) (h : l.length % 8 ≠ 0) : (u8s (packB l)).set (l.length / 8) (Value.int .u8 (lastB l b : Nat)) = u8s (packB (l ++ [b])) := by
  rw [bytesN_same l h, bytesN_put]
theorem next_keep (l : List Bool) : u8s (bytesN l (l.length / 8 + 1)) = u8s (packB (l ++ [false])) := by
  rw [← bytesN_put]
  symm
  have h1 : lastB l false = byteAt l (l.length / 8) := by simp [lastB]
  rw [h1]
  have h2 : (u8s (bytesN l (l.length / 8 + 1)))[l.length / 8]? = some (Value.int .u8 ((byteAt l (l.length / 8) : Nat) : Int)) := by
    rw [u8s_get, bytesN_get _ _ _ (by omega)]; rfl
  obtain ⟨hlt, he⟩ := List.getElem?_eq_some_iff.1 h2
  rw [← he]
  exact List.set_getElem_self hlt

theorem bytesN_grow_at {pre : List Bool} {q : Nat} (hq : pre.length = q) (h : q % 8 = 0) : u8s (packB pre) ++ [Value.int .u8 0] = u8s (bytesN pre (q / 8 + 1)) := by
  subst hq; exact bytesN_grow pre h
theorem last_one {pre : List Bool} {q : Nat} (hq : pre.length = q) (h : q % 8 = 0) : ((lastB pre true : Nat) : Int) = 128 := by
  subst hq
  have h1 := byteAt_low pre
  rw [h] at h1
  have h2 := byteAt_lt pre (pre.length / 8)
  simp only [lastB, h]
  simp
  omega
theorem u8s_byte {pre : List Bool} {q : Nat} (hq : pre.length = q) (h : q % 8 ≠ 0) : (u8s (packB pre))[q / 8]? = some (.int .u8 ((byteAt pre (q / 8) : Nat) : Int)) := by
  subst hq
  rw [bytesN_same pre h, u8s_get, bytesN_get _ _ _ (by omega)]; rfl
theorem last_true {pre : List Bool} {q : Nat} (hq : pre.length = q) : lastB pre true = byteAt pre (q / 8) + 2 ^ (7 - q % 8) := by
  subst hq; simp [lastB]

theorem shift_val {old q : Nat} (h : old + 2 ^ (7 - q % 8) < 256) : (((old : Int) + 128 / 2 ^ (q % 8)) % 256) = ((old + 2 ^ (7 - q % 8) : Nat) : Int) := by
  have hm : q % 8 < 8 := Nat.mod_lt _ (by omega)
  generalize q % 8 = m at *
  have h1 : m = 0 ∨ m = 1 ∨ m = 2 ∨ m = 3 ∨ m = 4 ∨ m = 5 ∨ m = 6 ∨ m = 7 := by omega
  rcases h1 with h1 | h1 | h1 | h1 | h1 | h1 | h1 | h1 <;> subst h1 <;> simp at h ⊢ <;> omega

set_option maxHeartbeats 1000000 in
theorem pack_any (l : List Bool) (hl : l.length ≤ 1000000) (w : World) :
    Calls Tryd.prog 13 #[.string (signsOf l)] w fun e w' => e = .returned (.string (strOf (packB l))) ∧ Below w.heap.size w w' := by
  obtain ⟨i0, hi, hz0, hz1, hz2⟩ := info_parts infoU8
  obtain ⟨s, es⟩ : ∃ s, s = signsOf l := ⟨_, rfl⟩
  have hs : s.size = l.length := by rw [es, signsOf_size]
  rw [← es]
  have ES := Lib.hid es
  have hss : s.size ≤ 1000000 := by omega
  have HS := Lib.hid hs
  clear es hs
  go_enter Tryd.func13, Tryd.ntmps13
  go_wp2
  go_loopw [3, 7] (fun v c wr => ∃ q : Nat, q ≤ s.size ∧ c = .int .i64 q ∧ wr.ownsRow w.heap.size 5 1 v ((q + 7) / 8) (u8s (packB (l.take q))) ∧ Below w.heap.size w wr) (fun _ c _ => s.size - (intOf c).toNat)
  case atStart => exact ⟨0, by omega, rfl, by simpa [packB, bytesN, u8s] using World.ownsRow_nil w w.heap.size 5 1, Below.refl _ _⟩
  case round =>
    obtain ⟨q, hq, rfl, hown, hb⟩ := hrel
    have hz := hb.size
    have HB := Lib.hid hb
    clear hb
    by_cases hlt : q < s.size
    · have hql : q < l.length := by rw [← HS.out]; exact hlt
      obtain ⟨b, eb⟩ : ∃ b, l[q] = b := ⟨_, rfl⟩
      have ht : l.take (q + 1) = l.take q ++ [b] := by rw [List.take_succ_eq_append_getElem hql, eb]
      have htl : (l.take q).length = q := by rw [List.length_take]; omega
      have hbit : (s[q]'hlt).toNat = 48 + b.toNat := by
        have h1 := sgn_get l q hql
        have h2 : (s[q]'hlt) = s.data[q]'hlt := rfl
        have h3 : s.data[q]? = some (UInt8.ofNat (48 + l[q].toNat)) := by rw [ES.out]; exact h1
        rw [h2, (Array.getElem?_eq_some_iff.1 h3).2, eb]
        cases b <;> rfl
      have hc49 : (((s[q]'hlt).toNat : Int) == 49) = b := by rw [hbit]; cases b <;> rfl
      generalize l.take q = pre at *
      have HT := Lib.hid ht
      have HTL := Lib.hid htl
      clear ht eb hbit ES
      by_cases h8 : q % 8 = 0
      · have hm1 : ((q : Int) % 8 == 0) = true := by simp; omega
        have hm0 : (q : Int) % 8 = 0 := by omega
        have e7 : (q + 7) / 8 = q / 8 := by omega
        have e9 : (q + 1 + 7) / 8 = q / 8 + 1 := by omega
        rw [e7] at hown
        have E9 := Lib.hid e9
        have H8 := Lib.hid h8
        have HE0 : Hid ((u8s (packB pre) ++ [Value.int .u8 0])[q / 8]? = some (.int .u8 0)) := by
          have h1 : (u8s (packB pre)).length = q / 8 := by have := hown.1; simpa using this
          rw [← h1]; exact List.getElem?_concat_length
        clear e7 e9 htl h8
        cases b
        · go_wp2_with (at_builtin; refine wpList_append_lies _ rfl (.tmp 13) (.tmp 14) 25 rfl w.heap.size 5 i0 (.int .u8 0) 1 1 Tryd.underlying25 hi hz0 hz1 hz2 rfl (by decide) _ _ _ rfl (hown.alloc _) ⟨wr.heap.size, 0, none⟩ 1 1 [.int .u8 0] rfl rfl (World.news_of_block (heap_alloc_new wr _)) (by simp [Value.oneCell']) (by decide) (by unfold maxLen; omega) (by omega) (by simp; omega) (wr.heap.size + 1) (by simp) ?_; intro g cap w1 hown1 hgrow _ _; have HO1 := Lib.hid hown1; have hel := (hown1.cellAt (q / 8) (by omega)).trans (HE0.out); have hfr := hown1.frozenAt (q / 8); have HB1 := Lib.hid (((HB.out.alloc hz _).grown hgrow (by simp; omega) (fun k hk => (hown.lt k hk).1))); clear hown1 hgrow)
          go_roundw
          case rel => exact ⟨q + 1, by omega, by go_num, by rw [E9.out, HT.out, ← next_keep, HTL.out, ← bytesN_grow_at HTL.out H8.out]; exact HO1.out, HB1.out⟩
          case measure => simp [intOf]; omega
        · go_wp2_with (at_builtin; refine wpList_append_lies _ rfl (.tmp 13) (.tmp 14) 25 rfl w.heap.size 5 i0 (.int .u8 0) 1 1 Tryd.underlying25 hi hz0 hz1 hz2 rfl (by decide) _ _ _ rfl (hown.alloc _) ⟨wr.heap.size, 0, none⟩ 1 1 [.int .u8 0] rfl rfl (World.news_of_block (heap_alloc_new wr _)) (by simp [Value.oneCell']) (by decide) (by unfold maxLen; omega) (by omega) (by simp; omega) (wr.heap.size + 1) (by simp) ?_; intro g cap w1 hown1 hgrow _ _; have HO1 := Lib.hid hown1; have hel := (hown1.cellAt (q / 8) (by omega)).trans (HE0.out); have hfr := hown1.frozenAt (q / 8); have HB1 := Lib.hid (((HB.out.alloc hz _).grown hgrow (by simp; omega) (fun k hk => (hown.lt k hk).1))); clear hown1 hgrow)
          go_region
          go_wp2
          have hst := (HO1.out.stored (q / 8) (.int .u8 128)).1
          have hbg := (HO1.out.lt g rfl).1
          go_roundw
          case rel => exact ⟨q + 1, by omega, by go_num, by rw [E9.out, HT.out, ← next_put pre true (by rw [HTL.out]; exact H8.out), HTL.out, last_one HTL.out H8.out]; exact hst.drew, (HB1.out.setCell hbg _).drew⟩
          case measure => simp [intOf]; omega
      · have hm1 : ((q : Int) % 8 == 0) = false := by simp; omega
        have e7 : (q + 7) / 8 = q / 8 + 1 := by omega
        have e9 : (q + 1 + 7) / 8 = q / 8 + 1 := by omega
        rw [e7] at hown
        have E9 := Lib.hid e9
        have H8 := Lib.hid h8
        cases b
        · have HO1 := Lib.hid hown
          clear e7 e9 htl h8 hown
          go_wp2
          go_roundw
          case rel => exact ⟨q + 1, by omega, by go_num, by rw [E9.out, HT.out, ← next_keep, ← bytesN_same _ (by rw [HTL.out]; exact H8.out)]; exact HO1.out, HB.out⟩
          case measure => simp [intOf]; omega
        · obtain ⟨g, cap, rfl, hbg, _⟩ := hown.form (by omega)
          have hel := (hown.cellAt (q / 8) (by omega)).trans (u8s_byte htl h8)
          have hfr := hown.frozenAt (q / 8)
          have hlast := last_true htl
          have hbl := byteAt_lt pre (q / 8)
          obtain ⟨old, eo⟩ : ∃ old, byteAt pre (q / 8) = old := ⟨_, rfl⟩
          rw [eo] at hel hlast hbl
          have HLA := Lib.hid hlast
          have HO1 := Lib.hid hown
          have hm3 : 0 ≤ (q : Int) % 8 := by omega
          have hm4 : (q : Int) % 8 < 8 := by omega
          clear e7 e9 htl h8 hown hlast eo
          go_wp2
          go_region
          go_wp2
          have hv : (((old : Int) + 128 / 2 ^ (q % 8)) % 256) = ((lastB pre true : Nat) : Int) := by rw [HLA.out]; exact shift_val (by rw [← HLA.out]; exact lastB_lt _ _)
          rw [hv]
          have hst := (HO1.out.stored (q / 8) (.int .u8 (lastB pre true : Nat))).1
          go_roundw
          case rel => exact ⟨q + 1, by omega, by go_num, by rw [E9.out, HT.out, ← next_set pre true (by rw [HTL.out]; exact H8.out), HTL.out]; exact hst.drew, (HB.out.setCell hbg _).drew⟩
          case measure => simp [intOf]; omega
    · obtain rfl : q = s.size := by omega
      have hcv := text_of (ownsRow_lies hown)
      have htk : l.take s.size = l := List.take_of_length_le (by rw [HS.out]; exact Nat.le_refl _)
      rw [htk] at hcv
      clear htk
      go_wp2
      go_ret
      exact ⟨rfl, HB.out⟩
end Go.Proofs.YtijionbpljhjhaaDoor
