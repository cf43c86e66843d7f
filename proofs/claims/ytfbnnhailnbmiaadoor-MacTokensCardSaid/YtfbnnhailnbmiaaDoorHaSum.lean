/- The digest of a state. -/
import Derived.Test.YtfbnnhailnbmiaaDoorHaStir
import Derived.Test.YtfbnnhailnbmiaaDoorHaEnd
import Derived.Test.YtfbnnhailnbmiaaDoorHaNew
import Derived.Test.YtfbnnhailnbmiaaDoorHaWrite
namespace Go.Proofs.YtfbnnhailnbmiaaDoor
open Go.RowKit

theorem foldB_add : ∀ (a b : Nat) (s : Hs) (l : List Nat), foldB (a + b) s l = foldB b (foldB a s l) (l.drop (64 * a))
  | 0, b, s, l => by simp [foldB]
  | a + 1, b, s, l => by
    rw [show a + 1 + b = (a + b) + 1 by omega, foldB, foldB_add a b, foldB, List.drop_drop, show 64 + 64 * a = 64 * (a + 1) by omega]
/-- a slice's rest: nb blocks, q of them gone -/
def RestQ (g nb q : Nat) (v : Value) : Prop := ∃ ad c, v = .slice (some ad) (64 * (nb - q)) c ∧ 64 * (nb - q) ≤ c ∧ (nb - q ≠ 0 → ad = ⟨g, 64 * q, none⟩)
theorem tell_length (s : Hs) : (tellB s).length = 32 := by simp [tellB]
theorem tell_at (s : Hs) {i : Nat} (h : i < 32) : (tellB s)[i]? = some (s.words.getD (i / 4) 0 / 2 ^ (24 - 8 * (i % 4)) % 256) := by simp [tellB, h]
theorem fill8_set {A : List Nat} {n i x : Nat} (hi : i < n) (hA : A[i]? = some x) : (u8s (fillL A n i)).set i (.int .u8 (x : Int)) = u8s (fillL A n (i + 1)) := by
  have hl : i < A.length := (List.getElem?_eq_some_iff.1 hA).1
  unfold fillL u8s
  rw [show n - i = (n - (i + 1)) + 1 by omega, List.replicate_succ, List.map_append, List.set_append]
  rw [if_neg (by simp; omega)]
  rw [show i - (List.map (fun x : Nat => Value.int .u8 (x : Int)) (A.take i)).length = 0 by simp; omega]
  rw [List.take_add_one, hA]
  simp

theorem copied_whole {w : World} {P : Nat} {t : TypeId} {l0 l : List Value} (h : Arr w P t l0) (hl : l0.length = l.length) : Arr (w.setRow P (l0.toArray.toList.take 0 ++ (l ++ l0.toArray.toList.drop (0 + l.length))).toArray) P t l := by
  have e : l0.toArray.toList.take 0 ++ (l ++ l0.toArray.toList.drop (0 + l.length)) = l := by simp [hl]
  rw [e]; exact setRow_heap _ _ _ _ _ _ h
theorem only_setRow (w : World) (P : Nat) (cs : Array Value) : Only (fun k => k = P) w (w.setRow P cs) := ⟨rfl, rfl, rfl, by simp, fun _ _ hs => setRow_other _ _ _ _ hs⟩
theorem Arr.stored {w : World} {P : Nat} {t : TypeId} {l0 l : List Value} (h : Arr w P t l0) : Arr (w.setRow P l.toArray) P t l := setRow_heap _ _ _ _ _ _ h

theorem code_name {P : Program} {c : Code} {a : Act} {w : World} {Q : Exit → Act → World → Prop} (h : ∀ W, Hid (W = w) → c.wp P Q a W) : c.wp P Q a w := h w rfl

set_option maxHeartbeats 16000000 in
set_option maxRecDepth 1000000 in
theorem sum_any {w : World} {P : Nat} {bs : List Nat} (h : St w P bs) (hn : bs.length < 1000000000) (htab : Tabs w) :
    Calls Tryd.prog 23 #[.pointer (some ⟨P, 0, none⟩)] w fun e w' => e = .returned (.agg (u8s (digest bs)).toArray) ∧ Below w.heap.size w w' := by
  have HST := Lib.hid h
  have HT := Lib.hid htab
  have HN := Lib.hid hn
  obtain ⟨s0, blk, harr, htold, hbyte⟩ := h
  have HWP : Hid (∀ W, Below w.heap.size w W → ∀ j v, (u32s s0.words)[j]? = some v → W.cell? ⟨P, 0 + j, none⟩ = some v) := Lib.hid fun W hW j v hv => by
    rw [Nat.zero_add, ← harr.cell (stCells_word (blk := blk) (n := bs.length) hv)]
    exact hW.cell (p := ⟨P, j, none⟩) harr.lt
  have HTO := Lib.hid htold
  have HBS := Lib.hid hbyte
  obtain ⟨l0, hl0⟩ : ∃ l, l = u32s s0.words := ⟨_, rfl⟩
  rw [← hl0] at HWP
  have hl8 : l0.toArray.size = 8 := by rw [hl0]; rfl
  have HI8 : Hid ((Tryd.prog.info? 50).map (·.size) = some l0.length) := Lib.hid (by rw [show l0.length = 8 from hl8]; kernel_rfl)
  have HALL8 : Hid (l0.toArray.all (·.oneCell') = true) := Lib.hid (by rw [hl0]; exact all_one (u32s_one _))
  have HSZ8 : Hid ((u32s (List.replicate 8 0)).toArray.size = l0.toArray.size) := Lib.hid (by rw [hl8]; rfl)
  have HL0 := Lib.hid hl0
  clear harr htold hbyte hl0 hl8 hn htab
  go_enter Tryd.func23, Tryd.ntmps23
  repeat (first | (refine wpList_load_part rfl 50 (.tmp 14) rfl P 0 rfl l0 _ (HWP.out _ ((Below.refl _ _).alloc (Nat.le_refl _) _)) Tryd.underlying50 rfl HI8.out ?_; refine wpList_name ?_; intro W1 hW1; have HR1 := Lib.hid (show Arr W1 w.heap.size 25 (u8s (List.replicate 32 0)) by rw [hW1.out]; exact arr_new w _ (u8s (List.replicate 32 0))); have HB1 := Lib.hid (show Below w.heap.size w W1 by rw [hW1.out]; exact (Below.refl _ _).alloc (Nat.le_refl _) _); have HZ1 := Lib.hid (show W1.heap.size = w.heap.size + 1 by rw [hW1.out]; simp); clear hW1) | (refine wpList_store_row rfl 50 (.tmp 3) (.tmp 15) rfl W1.heap.size l0.toArray rfl rfl 50 (u32s (List.replicate 8 0)).toArray (arr_new W1 _ (u32s (List.replicate 8 0))) HI8.out HSZ8.out HALL8.out ?_; refine wpList_name ?_; intro W2 hW2; have HA2 := Lib.hid (show Arr W2 W1.heap.size 50 l0 by rw [hW2.out]; exact setRow_heap _ _ _ _ _ _ (arr_new W1 _ (u32s (List.replicate 8 0)))); have HB2 := Lib.hid (show Below W1.heap.size W1 W2 by rw [hW2.out]; exact below_setRow ((Below.refl _ _).alloc (Nat.le_refl _) _) (Nat.le_refl _) _); have HZ2 := Lib.hid (show W2.heap.size = W1.heap.size + 1 by rw [hW2.out]; simp); clear hW2) | (go_at_call 33; refine calls_name ?_; intro W3 hW3; have HA3 := Lib.hid (show Arr W3 W2.heap.size 34 (u8s (List.replicate 64 0)) by rw [hW3.out]; exact arr_new W2 _ (u8s (List.replicate 64 0))); have HB3 := Lib.hid (show Below W2.heap.size W2 W3 by rw [hW3.out]; exact (Below.refl _ _).alloc (Nat.le_refl _) _); have HZ3 := Lib.hid (show W3.heap.size = W2.heap.size + 1 by rw [hW3.out]; simp); clear hW3; have HBW3 := Lib.hid (HB1.out.trans ((HB2.out.trans (HB3.out.mono (by have := HZ2.out; omega))).mono (by have := HZ1.out; omega))); refine (ending_any (HST.out.beyond HBW3.out) HN.out).mono ?_; rintro e W4 ⟨v4, rfl, hown, hb4⟩; have HOW := Lib.hid hown; have HB4 := Lib.hid hb4; clear hown hb4; dsimp only) | go_values | go_skip | go_guarded | go_step | go_upon)
  obtain ⟨q, hq⟩ : ∃ q, q = bs.length / 64 := ⟨_, rfl⟩
  obtain ⟨nb, hnb⟩ : ∃ n, n = (padded bs).length / 64 - q := ⟨_, rfl⟩
  have hpb := padded_blocks bs
  have hpl : (padded bs).length = bs.length + (1 + padZ bs.length + 8) := by rw [padded, List.length_append, fillB_length]
  have hM : (padded bs).length - 64 * q = 64 * nb := by omega
  have hnb0 : 0 < nb := by omega
  obtain ⟨rem, hrem⟩ : ∃ l, l = (padded bs).drop (64 * q) := ⟨_, rfl⟩
  have hreml : rem.length = 64 * nb := by rw [hrem, List.length_drop]; exact hM
  have hremb : ∀ x ∈ rem, x < 256 := by rw [hrem]; exact fun x hx => padded_lt HBS.out x (List.mem_of_mem_drop hx)
  have HDG : Hid (digest bs = tellB (foldB nb s0 rem)) := Lib.hid (by
    rw [digest, show (padded bs).length / 64 = q + nb by omega, foldB_add, ← hrem, HTO.out.words, ← hq, padded, foldB_left _ _ _ _ (by omega)])
  rw [← hq, hM, ← hrem] at HOW
  have hnb100 : nb < 20000000 := by have := HN.out; have := padZ_lt bs.length; omega
  obtain ⟨g, cap, rfl, hg, hgl⟩ := HOW.out.form (by omega)
  have hcap : 64 * nb ≤ cap := by
    rcases HOW.out.2 with ⟨h1, _⟩ | ⟨g', cap', cur, hv, _, _, hc, _⟩
    · cases h1
    · cases hv; exact hc
  have HBY : Hid (BytesAt W4 g 0 rem) := Lib.hid fun j hj => by
    rw [Nat.zero_add, HOW.out.cellAt j (by rw [hreml] at hj; omega), u8s_getD rem j hj]
  obtain ⟨R, hR⟩ : ∃ p, p = w.heap.size := ⟨_, rfl⟩
  obtain ⟨P3, hP3⟩ : ∃ p, p = W1.heap.size := ⟨_, rfl⟩
  obtain ⟨P4, hP4⟩ : ∃ p, p = W2.heap.size := ⟨_, rfl⟩
  have hz := HZ1.out
  have hz2 := HZ2.out
  have hz3 := HZ3.out
  have hz4 := HB4.out.size
  have hzR : R < P3 := by omega
  have hz34 : P3 < P4 := by omega
  have hz4g : P4 < g := by omega
  have HB24 : Hid (Below W2.heap.size W2 W4) := Lib.hid (HB3.out.trans (HB4.out.mono (by omega)))
  have HB14 : Hid (Below W1.heap.size W1 W4) := Lib.hid (HB2.out.trans (HB24.out.mono (by omega)))
  have HBw4 : Hid (Below w.heap.size w W4) := Lib.hid (HB1.out.trans (HB14.out.mono (by omega)))
  have HR4 : Hid (Arr W4 R 25 (u8s (List.replicate 32 0))) := Lib.hid (by rw [hR]; exact (HB14.out.block _ (by omega)).trans HR1.out)
  have HA34 : Hid (Arr W4 P3 50 (u32s (foldB 0 s0 rem).words)) := Lib.hid (by rw [hP3, foldB, ← HL0.out]; exact (HB24.out.block _ (by omega)).trans HA2.out)
  have HA44 : Hid (Arr W4 P4 34 (u8s (List.replicate 64 0))) := Lib.hid (by rw [hP4]; exact (HB4.out.block _ (by omega)).trans HA3.out)
  have HT4 : Hid (Tabs W4) := Lib.hid (HT.out.keep HBw4.out)
  have HTG : Hid (0 < R ∧ 2 < R) := Lib.hid (by rw [hR]; exact ⟨HT.out.lt0, HT.out.lt1⟩)
  have HRW := Lib.hid hR
  have HREM := Lib.hid hremb
  have HRL := Lib.hid hreml
  have HOK : Hid s0.ok := Lib.hid HTO.out.ok
  rw [← hP3, ← hP4, ← hR]
  clear hq hnb hpb hpl hM hrem hremb HOW HST HWP HI8 HALL8 HSZ8 HL0 HR1 HB1 HA2 HB2 HA3 HB3 HB4 HBW3 HB24 HB14 HZ1 HZ2 HZ3 hz hz2 hz3 hreml hP3 hP4 hR HTO HBS
  go_loopw [5] (fun v wr => ∃ (k : Nat) (b4 : List Nat), k ≤ nb ∧ RestQ g nb k v ∧ b4.length = 64 ∧ Arr wr P3 50 (u32s (foldB k s0 rem).words) ∧ Arr wr P4 34 (u8s b4) ∧ Only (fun b => b = P3 ∨ b = P4) W4 wr) (fun v _ => lenV2 v)
  case atStart => exact ⟨0, List.replicate 64 0, by omega, ⟨_, cap, rfl, hcap, fun _ => rfl⟩, by simp, HA34.out, HA44.out, Only.refl _ _⟩
  case round =>
    obtain ⟨k, b4, hk, ⟨ad, c, rfl, hc, had⟩, hb4, ha3, ha4, ho⟩ := hrel
    have HA3 := Lib.hid ha3
    have HA4 := Lib.hid ha4
    have HO := Lib.hid ho
    clear ha3 ha4 ho HA34 HA44
    by_cases hlt : k < nb
    · obtain rfl := had (by omega)
      obtain ⟨m, hm⟩ : ∃ m, m = 64 * (nb - k) := ⟨_, rfl⟩
      rw [← hm] at hc ⊢
      have hm64 : 64 ≤ m := by omega
      have t1 : decide (0 < (m : Int)) = true := by simp only [decide_eq_true_eq]; omega
      obtain ⟨bl, hbl⟩ : ∃ b, b = (rem.drop (64 * k)).take 64 := ⟨_, rfl⟩
      have hbll : bl.length = 64 := by rw [hbl, List.length_take, List.length_drop, HRL.out]; omega
      have HBB : Hid (∀ x ∈ bl, x < 256) := Lib.hid (by rw [hbl]; exact fun x hx => HREM.out x (List.mem_of_mem_drop (List.mem_of_mem_take hx)))
      have hsrc : Hid (∀ j v, (u8s bl)[j]? = some v → wr.cell? ((⟨g, 64 * k, none⟩ : Addr).add j) = some v) := Lib.hid fun j v hv => by
        have hj : j < 64 := by have := (List.getElem?_eq_some_iff.1 hv).1; rw [u8s_length, hbll] at this; exact this
        have h1 := bytes_only HBY.out HO.out (by omega) (64 * k + j) (by rw [HRL.out]; omega)
        rw [Nat.zero_add] at h1
        rw [add_at, h1, ← hv, u8s_getD bl j (by omega), hbl]
        simp [List.getD, hj]
      have HS1 : Hid (foldB (k + 1) s0 rem = comp (foldB k s0 rem) bl) := Lib.hid (by rw [foldB_succ, hbl])
      have HSO : Hid (foldB k s0 rem).ok := Lib.hid (foldB_ok k HOK.out rem)
      obtain ⟨sk, hsk⟩ : ∃ s, s = foldB k s0 rem := ⟨_, rfl⟩
      rw [← hsk] at HA3 HS1 HSO
      have HBLL := Lib.hid hbll
      have hfit : Hid (0 + (u8s bl).length ≤ (u8s b4).toArray.size) := Lib.hid (by simp [u8s_length, hbll, hb4])
      have HLL : Hid ((u8s b4).length = (u8s bl).length) := Lib.hid (by rw [u8s_length, u8s_length, hb4, hbll])
      have hcn : Hid ((u8s bl).length = Nat.min m 64) := Lib.hid (by rw [u8s_length, hbll]; exact (Nat.min_eq_right hm64).symm)
      have HI8 : Hid ((Tryd.prog.info? 50).map (·.size) = some (u32s sk.words).toArray.size) := Lib.hid (by rw [show (u32s sk.words).toArray.size = 8 from rfl]; kernel_rfl)
      have HSTIR0 : ∀ W, Tabs W → Calls Tryd.prog 32 #[.agg (u32s sk.words).toArray, .agg (u8s bl).toArray] W fun e w' => e = .returned (.agg (u32s (comp sk bl).words).toArray) ∧ Below W.heap.size W w' := fun W hW => stir_any HSO.out hbll HBB.out W hW
      obtain ⟨sc, hsc⟩ : ∃ s, s = comp sk bl := ⟨_, rfl⟩
      rw [← hsc] at HSTIR0 HS1
      obtain ⟨lc, hlc⟩ : ∃ l, l = u32s sc.words := ⟨_, rfl⟩
      have hlcz : lc.toArray.size = 8 := by rw [hlc]; rfl
      have HI8b : Hid ((Tryd.prog.info? 50).map (·.size) = some lc.toArray.size) := Lib.hid (by rw [hlcz]; kernel_rfl)
      have HALc : Hid (lc.toArray.all (·.oneCell') = true) := Lib.hid (by rw [hlc]; exact all_one (u32s_one _))
      have HSZc : Hid ((u32s sk.words).toArray.size = lc.toArray.size) := Lib.hid (by rw [hlcz]; rfl)
      rw [← hlc] at HSTIR0
      have HSTIR := Lib.hid HSTIR0
      have HLCE := Lib.hid hlc
      clear HSTIR0 hsc hlc hlcz
      have HI64 : Hid ((Tryd.prog.info? 34).map (·.size) = some (u8s bl).toArray.size) := Lib.hid (by rw [show (u8s bl).toArray.size = 64 by simp [u8s_length, hbll]]; kernel_rfl)
      have HM := Lib.hid hm
      clear hbl hbll hsk hm
      clear had hk hb4 hgl hg hcap hnb0
      repeat (first | (refine wpList_copy_own rfl (.tmp 23) (.tmp 24) 22 22 rfl 5 Tryd.underlying22 (by kernel_rfl) P4 0 64 64 ⟨g, 64 * k, none⟩ m c rfl rfl (u8s b4).toArray 34 HA4.out (u8s bl) hcn.out hsrc.out hfit.out (u8s_one bl) ?_; refine wpList_name ?_; intro W5 hW5; have HA45 := Lib.hid (show Arr W5 P4 34 (u8s bl) by rw [hW5.out]; exact copied_whole HA4.out HLL.out); have HO5 := Lib.hid (show Only (fun b => b = P3 ∨ b = P4) W4 W5 by rw [hW5.out]; exact HO.out.trans (only_setRow _ _ _) (fun _ _ h => .inr h)); have HA35 := Lib.hid (show Arr W5 P3 50 (u32s sk.words) by rw [hW5.out]; exact HA3.out.only (only_setRow _ _ _) (by omega)); have HT5 := Lib.hid (HT4.out.only HO5.out (by have := HTG.out; omega) (by have := HTG.out; omega)); clear hW5) | (refine wpList_load_row rfl 50 (.tmp 3) rfl P3 rfl 50 (u32s sk.words).toArray (0, 0) _ HA35.out Tryd.underlying50 rfl HI8.out ?_) | (refine wpList_load_row rfl 34 (.tmp 4) rfl P4 rfl 34 (u8s bl).toArray (0, 0) _ HA45.out Tryd.underlying34 rfl HI64.out ?_) | (go_at_call 32; refine (HSTIR.out _ HT5.out).mono ?_; rintro e W6 ⟨rfl, hb6⟩; have HA36 := Lib.hid (show Arr W6 P3 50 (u32s sk.words) from (hb6.block _ HA35.out.lt).trans HA35.out); have HA46 := Lib.hid (show Arr W6 P4 34 (u8s bl) from (hb6.block _ HA45.out.lt).trans HA45.out); have HO6 := Lib.hid (HO5.out.trans (only_beyond (S := fun _ => False) hb6) (fun _ _ h => h.elim)); clear hb6; dsimp only) | (refine wpList_store_row rfl 50 (.tmp 3) (.tmp 28) rfl P3 lc.toArray rfl rfl 50 (u32s sk.words).toArray HA36.out HI8b.out HSZc.out HALc.out ?_; refine wpList_name ?_; intro W7 hW7; have HA37 := Lib.hid (show Arr W7 P3 50 lc by rw [hW7.out]; exact HA36.out.stored); have HA47 := Lib.hid (show Arr W7 P4 34 (u8s bl) by rw [hW7.out]; exact HA46.out.only (only_setRow _ _ _) (by omega)); have HO7 := Lib.hid (show Only (fun b => b = P3 ∨ b = P4) W4 W7 by rw [hW7.out]; exact HO6.out.trans (only_setRow _ _ _) (fun _ _ h => .inl h)); clear hW7) | (refine wpList_tail rfl 22 (.tmp 21) (.const (.int .i64 64)) rfl 5 Tryd.underlying22 (by kernel_rfl) g (64 * k) m c 64 .i64 rfl rfl hm64 ?_; intro V hV) | go_values | go_skip | go_guarded | go_step | go_upon)
      go_roundw
      case rel =>
        have hmm := HM.out
        refine ⟨k + 1, bl, by omega, ?_, HBLL.out, by rw [HS1.out, ← HLCE.out]; exact HA37.out, HA47.out, HO7.out⟩
        rw [hV.out]
        refine ⟨_, c - 64, by unfold tailS; rw [show m - 64 = 64 * (nb - (k + 1)) by omega], by omega, fun h => ?_⟩
        rw [if_neg (by omega), show 64 * k + 64 = 64 * (k + 1) by omega]
      case measure => rw [hV.out]; simp only [tailS, lenV2]; omega
    · have hkn : k = nb := by omega
      have hm0 : 64 * (nb - k) = 0 := by omega
      rw [hm0]
      rw [hkn] at HA3
      obtain ⟨sf, hsf⟩ : ∃ s, s = foldB nb s0 rem := ⟨_, rfl⟩
      rw [← hsf] at HA3 HDG
      have hsok : sf.ok := by rw [hsf]; exact foldB_ok nb HOK.out rem
      have HSOK := Lib.hid hsok
      have HRr : Hid (Arr wr R 25 (u8s (List.replicate 32 0))) := Lib.hid (HR4.out.only HO.out (by omega))
      have HBr : Hid (Below w.heap.size w wr) := Lib.hid (HBw4.out.trans (HO.out.below (by have := HBw4.out.size; omega) (fun b hb => by have := HRW.out; rcases hb with h | h <;> omega)))
      clear hkn hm0 hk hlt had hsf hsok HO HA4 hc hb4
      repeat (first | go_values | go_skip | go_guarded | go_step | go_upon)
      refine code_name ?_
      intro Wo hWo
      obtain ⟨PO, hPO⟩ : ∃ p, p = wr.heap.size := ⟨_, rfl⟩
      rw [← hPO]
      have HO0 : Hid (Arr Wo PO 25 (u8s (fillL (tellB sf) 32 0))) := Lib.hid (by
        rw [hWo.out, hPO, show fillL (tellB sf) 32 0 = List.replicate 32 0 by simp [fillL]]; exact arr_new wr _ (u8s (List.replicate 32 0)))
      have HBo : Hid (Below wr.heap.size wr Wo) := Lib.hid (by rw [hWo.out]; exact (Below.refl _ _).alloc (Nat.le_refl _) _)
      have HA3o : Hid (Arr Wo P3 50 (u32s sf.words)) := Lib.hid ((HBo.out.block _ HA3.out.lt).trans HA3.out)
      have HRo : Hid (Arr Wo R 25 (u8s (List.replicate 32 0))) := Lib.hid ((HBo.out.block _ HRr.out.lt).trans HRr.out)
      have HBwo : Hid (Below w.heap.size w Wo) := Lib.hid (HBr.out.trans (HBo.out.mono (HBr.out.size)))
      have hP3O : P3 < PO := by rw [hPO]; exact HA3.out.lt
      have hzo : w.heap.size ≤ PO := by rw [hPO]; exact HBr.out.size
      obtain ⟨T, hT⟩ : ∃ T, T = tellB sf := ⟨_, rfl⟩
      have hTl : T.length = 32 := by rw [hT]; exact tell_length _
      have HTA : Hid (∀ i x, i < 32 → sf.words[i / 4]? = some x → T[i]? = some (x / 2 ^ (24 - 8 * (i % 4)) % 256)) := Lib.hid fun i x hi hx => by
        rw [hT, tell_at sf hi, List.getD, hx, Option.getD_some]
      have HWX : Hid (∀ i x, sf.words[i]? = some x → x < 4294967296) := Lib.hid fun i x hx => by
        have h := HSOK.out
        obtain ⟨h1, h2, h3, h4, h5, h6, h7, h8⟩ := h
        have hm := List.mem_of_getElem? hx
        simp only [Hs.words, List.mem_cons, List.not_mem_nil, or_false] at hm
        rcases hm with rfl | rfl | rfl | rfl | rfl | rfl | rfl | rfl <;> assumption
      rw [← hT] at HO0 HDG
      have HTL := Lib.hid hTl
      clear hWo hPO hT hTl HA3 HRr HBr HBo
      go_loopw [29] (fun c wr => ∃ i : Nat, i ≤ 32 ∧ c = .int .i64 i ∧ Arr wr PO 25 (u8s (fillL T 32 i)) ∧ Only (fun k => k = PO) Wo wr) (fun c _ => 32 - (intOf c).toNat)
      case atStart => exact ⟨0, by omega, rfl, HO0.out, Only.refl _ _⟩
      case round =>
        obtain ⟨i, hi, rfl, hoi, ho⟩ := hrel
        have HOx := Lib.hid ho
        have HA := Lib.hid hoi
        have H3 := Lib.hid (HA3o.out.only ho (by omega))
        clear HO0 hoi ho
        by_cases hlt : i < 32
        · have t1 : decide ((i : Int) < 32) = true := by simp only [decide_eq_true_eq]; omega
          have hti : (i : Int) < 32 := by omega
          have hj8 : i / 4 < 8 := by omega
          obtain ⟨x, hx⟩ : ∃ x, sf.words[i / 4]? = some x := ⟨sf.words[i / 4]'(by rw [Hs.words_length]; omega), List.getElem?_eq_getElem _⟩
          have c1 := H3.out.cell (u32s_at hx)
          have hxl := HWX.out _ _ hx
          have q1 := HA.out.free i
          obtain ⟨o1, ho1⟩ : ∃ u, wr.cell? ⟨PO, i, none⟩ = some u := ⟨_, HA.out.cell (List.getElem?_eq_getElem (by simp [u8s, fillL, HTL.out]; omega))⟩
          obtain ⟨r4, hr4⟩ : ∃ r, r = i % 4 := ⟨_, rfl⟩
          obtain ⟨s4, hs4⟩ : ∃ r, r = 3 - r4 := ⟨_, rfl⟩
          obtain ⟨b8, hb8⟩ : ∃ r, r = 8 * s4 := ⟨_, rfl⟩
          obtain ⟨y, hy⟩ : ∃ y, y = x / 2 ^ b8 % 256 := ⟨_, rfl⟩
          have hT := HTA.out i x hlt hx
          rw [show 24 - 8 * (i % 4) = b8 by omega, ← hy] at hT
          have HTI := Lib.hid hT
          have g1 : Int.tmod (i : Int) 4 = (r4 : Int) := by rw [Int.tmod_eq_emod_of_nonneg (by omega)]; omega
          have g2 : (i : Int) % 4 = (r4 : Int) := by omega
          have g3 : IntKind.i64.wrap (3 - (r4 : Int)) = (s4 : Int) := by rw [IntKind.wrap_i64]; omega
          have g4 : IntKind.i64.wrap (8 * (s4 : Int)) = (b8 : Int) := by rw [IntKind.wrap_i64]; omega
          have g5 : IntKind.u8.wrap ((x : Int) / 2 ^ b8) = (y : Int) := by
            rw [show ((x : Int) / 2 ^ b8) = ((x / 2 ^ b8 : Nat) : Int) by simp, IntKind.wrap_u8, hy]; omega
          have hb32 : b8 < 32 := by omega
          have hr44 : r4 < 4 := by omega
          have hs44 : s4 < 4 := by omega
          clear hx hr4 hs4 hb8 hy hT
          repeat (first | go_values | go_skip | go_guarded | go_step | go_upon)
          go_roundw
          case rel => exact ⟨i + 1, by omega, by go_num, by rw [← fill8_set hlt HTI.out]; exact HA.out.set i _, HOx.out.trans (Only.setCell (S := fun k => k = PO) wr (p := ⟨PO, i, none⟩) rfl _) (fun _ _ h => h)⟩
          case measure => simp [intOf]; omega
        · have t1 : decide ((i : Int) < 32) = false := by simp only [decide_eq_false_iff_not]; omega
          have hi32 : i = 32 := by omega
          rw [hi32, fill_full HTL.out] at HA
          have HRx := Lib.hid (HRo.out.only HOx.out (by have := HRW.out; omega))
          have HBx : Hid (Below w.heap.size w wr) := Lib.hid (HBwo.out.trans (HOx.out.below (by have := HBwo.out.size; omega) (fun k hk => by omega)))
          obtain ⟨L, hL⟩ : ∃ L, L = u8s T := ⟨_, rfl⟩
          rw [← hL] at HA
          have hLz : L.toArray.size = 32 := by rw [hL]; simp [u8s_length, HTL.out]
          have HI32 : Hid ((Tryd.prog.info? 25).map (·.size) = some L.toArray.size) := Lib.hid (by rw [hLz]; kernel_rfl)
          have HAL32 : Hid (L.toArray.all (·.oneCell') = true) := Lib.hid (by rw [hL]; exact all_one (u8s_one _))
          have HSZ32 : Hid ((u8s (List.replicate 32 0)).toArray.size = L.toArray.size) := Lib.hid (by rw [hLz]; rfl)
          have HLE := Lib.hid hL
          clear hi32 hi hlt hL hLz
          repeat (first | (refine wpList_load_row rfl 25 (.tmp 6) rfl PO rfl 25 L.toArray (0, 0) _ HA.out Tryd.underlying25 rfl HI32.out ?_) | (refine wpList_store_row rfl 25 (.tmp 2) (.tmp 45) rfl R L.toArray rfl rfl 25 (u8s (List.replicate 32 0)).toArray HRx.out HI32.out HSZ32.out HAL32.out ?_) | go_values | go_skip | go_guarded | go_step | go_upon)
          (try simp only [Exit.inBlock, Exit.then])
          refine bodyPost_ret (results_cell_row rfl _ _ R 25 L.toArray (0, 0) _ rfl (setRow_heap wr R _ L.toArray _ _ HRx.out) Tryd.underlying25 rfl HI32.out) rfl ?_
          exact ⟨by rw [HDG.out, HLE.out], below_setRow HBx.out (by have := HRW.out; omega) _⟩
end Go.Proofs.YtfbnnhailnbmiaaDoor
