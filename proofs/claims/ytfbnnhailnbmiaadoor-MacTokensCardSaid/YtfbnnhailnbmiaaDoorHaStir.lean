/- A block stirred into the words, as the program does. -/
import Derived.Test.YtfbnnhailnbmiaaDoorHaSpread
import Derived.Test.YtfbnnhailnbmiaaDoorRefL7
namespace Go.Proofs.YtfbnnhailnbmiaaDoor
open Go.RowKit

/-! ### The listed variables -/
def RootsLaid (w : World) : Prop := ∀ (j x : Nat), keysL[j]? = some x → w.cell? ⟨2, j, none⟩ = some (.int .u32 (x : Int))
def WordsLaid (w : World) : Prop := ∀ (j x : Nat), startH.words[j]? = some x → w.cell? ⟨0, j, none⟩ = some (.int .u32 (x : Int))
structure Tabs (w : World) : Prop where
  roots : RootsLaid w
  words : WordsLaid w
theorem Tabs.lt1 {w : World} (h : Tabs w) : 2 < w.heap.size := cell_lt (h.roots 0 _ rfl)
theorem Tabs.lt0 {w : World} (h : Tabs w) : 0 < w.heap.size := cell_lt (h.words 0 _ rfl)
theorem Tabs.only {S : Nat → Prop} {w w' : World} (h : Tabs w) (ho : Only S w w') (h0 : ¬ S 0) (h1 : ¬ S 2) : Tabs w' :=
  ⟨fun j x hx => by rw [← h.roots j x hx]; exact World.cell?_of_block (ho.block _ h.lt1 h1), fun j x hx => by rw [← h.words j x hx]; exact World.cell?_of_block (ho.block _ h.lt0 h0)⟩
theorem Tabs.keep {w w' : World} (h : Tabs w) (hb : Below w.heap.size w w') : Tabs w' := h.only (only_beyond (S := fun _ => False) hb) (fun h => h) (fun h => h)

theorem Hs.words_length (s : Hs) : s.words.length = 8 := rfl
theorem words_cells {w : World} {P o : Nat} {s : Hs} (h : ∀ (j x : Nat), s.words[j]? = some x → w.cell? ⟨P, o + j, none⟩ = some (.int .u32 (x : Int))) :
    w.cell? ⟨P, o, none⟩ = some (.int .u32 (s.a : Int)) ∧ w.cell? ⟨P, o + 1, none⟩ = some (.int .u32 (s.b : Int)) ∧ w.cell? ⟨P, o + 2, none⟩ = some (.int .u32 (s.c : Int)) ∧ w.cell? ⟨P, o + 3, none⟩ = some (.int .u32 (s.d : Int)) ∧
    w.cell? ⟨P, o + 4, none⟩ = some (.int .u32 (s.e : Int)) ∧ w.cell? ⟨P, o + 5, none⟩ = some (.int .u32 (s.f : Int)) ∧ w.cell? ⟨P, o + 6, none⟩ = some (.int .u32 (s.g : Int)) ∧ w.cell? ⟨P, o + 7, none⟩ = some (.int .u32 (s.h : Int)) :=
  ⟨h 0 _ rfl, h 1 _ rfl, h 2 _ rfl, h 3 _ rfl, h 4 _ rfl, h 5 _ rfl, h 6 _ rfl, h 7 _ rfl⟩

theorem sumH_at (s r : Hs) : ∀ (i a b : Nat), s.words[i]? = some a → r.words[i]? = some b → (sumH s r).words[i]? = some ((a + b) % 4294967296)
  | 0, _, _, h, k => by cases h; cases k; rfl
  | 1, _, _, h, k => by cases h; cases k; rfl
  | 2, _, _, h, k => by cases h; cases k; rfl
  | 3, _, _, h, k => by cases h; cases k; rfl
  | 4, _, _, h, k => by cases h; cases k; rfl
  | 5, _, _, h, k => by cases h; cases k; rfl
  | 6, _, _, h, k => by cases h; cases k; rfl
  | 7, _, _, h, k => by cases h; cases k; rfl
  | n + 8, _, _, h, _ => by have := (List.getElem?_eq_some_iff.1 h).1; rw [Hs.words_length] at this; omega
set_option maxHeartbeats 8000000 in
set_option maxRecDepth 1000000 in
theorem stir_any {blk : List Nat} {s0 : Hs} (hs0 : s0.ok) (hl : blk.length = 64) (hb : ∀ x ∈ blk, x < 256) (w : World) (htab : Tabs w) :
    Calls Tryd.prog 32 #[.agg (u32s s0.words).toArray, .agg (u8s blk).toArray] w fun e w' => e = .returned (.agg (u32s (comp s0 blk).words).toArray) ∧ Below w.heap.size w w' := by
  obtain ⟨b0, hb0⟩ : ∃ b, b = u8s blk := ⟨_, rfl⟩
  have HB1 : Hid (b0.toArray.size = 64) := Lib.hid (by rw [hb0]; simp [u8s, hl])
  rw [← hb0]
  obtain ⟨ws0, hws0⟩ : ∃ b, b = u32s s0.words := ⟨_, rfl⟩
  rw [← hws0]
  have HB := Lib.hid hb
  have HL := Lib.hid hl
  have HB0 := Lib.hid hb0
  have HWS0 := Lib.hid hws0
  have HS0 := Lib.hid hs0
  have HTB := Lib.hid htab
  clear hb0 hws0 hb hl hs0 htab
  go_enter Tryd.func32, Tryd.ntmps32
  iterate 17 (first | go_values | go_skip | go_guarded | go_step | go_upon)
  refine wpList_name ?_
  intro W1 hW1
  have hz1 : W1.heap.size = w.heap.size + 3 := by rw [hW1.out]; simp
  have HBW : Hid (Below w.heap.size w W1) := Lib.hid (by rw [hW1.out]; exact (((Below.refl _ _).alloc (Nat.le_refl _) _).alloc (by simp) _).alloc (by simp; omega) _)
  have HA2 : Hid (Arr W1 w.heap.size 50 ws0) := Lib.hid (by rw [hW1.out]; exact ((arr_new w _ ws0).alloc _).alloc _)
  obtain ⟨P3, hP3⟩ : ∃ p, p = w.heap.size + 1 := ⟨_, rfl⟩
  obtain ⟨P4, hP4⟩ : ∃ p, p = w.heap.size + 1 + 1 := ⟨_, rfl⟩
  rw [← hP4, ← hP3]
  have HA3 : Hid (Arr W1 P3 34 b0) := Lib.hid (by rw [hW1.out, hP3]; have h := (arr_new (w.alloc (.cells ws0.toArray 50)) 34 b0).alloc (.cells (u32s (List.replicate 8 0)).toArray 50); simp only [World.size_alloc] at h; exact h)
  have HA4 : Hid (Arr W1 P4 50 (u32s (List.replicate 8 0))) := Lib.hid (by rw [hW1.out, hP4]; have h := arr_new ((w.alloc (.cells ws0.toArray 50)).alloc (.cells b0.toArray 34)) 50 (u32s (List.replicate 8 0)); simp only [World.size_alloc] at h; exact h)
  have HT1 : Hid (Tabs W1) := Lib.hid (HTB.out.keep HBW.out)
  have hz3 : w.heap.size < P3 := by omega
  have hz4 : P3 < P4 := by omega
  have hzw : W1.heap.size = P4 + 1 := by omega
  clear hW1 hP3 hP4 hz1
  refine wpList_load_row rfl 34 (.tmp 3) rfl P3 rfl 34 b0.toArray (0, 0) _ HA3.out Tryd.underlying34 rfl (by rw [HB1.out]; kernel_rfl) ?_
  obtain ⟨sc, hsc⟩ : ∃ L, L = sched blk 64 := ⟨_, rfl⟩
  have HSL : Hid (sc.length = 64) := Lib.hid (by rw [hsc]; exact sched_length _ _)
  have HSC := Lib.hid hsc
  have HSP : Hid (∀ W, Calls Tryd.prog 37 #[.agg b0.toArray] W fun e w' => e = .returned (.agg (u32s sc).toArray) ∧ Below W.heap.size W w') := Lib.hid fun W => by rw [HB0.out, hsc]; exact spread_any HL.out HB.out W
  clear hsc
  obtain ⟨ls, hls⟩ : ∃ L, L = u32s sc := ⟨_, rfl⟩
  have hls2 : ls.toArray.size = 64 := by rw [hls]; simp [u32s, HSL.out]
  have HI : Hid ((Tryd.prog.info? 51).map (·.size) = some ls.toArray.size) := Lib.hid (by rw [hls2]; kernel_rfl)
  have HALL : Hid (ls.toArray.all (·.oneCell') = true) := Lib.hid (by rw [hls]; exact all_one (u32s_one _))
  have HSZ : Hid ((u32s (List.replicate 64 0)).toArray.size = ls.toArray.size) := Lib.hid (by rw [hls2]; simp [u32s])
  rw [← hls] at HSP
  have HLS := Lib.hid hls
  clear hls hls2
  repeat (first | (refine wpList_store_row rfl 51 (.tmp 5) (.tmp 22) rfl W2.heap.size ls.toArray rfl rfl 51 (u32s (List.replicate 64 0)).toArray (arr_new W2 _ (u32s (List.replicate 64 0))) HI.out HSZ.out HALL.out ?_; refine wpList_name ?_; intro W3 hW3; have HA5 := Lib.hid (show Arr W3 W2.heap.size 51 ls by rw [hW3.out]; exact setRow_heap _ _ _ _ _ _ (arr_new W2 _ (u32s (List.replicate 64 0)))); have HB3 := Lib.hid (show Below W2.heap.size W2 W3 by rw [hW3.out]; exact below_setRow ((Below.refl _ _).alloc (Nat.le_refl _) _) (Nat.le_refl _) _); clear hW3) | go_values | go_skip | go_guarded | go_step | (go_at_call 37; refine (HSP.out _).mono ?_; rintro e W2 ⟨rfl, hb2⟩; have HB2 := Lib.hid hb2; clear hb2; dsimp only) | go_upon)
  obtain ⟨P5, hP5⟩ : ∃ p, p = W2.heap.size := ⟨_, rfl⟩
  rw [← hP5] at HA5 HB3 ⊢
  have hz5 : P4 < P5 := by have := HB2.out.size; omega
  have HB13 : Hid (Below W1.heap.size W1 W3) := Lib.hid (HB2.out.trans (HB3.out.mono (by have := HB2.out.size; omega)))
  have HBW3 : Hid (Below w.heap.size w W3) := Lib.hid (HBW.out.trans (HB13.out.mono (by have := HBW.out.size; omega)))
  have HA23 : Hid (Arr W3 w.heap.size 50 ws0) := Lib.hid ((HB13.out.block _ HA2.out.lt).trans HA2.out)
  have HA43 : Hid (Arr W3 P4 50 (u32s (List.replicate 8 0))) := Lib.hid ((HB13.out.block _ HA4.out.lt).trans HA4.out)
  have HT3 : Hid (Tabs W3) := Lib.hid (HT1.out.keep HB13.out)
  have HWC : Hid (∀ W, Arr W w.heap.size 50 ws0 → ∀ (j x : Nat), s0.words[j]? = some x → W.cell? ⟨w.heap.size, 0 + j, none⟩ = some (.int .u32 (x : Int))) := Lib.hid fun W h j x hx => by
    rw [HWS0.out] at h; rw [Nat.zero_add]; exact h.cell (u32s_at hx)
  clear hP5 HA2 HA3 HA4 HB2 HB3 HB13 HT1
  obtain ⟨sa, sb, sc', sd, se, sf, sg, sh⟩ := s0
  obtain ⟨e1, e2, e3, e4, e5, e6, e7, e8⟩ := words_cells (HWC.out W3 HA23.out)
  simp only [Nat.zero_add] at e1 e2 e3 e4 e5 e6 e7 e8
  go_quiet (fail)
  obtain ⟨V1, hwV1⟩ : ∃ W, W = W3.drewN nq := ⟨_, rfl⟩
  rw [← hwV1]
  have HOV1 : Hid (Only (fun _ => False) W3 V1) := Lib.hid (by rw [hwV1]; exact only_drewN _ _ _)
  obtain ⟨f1, f2, f3, f4, f5, f6, f7, f8⟩ := words_cells (HWC.out V1 (HA23.out.only HOV1.out (fun h => h)))
  simp only [Nat.zero_add] at f1 f2 f3 f4 f5 f6 f7 f8
  clear hwV1 e1 e2 e3 e4 e5 e6 e7 e8 f1 f2 f3 f4
  repeat (first | go_values | go_skip | go_guarded | go_step | go_upon)
  go_quiet (fail)
  obtain ⟨V2, hwV2⟩ : ∃ W, W = V1.drewN nq := ⟨_, rfl⟩
  rw [← hwV2]
  have HOV2 : Hid (Only (fun _ => False) W3 V2) := Lib.hid (by rw [hwV2]; exact HOV1.out.trans (only_drewN (fun _ => False) _ _) (fun _ _ h => h))
  clear hwV2 f5 f6 f7 f8
  repeat (first | go_values | go_skip | go_guarded | go_step | go_upon)
  obtain ⟨s0, hs0⟩ : ∃ s : Hs, s = ⟨sa, sb, sc', sd, se, sf, sg, sh⟩ := ⟨_, rfl⟩
  go_loopw [6, 7, 8, 9, 10, 11, 12, 13, 39] (fun va vb vc vd ve vf vg vh c wr => ∃ t : Nat, t ≤ 64 ∧ c = .int .i64 t ∧ va = .int .u32 ((rounds sc s0 t).a : Nat) ∧ vb = .int .u32 ((rounds sc s0 t).b : Nat) ∧ vc = .int .u32 ((rounds sc s0 t).c : Nat) ∧ vd = .int .u32 ((rounds sc s0 t).d : Nat) ∧ ve = .int .u32 ((rounds sc s0 t).e : Nat) ∧ vf = .int .u32 ((rounds sc s0 t).f : Nat) ∧ vg = .int .u32 ((rounds sc s0 t).g : Nat) ∧ vh = .int .u32 ((rounds sc s0 t).h : Nat) ∧ Only (fun _ => False) W3 wr) (fun _ _ _ _ _ _ _ _ c _ => 64 - (intOf c).toNat)
  case atStart => exact ⟨0, by omega, rfl, by rw [hs0]; rfl, by rw [hs0]; rfl, by rw [hs0]; rfl, by rw [hs0]; rfl, by rw [hs0]; rfl, by rw [hs0]; rfl, by rw [hs0]; rfl, by rw [hs0]; rfl, HOV2.out⟩
  case round =>
    obtain ⟨t, ht, rfl, rfl, rfl, rfl, rfl, rfl, rfl, rfl, rfl, ho⟩ := hrel
    have HO := Lib.hid ho
    have HTw := Lib.hid (HT3.out.only ho (fun h => h) (fun h => h))
    have HA5w := Lib.hid (HA5.out.only ho (fun h => h))
    have hok := rounds_ok HS0.out sc t
    rw [← hs0] at hok
    have HS00 := Lib.hid hs0
    rw [← hs0] at HWC HWS0
    clear ho hs0
    by_cases hlt64 : t < 64
    · have t64 : decide ((t : Int) < 64) = true := by simp only [decide_eq_true_eq]; omega
      have hti : (t : Int) < 64 := by omega
      obtain ⟨wt, hwt⟩ : ∃ x, sc[t]? = some x := ⟨sc[t]'(by have := HSL.out; omega), List.getElem?_eq_getElem _⟩
      obtain ⟨kt, hkt⟩ : ∃ x, keysL[t]? = some x := ⟨keysL[t]'(by rw [show keysL.length = 64 by decide]; omega), List.getElem?_eq_getElem _⟩
      have d5 := HTw.out.roots t kt hkt
      have d11 := HA5w.out.cell (by rw [HLS.out]; exact u32s_at hwt)
      obtain ⟨⟨va, vb, vc, vd, ve, vf, vg, vh⟩, hs⟩ : ∃ s, s = rounds sc s0 t := ⟨_, rfl⟩
      rw [← hs] at hok ⊢
      obtain ⟨la, lb, lc, ld, le, lf, lg, lh⟩ := hok
      simp only at la lb lc ld le lf lg lh ⊢
      have HS : Hid (rounds sc s0 (t + 1) = round1 ⟨va, vb, vc, vd, ve, vf, vg, vh⟩ kt wt) := Lib.hid (by
        rw [rounds, ← hs]; simp only [List.getD, hkt, hwt, Option.getD_some])
      have HRe6 : Hid (∀ W, Calls Tryd.prog 38 #[.int .u32 (ve : Int), .int .i64 6] W fun e w' => e = .returned (.int .u32 ((rotr ve 6 : Nat) : Int)) ∧ w' = W) := Lib.hid fun W => right_any (k := 6) le (by omega) (by omega) W
      have HRe11 : Hid (∀ W, Calls Tryd.prog 38 #[.int .u32 (ve : Int), .int .i64 11] W fun e w' => e = .returned (.int .u32 ((rotr ve 11 : Nat) : Int)) ∧ w' = W) := Lib.hid fun W => right_any (k := 11) le (by omega) (by omega) W
      have HRe25 : Hid (∀ W, Calls Tryd.prog 38 #[.int .u32 (ve : Int), .int .i64 25] W fun e w' => e = .returned (.int .u32 ((rotr ve 25 : Nat) : Int)) ∧ w' = W) := Lib.hid fun W => right_any (k := 25) le (by omega) (by omega) W
      have HRa2 : Hid (∀ W, Calls Tryd.prog 38 #[.int .u32 (va : Int), .int .i64 2] W fun e w' => e = .returned (.int .u32 ((rotr va 2 : Nat) : Int)) ∧ w' = W) := Lib.hid fun W => right_any (k := 2) la (by omega) (by omega) W
      have HRa13 : Hid (∀ W, Calls Tryd.prog 38 #[.int .u32 (va : Int), .int .i64 13] W fun e w' => e = .returned (.int .u32 ((rotr va 13 : Nat) : Int)) ∧ w' = W) := Lib.hid fun W => right_any (k := 13) la (by omega) (by omega) W
      have HRa22 : Hid (∀ W, Calls Tryd.prog 38 #[.int .u32 (va : Int), .int .i64 22] W fun e w' => e = .returned (.int .u32 ((rotr va 22 : Nat) : Int)) ∧ w' = W) := Lib.hid fun W => right_any (k := 22) la (by omega) (by omega) W
      clear hs hwt hkt
      obtain ⟨p1, hp1⟩ : ∃ p, p = rotr ve 6 ^^^ rotr ve 11 := ⟨_, rfl⟩
      obtain ⟨S1, hS1⟩ : ∃ p, p = big1 ve := ⟨_, rfl⟩
      obtain ⟨n1, hn1⟩ : ∃ p, p = ve &&& vf := ⟨_, rfl⟩
      obtain ⟨n0, hn0⟩ : ∃ p, p = 4294967295 - ve := ⟨_, rfl⟩
      obtain ⟨n2, hn2⟩ : ∃ p, p = n0 &&& vg := ⟨_, rfl⟩
      obtain ⟨ch, hch⟩ : ∃ p, p = chF ve vf vg := ⟨_, rfl⟩
      obtain ⟨q1, hq1⟩ : ∃ p, p = (vh + S1) % 4294967296 := ⟨_, rfl⟩
      obtain ⟨q2, hq2⟩ : ∃ p, p = (q1 + ch) % 4294967296 := ⟨_, rfl⟩
      obtain ⟨q3, hq3⟩ : ∃ p, p = (q2 + kt) % 4294967296 := ⟨_, rfl⟩
      obtain ⟨t1, ht1⟩ : ∃ p, p = (q3 + wt) % 4294967296 := ⟨_, rfl⟩
      obtain ⟨p3, hp3⟩ : ∃ p, p = rotr va 2 ^^^ rotr va 13 := ⟨_, rfl⟩
      obtain ⟨S0, hS0⟩ : ∃ p, p = big0 va := ⟨_, rfl⟩
      obtain ⟨m1, hm1⟩ : ∃ p, p = va &&& vb := ⟨_, rfl⟩
      obtain ⟨m2, hm2⟩ : ∃ p, p = va &&& vc := ⟨_, rfl⟩
      obtain ⟨m3, hm3⟩ : ∃ p, p = m1 ^^^ m2 := ⟨_, rfl⟩
      obtain ⟨m4, hm4⟩ : ∃ p, p = vb &&& vc := ⟨_, rfl⟩
      obtain ⟨mj, hmj⟩ : ∃ p, p = majF va vb vc := ⟨_, rfl⟩
      obtain ⟨t2, ht2⟩ : ∃ p, p = (S0 + mj) % 4294967296 := ⟨_, rfl⟩
      obtain ⟨ne, hne⟩ : ∃ p, p = (vd + t1) % 4294967296 := ⟨_, rfl⟩
      obtain ⟨na, hna⟩ : ∃ p, p = (t1 + t2) % 4294967296 := ⟨_, rfl⟩
      have HT1 : Hid (t1 = t1F ⟨va, vb, vc, vd, ve, vf, vg, vh⟩ kt wt) := Lib.hid (by rw [ht1, hq3, hq2, hq1, t1F, ← hS1, ← hch]; simp only; omega)
      have HT2 : Hid (t2 = t2F ⟨va, vb, vc, vd, ve, vf, vg, vh⟩) := Lib.hid (by rw [ht2, t2F, ← hS0, ← hmj])
      have x1 : bits .xor .u32 ((rotr ve 6 : Nat) : Int) ((rotr ve 11 : Nat) : Int) = (p1 : Int) := by rw [u32_xor_nat _ _ (rotr_lt le) (rotr_lt le), hp1]
      have x2 : bits .xor .u32 (p1 : Int) ((rotr ve 25 : Nat) : Int) = (S1 : Int) := by rw [u32_xor_nat _ _ (by rw [hp1]; exact xor_lt (rotr_lt le) (rotr_lt le)) (rotr_lt le), hp1, hS1]; rfl
      have x3 : bits .and .u32 (ve : Int) (vf : Int) = (n1 : Int) := by rw [u32_and_nat _ _ le lf, hn1]
      have x4 : bits .xor .u32 (if IntKind.u32.signed = true then -1 else IntKind.u32.max) (ve : Int) = (n0 : Int) := by rw [not_u32 le, hn0]
      have x5 : bits .and .u32 (n0 : Int) (vg : Int) = (n2 : Int) := by rw [u32_and_nat _ _ (by omega) lg, hn2]
      have x6 : bits .xor .u32 (n1 : Int) (n2 : Int) = (ch : Int) := by rw [u32_xor_nat _ _ (by rw [hn1]; exact and_lt lf) (by rw [hn2]; exact and_lt lg), hn1, hn2, hn0, hch]; rfl
      have x7 : bits .xor .u32 ((rotr va 2 : Nat) : Int) ((rotr va 13 : Nat) : Int) = (p3 : Int) := by rw [u32_xor_nat _ _ (rotr_lt la) (rotr_lt la), hp3]
      have x8 : bits .xor .u32 (p3 : Int) ((rotr va 22 : Nat) : Int) = (S0 : Int) := by rw [u32_xor_nat _ _ (by rw [hp3]; exact xor_lt (rotr_lt la) (rotr_lt la)) (rotr_lt la), hp3, hS0]; rfl
      have x9 : bits .and .u32 (va : Int) (vb : Int) = (m1 : Int) := by rw [u32_and_nat _ _ la lb, hm1]
      have x10 : bits .and .u32 (va : Int) (vc : Int) = (m2 : Int) := by rw [u32_and_nat _ _ la lc, hm2]
      have x11 : bits .xor .u32 (m1 : Int) (m2 : Int) = (m3 : Int) := by rw [u32_xor_nat _ _ (by rw [hm1]; exact and_lt lb) (by rw [hm2]; exact and_lt lc), hm3]
      have x12 : bits .and .u32 (vb : Int) (vc : Int) = (m4 : Int) := by rw [u32_and_nat _ _ lb lc, hm4]
      have x13 : bits .xor .u32 (m3 : Int) (m4 : Int) = (mj : Int) := by rw [u32_xor_nat _ _ (by rw [hm3, hm1, hm2]; exact xor_lt (and_lt lb) (and_lt lc)) (by rw [hm4]; exact and_lt lc), hm3, hm1, hm2, hm4, hmj]; rfl
      have y1 : IntKind.u32.wrap ((vh : Int) + S1) = (q1 : Int) := by rw [IntKind.wrap_u32, hq1]; omega
      have y2 : IntKind.u32.wrap ((q1 : Int) + ch) = (q2 : Int) := by rw [IntKind.wrap_u32, hq2]; omega
      have y3 : IntKind.u32.wrap ((q2 : Int) + kt) = (q3 : Int) := by rw [IntKind.wrap_u32, hq3]; omega
      have y4 : IntKind.u32.wrap ((q3 : Int) + wt) = (t1 : Int) := by rw [IntKind.wrap_u32, ht1]; omega
      have y5 : IntKind.u32.wrap ((S0 : Int) + mj) = (t2 : Int) := by rw [IntKind.wrap_u32, ht2]; omega
      have y6 : IntKind.u32.wrap ((vd : Int) + t1) = (ne : Int) := by rw [IntKind.wrap_u32, hne]; omega
      have y7 : IntKind.u32.wrap ((t1 : Int) + t2) = (na : Int) := by rw [IntKind.wrap_u32, hna]; omega
      have HNX : Hid (rounds sc s0 (t + 1) = ⟨na, va, vb, vc, ne, ve, vf, vg⟩) := Lib.hid (by rw [HS.out, round1, ← HT1.out, ← HT2.out, hna, hne])
      clear hp1 hS1 hn1 hn0 hn2 hch hq1 hq2 hq3 ht1 hp3 hS0 hm1 hm2 hm3 hm4 hmj ht2 hne hna la lb lc ld le lf lg lh
      repeat (first | go_values | go_skip | go_guarded | go_step | go_upon)
      refine wp_region_still_lit (by kernel_rfl) (by kernel_rfl) ?_
      repeat still_step
      still_call (HRe6.out _)
      repeat still_step
      still_call (HRe11.out _)
      repeat still_step
      still_call (HRe25.out _)
      repeat still_step
      refine wpStill_nil ?_
      obtain ⟨V4, hV4⟩ : ∃ W, W = wr.drew := ⟨_, rfl⟩
      change Exit.then _ _ Exit.normal _ wr.drew
      rw [← hV4]
      have HV4 : Hid (Only (fun _ => False) W3 V4) := Lib.hid (by rw [hV4]; exact HO.out.trans (Only.drew (fun _ => False) wr) (fun _ _ h => h))
      clear hV4 d5 d11
      repeat (first | go_values | go_skip | go_guarded | go_step | go_upon)
      refine (HRa2.out _).mono ?_
      rintro e w' ⟨rfl, rfl⟩
      dsimp only
      repeat (first | go_values | go_skip | go_guarded | go_step | go_upon)
      refine (HRa13.out _).mono ?_
      rintro e w' ⟨rfl, rfl⟩
      dsimp only
      repeat (first | go_values | go_skip | go_guarded | go_step | go_upon)
      refine (HRa22.out _).mono ?_
      rintro e w' ⟨rfl, rfl⟩
      dsimp only
      repeat (first | go_values | go_skip | go_guarded | go_step | go_upon)
      go_roundw
      case rel => exact ⟨t + 1, by omega, by go_num, by rw [HNX.out], by rw [HNX.out], by rw [HNX.out], by rw [HNX.out], by rw [HNX.out], by rw [HNX.out], by rw [HNX.out], by rw [HNX.out], HV4.out⟩
      case measure => simp [intOf]; omega
    · have t64 : decide ((t : Int) < 64) = false := by simp only [decide_eq_false_iff_not]; omega
      have ht64 : t = 64 := by omega
      obtain ⟨⟨va, vb, vc, vd, ve, vf, vg, vh⟩, hs⟩ : ∃ s, s = rounds sc s0 t := ⟨_, rfl⟩
      rw [← hs] at hok ⊢
      obtain ⟨la, lb, lc, ld, le, lf, lg, lh⟩ := hok
      simp only at la lb lc ld le lf lg lh ⊢
      rw [ht64, HSC.out] at hs
      have HRD : Hid (comp s0 blk = sumH s0 ⟨va, vb, vc, vd, ve, vf, vg, vh⟩) := Lib.hid (by rw [comp, ← hs])
      have HA2w : Hid (Arr wr w.heap.size 50 ws0) := Lib.hid (HA23.out.only HO.out (fun h => h))
      have HA4w : Hid (Arr wr P4 50 (u32s (List.replicate 8 0))) := Lib.hid (HA43.out.only HO.out (fun h => h))
      have HBWw : Hid (Below w.heap.size w wr) := Lib.hid (HBW3.out.trans (HO.out.below (by have := HBW3.out.size; omega) (fun _ h => h.elim)))
      obtain ⟨Wl, hWl⟩ : ∃ W, W = wr := ⟨_, rfl⟩
      subst hWl
      have HSUM := Lib.hid (sumH_at s0 ⟨va, vb, vc, vd, ve, vf, vg, vh⟩)
      obtain ⟨C, hC⟩ : ∃ C, C = (sumH s0 ⟨va, vb, vc, vd, ve, vf, vg, vh⟩).words := ⟨_, rfl⟩
      have hCl : C.length = 8 := by rw [hC]; rfl
      rw [← hC] at HSUM
      have HC := Lib.hid hC
      have HCL := Lib.hid hCl
      rw [HWS0.out] at HA2w
      clear hs ht hlt64 ht64 hC hCl la lb lc ld le lf lg lh HTw HA5w HO
      repeat (first | go_values | go_skip | go_guarded | go_step | go_upon)
      go_loopw [113] (fun c wr => ∃ i : Nat, i ≤ 8 ∧ c = .int .i64 i ∧ Arr wr w.heap.size 50 (u32s (C.take i ++ s0.words.drop i)) ∧ Only (fun k => k = w.heap.size) Wl wr) (fun c _ => 8 - (intOf c).toNat)
      case atStart => exact ⟨0, by omega, rfl, by simpa using HA2w.out, Only.refl _ _⟩
      case round =>
        obtain ⟨i, hi, rfl, h4i, ho⟩ := hrel
        have HO := Lib.hid ho
        have H4 := Lib.hid h4i
        clear t64
        by_cases hlt : i < 8
        · have t8 : decide ((i : Int) < 8) = true := by simp only [decide_eq_true_eq]; omega
          have hti : (i : Int) < 8 := by omega
          obtain ⟨a, ha⟩ : ∃ x, s0.words[i]? = some x := ⟨s0.words[i]'(by rw [Hs.words_length]; omega), List.getElem?_eq_getElem _⟩
          obtain ⟨b, hb⟩ : ∃ x, (Hs.words ⟨va, vb, vc, vd, ve, vf, vg, vh⟩)[i]? = some x := ⟨(Hs.words ⟨va, vb, vc, vd, ve, vf, vg, vh⟩)[i]'(by rw [Hs.words_length]; omega), List.getElem?_eq_getElem _⟩
          have hc := HSUM.out i a b ha hb
          have HB8 := Lib.hid (u32s_at hb)
          have d4 := H4.out.cell (i := i) (u := .int .u32 (a : Int)) (by
            apply u32s_at
            have hCl : i < C.length := (List.getElem?_eq_some_iff.1 hc).1
            rw [List.getElem?_append_right (by simp; omega)]
            rw [show i - (C.take i).length = 0 by simp; omega, List.getElem?_drop]; exact ha)
          have q4 := H4.out.free i
          obtain ⟨c, hcc⟩ : ∃ c, c = (a + b) % 4294967296 := ⟨_, rfl⟩
          rw [← hcc] at hc
          have y1 : IntKind.u32.wrap ((a : Int) + b) = (c : Int) := by rw [IntKind.wrap_u32, hcc]; omega
          have HCi := Lib.hid hc
          clear hcc hc ha hb h4i ho
          repeat (first | (refine wpList_index_one rfl 50 (.tmp 112) (.tmp 113) rfl (u32s (Hs.words ⟨va, vb, vc, vd, ve, vf, vg, vh⟩)) .i64 i _ rfl rfl 8 49 _ Tryd.underlying50 Tryd.underlying49 rfl (by kernel_rfl) hlt HB8.out ?_) | go_values | go_skip | go_guarded | go_step | go_upon)
          go_roundw
          case rel => exact ⟨i + 1, by omega, by go_num, by rw [← step_set (by rw [Hs.words_length]; omega) HCi.out]; exact H4.out.set i _, HO.out.trans (Only.setCell (S := fun k => k = w.heap.size) wr (p := ⟨w.heap.size, i, none⟩) rfl _) (fun _ _ h => h)⟩
          case measure => simp [intOf]; omega
        · have t8 : decide ((i : Int) < 8) = false := by simp only [decide_eq_false_iff_not]; omega
          have hi8 : i = 8 := by omega
          rw [hi8, show C.take 8 ++ s0.words.drop 8 = C by rw [List.take_of_length_le (by have := HCL.out; omega), List.drop_of_length_le (by rw [Hs.words_length]; omega)]; simp] at H4
          have HA4x : Hid (Arr wr P4 50 (u32s (List.replicate 8 0))) := Lib.hid (HA4w.out.only HO.out (by omega))
          have HBX : Hid (Below w.heap.size w wr) := Lib.hid (HBWw.out.trans (HO.out.below (by have := HBWw.out.size; omega) (fun k hk => by omega)))
          obtain ⟨lc8, hlc⟩ : ∃ L, L = u32s C := ⟨_, rfl⟩
          rw [← hlc] at H4
          have hlz : lc8.toArray.size = 8 := by rw [hlc]; simp [u32s, HCL.out]
          have HI8 : Hid ((Tryd.prog.info? 50).map (·.size) = some lc8.toArray.size) := Lib.hid (by rw [hlz]; kernel_rfl)
          have HALL8 : Hid (lc8.toArray.all (·.oneCell') = true) := Lib.hid (by rw [hlc]; exact all_one (u32s_one _))
          have HSZ8 : Hid ((u32s (List.replicate 8 0)).toArray.size = lc8.toArray.size) := Lib.hid (by rw [hlz]; simp [u32s])
          have HLC := Lib.hid hlc
          clear hi8 hi hlt h4i ho hlc hlz
          repeat (first | (refine wpList_load_row rfl 50 (.tmp 2) rfl w.heap.size rfl 50 lc8.toArray (0, 0) _ H4.out Tryd.underlying50 rfl HI8.out ?_) | (refine wpList_store_row rfl 50 (.tmp 4) (.tmp 124) rfl P4 lc8.toArray rfl rfl 50 (u32s (List.replicate 8 0)).toArray HA4x.out HI8.out HSZ8.out HALL8.out ?_) | go_values | go_skip | go_guarded | go_step | go_upon)
          (try simp only [Exit.inBlock, Exit.then])
          refine bodyPost_ret (results_cell_row rfl _ _ P4 50 lc8.toArray (0, 0) _ rfl (setRow_heap wr P4 _ lc8.toArray _ _ HA4x.out) Tryd.underlying50 rfl HI8.out) rfl ?_
          exact ⟨by rw [HLC.out, ← HS00.out, HRD.out, HC.out], below_setRow HBX.out (by omega) _⟩
end Go.Proofs.YtfbnnhailnbmiaaDoor
