/- The document's digest, walked. -/
import Derived.Test.YtfbnnhailnbmiaaDoorRefL4
import Derived.Laws.CopyOwn
namespace Go.Proofs.YtfbnnhailnbmiaaDoor
open Go.RowKit

theorem keys_len : keysL.length = 64 := by decide
theorem primesL_le : ∀ p ∈ primesL, 2 ≤ p ∧ p ≤ 400 := by decide +kernel
theorem cube_at {i p whole : Nat} (hi : i < 64) (hp : primesL[i]? = some p) (h1 : whole < 8) (h2 : whole * whole * whole ≤ p) (h3 : p < (whole + 1) * (whole + 1) * (whole + 1)) : keysL[i]? = some (cubeF p whole) := by
  have h := cube_keys i hi whole h1
  simp only [List.getD, hp, Option.getD_some] at h
  have h4 := h h2 h3
  rw [h4, List.getElem?_eq_getElem (by rw [keys_len]; exact hi)]; simp
theorem square_at {i p whole : Nat} (hi : i < 8) (hp : primesL[i]? = some p) (h1 : whole < 21) (h2 : whole * whole ≤ p) (h3 : p < (whole + 1) * (whole + 1)) : startH.words[i]? = some (squareF p whole) := by
  have h := square_keys i hi whole h1
  simp only [List.getD, hp, Option.getD_some] at h
  have h4 := h h2 h3
  rw [h4, List.getElem?_eq_getElem (by show i < 8; exact hi)]; simp
theorem lies_len {w : World} {v : Value} {bs : List Nat} (h : Lies w v bs) : ∃ a c, v = .slice a bs.length c := by
  rcases h with ⟨rfl, rfl⟩ | ⟨ad, c, rfl, rfl⟩ | ⟨b, off, c, rfl, _⟩ <;> exact ⟨_, _, rfl⟩
theorem len8_length (n : Nat) : (len8 n).length = 8 := by simp [len8]
theorem len8_at (n : Nat) {j : Nat} (h : j < 8) : (len8 n)[j]? = some (n / 2 ^ (8 * (7 - j)) % 256) := by simp [len8, h]
theorem padZ_lt (n : Nat) : padZ n < 64 := Nat.mod_lt _ (by decide)
theorem fillB_length (n : Nat) : (fillB n).length = 1 + padZ n + 8 := by simp [fillB, len8_length]; omega
theorem padded_blocks (bs : List Nat) : (padded bs).length = 64 * ((padded bs).length / 64) := by
  have : (padded bs).length = bs.length + (1 + padZ bs.length + 8) := by rw [padded, List.length_append, fillB_length]
  rw [this]; unfold padZ; omega
theorem padded_lt {bs : List Nat} (hb : ∀ x ∈ bs, x < 256) : ∀ x ∈ padded bs, x < 256 := by
  intro x hx
  rcases List.mem_append.1 hx with h | h
  · exact hb x h
  · rcases List.mem_cons.1 h with rfl | h
    · decide
    · rcases List.mem_append.1 h with h | h
      · rw [(List.mem_replicate.1 h).2]; decide
      · obtain ⟨i, _, rfl⟩ := List.mem_map.1 h; exact Nat.mod_lt _ (by decide)
/-- what is left of the filled row -/
def RestB (g nb q : Nat) (v : Value) : Prop := ∃ ad c, v = .slice (some ad) (64 * (nb - q)) c ∧ 64 * (nb - q) ≤ c ∧ (nb - q ≠ 0 → ad = ⟨g, 64 * q, none⟩)
theorem own_empty (w : World) : (w.alloc (.cells #[] 5)).ownsRow w.heap.size 5 1 (.slice (some ⟨w.heap.size, 0, none⟩) 0 0) 0 [] :=
  ⟨rfl, .inr ⟨w.heap.size, 0, #[], rfl, Nat.le_refl _, heap_alloc_new w _, Nat.le_refl _, Nat.zero_le _, rfl, rfl⟩⟩
def lenV2 : Value → Nat
  | .slice _ n _ => n
  | _ => 0
theorem lies_keep {w w' : World} {v : Value} {bs : List Nat} (h : Lies w v bs) (hb : Below w.heap.size w w') : Lies w' v bs := by
  rcases h with h | ⟨ad, c, h⟩ | ⟨b, off, c, h1, h2⟩
  · exact .inl h
  · exact .inr (.inl ⟨ad, c, h⟩)
  · exact .inr (.inr ⟨b, off, c, h1, fun j hj => by have hc := h2 j hj; rw [← hc]; exact hb.cell (p := ⟨b, off + j, none⟩) (by have := cell_lt hc; exact this)⟩)
theorem u64s_at {l : List Nat} {i x : Nat} (h : l[i]? = some x) : (u64s l)[i]? = some (.int .u64 (x : Int)) := by simp [u64s, h]

set_option maxHeartbeats 8000000 in
set_option maxRecDepth 100000 in
theorem rsum_any {w : World} {v0 : Value} {bs : List Nat} (hv : Lies w v0 bs) (hb : ∀ x ∈ bs, x < 256) (hbig : bs.length ≤ 100000) :
    Calls Tryd.prog 15 #[v0] w fun e w' => e = .returned (.agg (u8s (digest bs)).toArray) ∧ Below w.heap.size w w' := by
  obtain ⟨aV, cV, rfl⟩ := lies_len hv
  have HV := Lib.hid hv
  have HB := Lib.hid hb
  clear hv hb
  go_enter Tryd.func15, Tryd.ntmps15
  go_wp2_with fail
  obtain ⟨W0, hW0⟩ : ∃ W, W = w.alloc (.cells (u8s (List.replicate 32 0)).toArray 24) := ⟨_, rfl⟩
  have hR0 : Arr W0 w.heap.size 24 (u8s (List.replicate 32 0)) := by rw [hW0]; exact heap_alloc_new w _
  have hb0 : Below w.heap.size w W0 := by rw [hW0]; exact (Below.refl _ _).alloc (Nat.le_refl _) _
  have hz0 : W0.heap.size = w.heap.size + 1 := by rw [hW0]; simp
  change Calls _ _ _ (w.alloc (.cells (u8s (List.replicate 32 0)).toArray 24)) _
  rw [← hW0]
  clear hW0
  have HR0 := Lib.hid hR0
  have HB0 := Lib.hid hb0
  clear hR0 hb0
  refine (primes_any W0).mono ?_
  rintro e W1 ⟨v1, rfl, hown1, hb1⟩
  have hz1 := hb1.size
  obtain ⟨g1, c1, rfl, hg1, hgl1⟩ := hown1.form (by decide)
  have HO1 := Lib.hid hown1
  have HB1 := Lib.hid hb1
  clear hown1 hb1
  go_wp2
  obtain ⟨W3, hW3⟩ : ∃ W, W = (W1.alloc (.cells #[.int .u32 0, .int .u32 0, .int .u32 0, .int .u32 0, .int .u32 0, .int .u32 0, .int .u32 0, .int .u32 0] 50)).alloc (.cells #[.int .u32 0, .int .u32 0, .int .u32 0, .int .u32 0, .int .u32 0, .int .u32 0, .int .u32 0, .int .u32 0, .int .u32 0, .int .u32 0, .int .u32 0, .int .u32 0, .int .u32 0, .int .u32 0, .int .u32 0, .int .u32 0, .int .u32 0, .int .u32 0, .int .u32 0, .int .u32 0, .int .u32 0, .int .u32 0, .int .u32 0, .int .u32 0, .int .u32 0, .int .u32 0, .int .u32 0, .int .u32 0, .int .u32 0, .int .u32 0, .int .u32 0, .int .u32 0, .int .u32 0, .int .u32 0, .int .u32 0, .int .u32 0, .int .u32 0, .int .u32 0, .int .u32 0, .int .u32 0, .int .u32 0, .int .u32 0, .int .u32 0, .int .u32 0, .int .u32 0, .int .u32 0, .int .u32 0, .int .u32 0, .int .u32 0, .int .u32 0, .int .u32 0, .int .u32 0, .int .u32 0, .int .u32 0, .int .u32 0, .int .u32 0, .int .u32 0, .int .u32 0, .int .u32 0, .int .u32 0, .int .u32 0, .int .u32 0, .int .u32 0, .int .u32 0] 51) := ⟨_, rfl⟩
  obtain ⟨P4, hP4⟩ : ∃ P, P = W1.heap.size := ⟨_, rfl⟩
  obtain ⟨P5, hP5⟩ : ∃ P, P = P4 + 1 := ⟨_, rfl⟩
  have hb3 : Below W1.heap.size W1 W3 := by rw [hW3]; exact ((Below.refl _ _).alloc (Nat.le_refl _) _).alloc (by simp) _
  have hz3 : W3.heap.size = W1.heap.size + 2 := by rw [hW3]; simp
  have h4 : Arr W3 P4 50 (u32s (fillL startH.words 8 0)) := by rw [hW3, hP4]; exact (Below.heap_alloc _ _ _ (by simp)).trans (heap_alloc_new W1 _)
  have h5 : Arr W3 P5 51 (u32s (fillL keysL 64 0)) := by
    rw [hW3, hP5, hP4]
    have := heap_alloc_new (W1.alloc (.cells #[.int .u32 0, .int .u32 0, .int .u32 0, .int .u32 0, .int .u32 0, .int .u32 0, .int .u32 0, .int .u32 0] 50)) (.cells #[.int .u32 0, .int .u32 0, .int .u32 0, .int .u32 0, .int .u32 0, .int .u32 0, .int .u32 0, .int .u32 0, .int .u32 0, .int .u32 0, .int .u32 0, .int .u32 0, .int .u32 0, .int .u32 0, .int .u32 0, .int .u32 0, .int .u32 0, .int .u32 0, .int .u32 0, .int .u32 0, .int .u32 0, .int .u32 0, .int .u32 0, .int .u32 0, .int .u32 0, .int .u32 0, .int .u32 0, .int .u32 0, .int .u32 0, .int .u32 0, .int .u32 0, .int .u32 0, .int .u32 0, .int .u32 0, .int .u32 0, .int .u32 0, .int .u32 0, .int .u32 0, .int .u32 0, .int .u32 0, .int .u32 0, .int .u32 0, .int .u32 0, .int .u32 0, .int .u32 0, .int .u32 0, .int .u32 0, .int .u32 0, .int .u32 0, .int .u32 0, .int .u32 0, .int .u32 0, .int .u32 0, .int .u32 0, .int .u32 0, .int .u32 0, .int .u32 0, .int .u32 0, .int .u32 0, .int .u32 0, .int .u32 0, .int .u32 0, .int .u32 0, .int .u32 0] 51 (0, 0))
    rw [show (W1.alloc (.cells #[.int .u32 0, .int .u32 0, .int .u32 0, .int .u32 0, .int .u32 0, .int .u32 0, .int .u32 0, .int .u32 0] 50)).heap.size = W1.heap.size + 1 by simp] at this
    exact this
  rw [← hW3, ← hP4, ← hP5]
  clear hW3
  have H4 := Lib.hid h4
  have H5 := Lib.hid h5
  have hP45 : P4 < P5 := by omega
  have hP4z : g1 < P4 := by omega
  have hP5z : P5 < W3.heap.size := by omega
  have HB3 : Hid (Below w.heap.size w W3) := Lib.hid ((HB0.out.trans (HB1.out.mono (by omega))).trans (hb3.mono (by omega)))
  have hR3 : Arr W3 w.heap.size 24 (u8s (List.replicate 32 0)) := (hb3.block _ (by omega)).trans ((HB1.out.block _ (by omega)).trans HR0.out)
  have hO3 := ownsRow_beyond HO1.out hb3
  have HR3 := Lib.hid hR3
  have HO3 := Lib.hid hO3
  have hRP4 : w.heap.size < P4 := by omega
  clear h4 h5 hb3 hR3 hO3 hP4 hP5 HO1 HR0
  go_loopw [33] (fun c wr => ∃ i : Nat, i ≤ 64 ∧ c = .int .i64 i ∧ Arr wr P5 51 (u32s (fillL keysL 64 i)) ∧ Arr wr P4 50 (u32s (fillL startH.words 8 (min i 8))) ∧ Only (fun k => k = P4 ∨ k = P5) W3 wr) (fun c _ => 64 - (intOf c).toNat)
  case atStart => exact ⟨0, by omega, rfl, H5.out, H4.out, Only.refl _ _⟩
  case round =>
    obtain ⟨i, hi, rfl, h5, h4, ho⟩ := hrel
    have H5 := Lib.hid h5
    have H4 := Lib.hid h4
    have HO := Lib.hid ho
    by_cases hlt : i < 64
    · obtain ⟨p, hp⟩ : ∃ p, primesL[i]? = some p := ⟨primesL[i]'(by rw [primes_len]; exact hlt), List.getElem?_eq_getElem _⟩
      have hpr := primesL_le p (List.mem_of_getElem? hp)
      have hrow := row_only HO3.out ho (fun k hk hs => by have : k = g1 := by simpa [Value.ownBlock] using hk.symm
                                                          rcases hs with hs | hs <;> omega)
      have c0 : wr.cell? ⟨g1, i, none⟩ = some (.int .u64 (p : Int)) := (hrow.cellAt i (by omega)).trans (u64s_at hp)
      have q5 := h5.free i
      obtain ⟨o5, ho5⟩ : ∃ u, wr.cell? ⟨P5, i, none⟩ = some u := ⟨_, h5.cell (List.getElem?_eq_getElem (by simp [u32s, fillL, keys_len]; omega))⟩
      have HP := Lib.hid hp
      clear h5 h4 ho hp hrow
      by_cases h8 : i < 8
      · have t8 : decide ((i : Int) < 8) = true := by simp only [decide_eq_true_eq]; omega
        have hm1 : min i 8 = i := by omega
        have hm2 : min (i + 1) 8 = i + 1 := by omega
        have q4 := H4.out.free i
        obtain ⟨o4, ho4⟩ : ∃ u, wr.cell? ⟨P4, i, none⟩ = some u := ⟨_, H4.out.cell (List.getElem?_eq_getElem (by simp [u32s, fillL, Hs.words]; omega))⟩
        have HM1 := Lib.hid hm1
        have HM2 := Lib.hid hm2
        clear hm1 hm2
        go_wp2_with (go_at_call 25; refine (cube_any hpr.2 _).mono ?_; rintro e w' ⟨⟨whole, hw1, hw2, hw3, rfl⟩, rfl⟩; have HC := Lib.hid (cube_at hlt HP.out hw1 hw2 hw3); clear hw1 hw2 hw3)
        have h5 := H5.out.set i (.int .u32 ((cubeF p whole : Nat) : Int))
        rw [fill_set hlt HC.out] at h5
        have h4 := H4.out.only (Only.setCell (S := fun k => k = P5) wr (p := ⟨P5, i, none⟩) rfl (.int .u32 ((cubeF p whole : Nat) : Int))) (by omega)
        have ho := HO.out.trans (Only.setCell (S := fun k => k = P5) wr (p := ⟨P5, i, none⟩) rfl (.int .u32 ((cubeF p whole : Nat) : Int))) (fun _ _ h => .inr h)
        obtain ⟨w5, hw5⟩ : ∃ w5, w5 = wr.setCell ⟨P5, i, none⟩ (.int .u32 ((cubeF p whole : Nat) : Int)) := ⟨_, rfl⟩
        rw [← hw5] at h5 h4 ho ⊢
        clear hw5 q4 q5 ho4 ho5 c0 o4
        have q4 := h4.free i
        rw [HM1.out] at h4
        obtain ⟨o4, ho4⟩ : ∃ u, w5.cell? ⟨P4, i, none⟩ = some u := ⟨_, h4.cell (List.getElem?_eq_getElem (by simp [u32s, fillL, Hs.words]; omega))⟩
        have H5' := Lib.hid h5
        have H4' := Lib.hid h4
        have HO' := Lib.hid ho
        clear h5 h4 ho
        refine (square_any hpr.2 _).mono ?_
        rintro e w' ⟨⟨wh2, hw1, hw2, hw3, rfl⟩, rfl⟩
        have HC2 := Lib.hid (square_at h8 HP.out hw1 hw2 hw3)
        clear hw1 hw2 hw3
        go_wp2
        go_roundw
        case rel => exact ⟨i + 1, by omega, by go_num, H5'.out.only (Only.setCell (S := fun k => k = P4) w5 (p := ⟨P4, i, none⟩) rfl _) (by omega), by rw [HM2.out, ← fill_set h8 HC2.out]; exact H4'.out.set i _, HO'.out.trans (Only.setCell (S := fun k => k = P4) w5 (p := ⟨P4, i, none⟩) rfl _) (fun _ _ h => .inl h)⟩
        case measure => simp [intOf]; omega
      · have t8 : decide ((i : Int) < 8) = false := by simp only [decide_eq_false_iff_not]; omega
        have HM : Hid (min (i + 1) 8 = min i 8) := Lib.hid (by omega)
        go_wp2_with (go_at_call 25; refine (cube_any hpr.2 _).mono ?_; rintro e w' ⟨⟨whole, hw1, hw2, hw3, rfl⟩, rfl⟩; have HC := Lib.hid (cube_at hlt HP.out hw1 hw2 hw3); clear hw1 hw2 hw3)
        go_roundw
        case rel => exact ⟨i + 1, by omega, by go_num, by rw [← fill_set hlt HC.out]; exact H5.out.set i _, by rw [HM.out]; exact H4.out.only (Only.setCell (S := fun k => k = P5) wr (p := ⟨P5, i, none⟩) rfl _) (by omega), HO.out.trans (Only.setCell (S := fun k => k = P5) wr (p := ⟨P5, i, none⟩) rfl _) (fun _ _ h => .inr h)⟩
        case measure => simp [intOf]; omega
    · obtain rfl : i = 64 := by omega
      rw [fill_full keys_len] at H5
      rw [show min 64 8 = 8 by decide, fill_full (show startH.words.length = 8 by decide)] at H4
      have hR : Arr wr w.heap.size 24 (u8s (List.replicate 32 0)) := HR3.out.only ho (by omega)
      have HB4 : Hid (Below w.heap.size w wr) := Lib.hid (HB3.out.trans (ho.below (by omega) (fun k hk => by rcases hk with hk | hk <;> omega)))
      have hz4 := ho.size
      have HR := Lib.hid hR
      obtain ⟨Wk, hWk⟩ : ∃ Wk, Wk = wr := ⟨_, rfl⟩
      subst hWk
      clear h5 h4 ho hR HO HO3 HR3 HB3 HB0 HB1
      obtain ⟨iU, hiU, hzU, hsU, hbU⟩ : ∃ i, Tryd.prog.info? 5 = some i ∧ i.zero = some (.int .u8 0) ∧ i.size = 1 ∧ i.bytes = 1 := by
        have h := infoU8
        cases hi : Tryd.prog.info? 5 with
        | none => rw [hi] at h; simp at h
        | some i => rw [hi] at h; simp at h; exact ⟨i, rfl, h.1, h.2.1, h.2.2⟩
      have HLV := Lib.hid (show Lies Wk (.slice aV bs.length cV) bs from lies_keep HV.out HB4.out)
      go_wp2_with (first | (at_builtin; refine wpList_append_bytes _ rfl (.tmp 49) (.tmp 50) 22 rfl Wk.heap.size 5 iU Tryd.underlying22 hiU hzU hsU hbU _ 0 [] rfl (own_empty Wk) (.slice aV bs.length cV) bs rfl (lies_keep HLV.out ((Below.refl _ _).alloc (Nat.le_refl _) _)) (by omega) (by simp) ?_; intro vA WA hownA hgA _; have HOA := Lib.hid hownA; have HBA := Lib.hid (((Below.refl Wk.heap.size Wk).alloc (Nat.le_refl _) _).grown hgA (by simp) (fun k hk => ((own_empty Wk).lt k hk).1)); have hzA := HBA.out.size; clear hownA hgA) | (at_builtin; refine wpList_append_own_at _ rfl (.tmp 51) (.tmp 52) 22 rfl Wk.heap.size 5 iU (.int .u8 0) 1 1 Tryd.underlying22 hiU hzU hsU hbU rfl (by decide) _ _ _ rfl (HOA.out.alloc _) ⟨WA.heap.size, 0, none⟩ 1 1 [.int .u8 128] rfl rfl (World.news_of_block (heap_alloc_new WA _)) (by simp [Value.oneCell']) (by unfold maxLen; omega) (by omega) (by simp; omega) ?_; intro vB WB hownB hgB _ _; have HOB := Lib.hid hownB; have HBB := Lib.hid ((HBA.out.alloc hzA _).grown hgB (by simp; omega) (fun k hk => (HOA.out.lt k hk).1)); clear hownB hgB))
      obtain ⟨Bm, hBm⟩ : ∃ B, B = Wk.heap.size := ⟨_, rfl⟩
      rw [← hBm] at HOB HBB hz4
      clear HOA HBA hzA
      obtain ⟨n, hn⟩ : ∃ n, n = bs.length := ⟨_, rfl⟩
      have hown0 : WB.ownsRow Bm 5 1 vB (n + 1 + 0) (u8s (bs ++ 128 :: List.replicate 0 0)) := by
        have := HOB.out
        rw [hn]; simpa [u8s] using this
      have HOB2 := Lib.hid hown0
      have hBmz : Bm ≤ Wk.heap.size := by omega
      have HBW : Hid (Bm = Wk.heap.size) := Lib.hid hBm
      have HN := Lib.hid hn
      rw [← hn] at hbig
      have hzB := HBB.out.size
      clear hown0 HOB hn hBm hBmz
      go_loopw [8] (fun v wr => ∃ z : Nat, z ≤ padZ n ∧ wr.ownsRow Bm 5 1 v (n + 1 + z) (u8s (bs ++ 128 :: List.replicate z 0)) ∧ Below Bm Wk wr) (fun v _ => 10000000 - lenV2 v)
      case atStart => exact ⟨0, by omega, HOB2.out, HBB.out⟩
      case round =>
        obtain ⟨z, hz, hown, hbw⟩ := hrel
        obtain ⟨a8, c8, rfl⟩ := own_slice hown
        have HO := Lib.hid hown
        have HBW2 := Lib.hid hbw
        have hzw := hbw.size
        have hpz : padZ n < 64 := Nat.mod_lt _ (by decide)
        have hBw : Bm ≤ wr.heap.size := by have := HBW.out; omega
        clear hown hbw
        have hr1 : ((n + 1 + z : Nat) : Int).tmod 64 = (((n + 1 + z) % 64 : Nat) : Int) := by rw [Int.tmod_eq_emod_of_nonneg (by omega)]; omega
        have hr2 : ((n + 1 + z : Nat) : Int) % 64 = (((n + 1 + z) % 64 : Nat) : Int) := by omega
        obtain ⟨L, hL⟩ : ∃ L, L = n + 1 + z := ⟨_, rfl⟩
        rw [← hL] at hr1 hr2 HO ⊢
        have HLb : Hid (L ≤ 100000 + 65) := Lib.hid (by omega)
        have HLL := Lib.hid hL
        by_cases hlt : z < padZ n
        · have hne : L % 64 ≠ 56 := by rw [hL]; unfold padZ at hlt; omega
          have t1 : (((L % 64 : Nat) : Int) != 56) = true := by simp; omega
          go_wp2_with (at_builtin; refine wpList_append_own_at _ rfl (.tmp 58) (.tmp 59) 22 rfl Bm 5 iU (.int .u8 0) 1 1 Tryd.underlying22 hiU hzU hsU hbU rfl (by decide) _ _ _ rfl (HO.out.alloc _) ⟨wr.heap.size, 0, none⟩ 1 1 [.int .u8 0] rfl rfl (World.news_of_block (heap_alloc_new wr _)) (by simp [Value.oneCell']) (by unfold maxLen; omega) (by omega) (by simp; omega) ?_; intro v5 W5 hown5 hgrow5 _ _; obtain ⟨a9, c9, rfl⟩ := own_slice hown5; have HO5 := Lib.hid hown5; have HB5 := Lib.hid ((HBW2.out.alloc hBw _).grown hgrow5 (by simp; omega) (fun k hk => (HO.out.lt k hk).1)); clear hown5 hgrow5)
          go_roundw
          case rel => exact ⟨z + 1, by omega, by have h5 := HO5.out; rw [HLL.out] at h5; rw [List.replicate_succ', show n + 1 + (z + 1) = n + 1 + z + 1 by omega]; simpa [u8s] using h5, HB5.out⟩
          case measure => simp [lenV2]; omega
        · obtain rfl : z = padZ n := by omega
          have hne : L % 64 = 56 := by rw [hL]; unfold padZ; omega
          have t1 : (((L % 64 : Nat) : Int) != 56) = false := by simp; omega
          have e1 : IntKind.u64.wrap (n : Int) = n := by rw [IntKind.wrap_u64]; omega
          obtain ⟨N, hN⟩ : ∃ N, N = 8 * n := ⟨_, rfl⟩
          have e2 : IntKind.u64.wrap ((n : Int) * 8) = (N : Int) := by rw [IntKind.wrap_u64]; omega
          have HNN := Lib.hid hN
          obtain ⟨Wm, hWm⟩ : ∃ W, W = wr := ⟨_, rfl⟩
          subst hWm
          rw [← HN.out]
          clear hL hN hlt
          go_wp2
          go_loopw [8, 10] (fun v c wr => ∃ j : Nat, j ≤ 8 ∧ c = .int .i64 (7 - (j : Int)) ∧ wr.ownsRow Bm 5 1 v (L + j) (u8s (bs ++ 128 :: (List.replicate (padZ n) 0 ++ (len8 N).take j))) ∧ Below Bm Wk wr) (fun _ c _ => (intOf c + 1).toNat)
          case atStart => exact ⟨0, by omega, rfl, by simpa using HO.out, HBW2.out⟩
          case round =>
            clear HO HBW2 hzw hBw
            obtain ⟨j, hj, rfl, hown, hbw⟩ := hrel
            obtain ⟨a8, c8, rfl⟩ := own_slice hown
            have HO := Lib.hid hown
            have HBW2 := Lib.hid hbw
            have hzw := hbw.size
            have hBw : Bm ≤ wr.heap.size := by have := HBW.out; omega
            by_cases hlt : j < 8
            · obtain ⟨b, hb⟩ : ∃ b, b = 7 - j := ⟨_, rfl⟩
              have hbi : (7 - (j : Int)) = (b : Int) := by omega
              have hx := len8_at N hlt
              rw [← hb] at hx
              obtain ⟨y, hy⟩ : ∃ y, y = N / 2 ^ (8 * b) % 256 := ⟨_, rfl⟩
              rw [← hy] at hx
              obtain ⟨b8, hb8⟩ : ∃ b8, b8 = 8 * b := ⟨_, rfl⟩
              rw [← hb8] at hy
              have t1 : decide ((0 : Int) ≤ (b : Int)) = true := by simp
              have e3 : IntKind.i64.wrap (8 * (b : Int)) = (b8 : Int) := by rw [IntKind.wrap_i64]; omega
              have e4 : IntKind.u64.wrap (b8 : Int) = (b8 : Int) := by rw [IntKind.wrap_u64]; omega
              have e5 : IntKind.u8.wrap ((N : Int) / 2 ^ b8) = (y : Int) := by
                rw [show ((N : Int) / 2 ^ b8) = ((N / 2 ^ b8 : Nat) : Int) by simp, IntKind.wrap_u8, hy]; omega
              have e6 : IntKind.i64.wrap ((b : Int) - 1) = (b : Int) - 1 := by rw [IntKind.wrap_i64]; omega
              have hb864 : b8 < 64 := by omega
              have HX := Lib.hid hx
              have HBJ := Lib.hid hb
              rw [hbi]
              clear hown hbw hx hy hb hb8 hbi
              go_wp2_with (at_builtin; refine wpList_append_own_at _ rfl (.tmp 69) (.tmp 76) 22 rfl Bm 5 iU (.int .u8 0) 1 1 Tryd.underlying22 hiU hzU hsU hbU rfl (by decide) _ _ _ rfl (HO.out.alloc _) ⟨wr.heap.size, 0, none⟩ 1 1 [.int .u8 (y : Int)] rfl rfl (World.news_of_block (heap_alloc_new wr _)) (by simp [Value.oneCell']) (by have := HLb.out; unfold maxLen; omega) (by have := HLb.out; omega) (by simp; omega) ?_; intro v5 W5 hown5 hgrow5 _ _; have HO5 := Lib.hid hown5; have HB5 := Lib.hid ((HBW2.out.alloc hBw _).grown hgrow5 (by simp; omega) (fun k hk => (HO.out.lt k hk).1)); clear hown5 hgrow5)
              go_roundw
              case rel => exact ⟨j + 1, by omega, by have := HBJ.out; rw [show (7 : Int) - ((j + 1 : Nat) : Int) = (b : Int) - 1 by omega], by rw [List.take_add_one, HX.out, ← Nat.add_assoc]; have := HO5.out; simpa [u8s] using this, HB5.out⟩
              case measure => simp [intOf]
            · obtain rfl : j = 8 := by omega
              have t1 : decide ((0 : Int) ≤ 7 - ((8 : Nat) : Int)) = false := by simp
              have hpad : bs ++ 128 :: (List.replicate (padZ n) 0 ++ (len8 N).take 8) = padded bs := by
                rw [List.take_of_length_le (by rw [len8_length]; exact Nat.le_refl _), padded, fillB, HN.out, HNN.out, HN.out]
              rw [hpad] at HO
              obtain ⟨nb, hnb⟩ : ∃ nb, nb = (padded bs).length / 64 := ⟨_, rfl⟩
              have hpl := padded_blocks bs
              rw [← hnb] at hpl
              have hlen : L + 8 = (padded bs).length := by have := HO.out.1; simpa [u8s] using this.symm
              obtain ⟨gm, cm, hv8, hgm, hgml⟩ := hown.form (by omega)
              have hnc : L + 8 ≤ c8 := by
                rcases hown.2 with ⟨h, _⟩ | ⟨g, cap, cur, h, _, _, h3, _⟩
                · rw [h] at hv8; cases hv8
                · injection h with h1 h2 h4; omega
              injection hv8 with hv1 _ hv3
              subst hv1
              subst hv3
              have hbyt : BytesAt wr gm 0 (padded bs) := by
                intro k hk
                rw [Nat.zero_add, HO.out.cellAt k (by omega)]
                exact u8s_getD _ _ hk
              have HBY := Lib.hid hbyt
              have HPL := Lib.hid hpl
              have HNB := Lib.hid hnb
              have hnbl : nb ≤ 2000 := by have := HLb.out; omega
              rw [hlen, hpl]
              have hnc' : 64 * nb ≤ c8 := by omega
              obtain ⟨Wn, hWn⟩ : ∃ W, W = wr := ⟨_, rfl⟩
              subst hWn
              have hbn : Below Wk.heap.size Wk Wn := by rw [← HBW.out]; exact hbw
              have H4n := Lib.hid ((hbn.block _ H4.out.lt).trans H4.out)
              have H5n := Lib.hid ((hbn.block _ H5.out.lt).trans H5.out)
              have HRn := Lib.hid ((hbn.block _ HR.out.lt).trans HR.out)
              have HBn : Hid (Below w.heap.size w Wn) := Lib.hid (HB4.out.trans (hbn.mono (by have := HB4.out.size; omega)))
              have hP4g : P4 < gm := by have := H4.out.lt; have := HBW.out; omega
              have hP5n : P5 < Wn.heap.size := by have := H5.out.lt; omega
              have hRn : w.heap.size < Wn.heap.size := by omega
              have HPB := Lib.hid (padded_lt HB.out)
              clear HO HBW2 hown hbw hbyt hpl hnb hlen hnc hbn hpad
              repeat (first | go_values | go_skip | go_guarded | go_step | go_upon)
              refine loop4A (pb := padded bs) (nb := nb) HPL.out HPB.out HBY.out (by omega) (by omega) hnc' H4n.out H5n.out _ _ _ _ _ _ _ _ _ _ _ _ _ _ _ _ _ _ _ _ _ _ _ _ _ _ _ _ _ _ _ _ _ _ _ _ _ _ _ _ _ _ _ _ _ _ _ _ _ _ _ _ _ _ _ _ _ _ _ _ _ _ _ _ _ _ _ _ _ _ _ _ _ _ _ _ _ _ _ _ _ _ _ _ _ _ _ _ _ _ _ _ _ _ _ _ _ _ _ _ _ _ _ _ _ _ _ _ _ _ _ _ _ _ _ _ _ _ _ _ _ _ _ _ _ _ _ _ _ _ _ _ _ _ _ _ _ _ _ _ _ _ _ _ _ _ _ _ _ _ _ _ _ _ _ _ _ _ _ _ _ _ _ _ _ _ _ _ _ _ _ _ _ _ _ _ _ _ _ _ _ _ _ _ _ _ _ _ _ _ _ _ _ _ _ _ _ _ _ _ _ _ _ _ _ _ _ _ _ _ _ _ _ _ _ _ _ _ _ _ _ _ _ _ _ _ _ _ _ _ _ _ _ _ _ _ _ _ _ _ _ _ _ _ _ _ _ _ _ _ _ _ _ _ _ _ _ _ _ _ _ _ _ _ _ _ _ _ _ _ _ _ _ _ _ _ _ _ _ _ _ _ _ _ _ _ _ _ _ _ ?_
              intro _ _ _ _ _ _ _ _ _ _ _ _ _ _ _ _ _ _ _ _ _ _ _ _ _ _ _ _ _ _ _ _ _ _ _ _ _ _ _ _ _ _ _ _ _ _ _ _ _ _ _ _ _ _ _ _ _ _ _ _ _ _ _ _ _ _ _ _ _ _ _ _ _ _ _ _ _ _ _ _ _ _ _ _ _ _ _ _ _ _ _ _ _ _ _ _ _ _ _ _ _ _ _ _ _ _ _ _ _ _ _ _ _ _ _ _ _ _ _ _ _ _ _ _ _ _ _ _ _ _ _ _ _ _ _ _ _ _ _ _ _ _ _ _ _ _ _ _ _ _ _ _ _ _ _ _ _ _ _ _ _ _ _ _ _ _ _ _ _ _ _ _ _ _ _ _ _ _ _ _ _ _ _ _ _ _ _ _ _ _ _ _ _ _ _ _ _ _ _ _ _ _ _ _ _ _ _ _ _ _ _ _ _ _ _ Wp ⟨h4p, hop⟩
              have H4p := Lib.hid h4p
              have hRp : Arr Wp w.heap.size 24 (u8s (List.replicate 32 0)) := Arr.only HRn.out hop (by omega)
              have HRp := Lib.hid hRp
              have HBp : Hid (Below w.heap.size w Wp) := Lib.hid (HBn.out.trans (hop.below (by omega) (fun k hk => by have hk : k = P4 := hk; omega)))
              have hzp : P4 < Wp.heap.size := H4p.out.lt
              clear h4p hop hRp
              simp only [Exit.inBlock, Exit.then]
              repeat (first | go_values | go_skip | go_guarded | go_step | go_upon)
              obtain ⟨Wo, hWo⟩ : ∃ W, W = Wp.alloc (.cells #[.int .u8 0, .int .u8 0, .int .u8 0, .int .u8 0, .int .u8 0, .int .u8 0, .int .u8 0, .int .u8 0, .int .u8 0, .int .u8 0, .int .u8 0, .int .u8 0, .int .u8 0, .int .u8 0, .int .u8 0, .int .u8 0, .int .u8 0, .int .u8 0, .int .u8 0, .int .u8 0, .int .u8 0, .int .u8 0, .int .u8 0, .int .u8 0, .int .u8 0, .int .u8 0, .int .u8 0, .int .u8 0, .int .u8 0, .int .u8 0, .int .u8 0, .int .u8 0] 24) := ⟨_, rfl⟩
              have hO0 : Arr Wo Wp.heap.size 24 (u8s (List.replicate 32 0)) := by rw [hWo]; exact heap_alloc_new Wp _
              have hbo : Below Wp.heap.size Wp Wo := by rw [hWo]; exact (Below.refl _ _).alloc (Nat.le_refl _) _
              rw [← hWo]
              have h4o : Arr Wo P4 50 (u32s (foldB nb startH (padded bs)).words) := (hbo.block _ hzp).trans H4p.out
              have HRo := Lib.hid ((hbo.block _ HRp.out.lt).trans HRp.out)
              have HBo : Hid (Below w.heap.size w Wo) := Lib.hid (HBp.out.trans (hbo.mono (by have := HBp.out.size; omega)))
              have hRz := HRp.out.lt
              clear hWo hbo
              refine loop8A (s0 := foldB nb startH (padded bs)) (P4 := P4) (PO := Wp.heap.size) (by omega) h4o hO0 _ _ _ _ _ _ _ _ _ _ _ _ _ _ _ _ _ _ _ _ _ _ _ _ _ _ _ _ _ _ _ _ _ _ _ _ _ _ _ _ _ _ _ _ _ _ _ _ _ _ _ _ _ _ _ _ _ _ _ _ _ _ _ _ _ _ _ _ _ _ _ _ _ _ _ _ _ _ _ _ _ _ _ _ _ _ _ _ _ _ _ _ _ _ _ _ _ _ _ _ _ _ _ _ _ _ _ _ _ _ _ _ _ _ _ _ _ _ _ _ _ _ _ _ _ _ _ _ _ _ _ _ _ _ _ _ _ _ _ _ _ _ _ _ _ _ _ _ _ _ _ _ _ _ _ _ _ _ _ _ _ _ _ _ _ _ _ _ _ _ _ _ _ _ _ _ _ _ _ _ _ _ _ _ _ _ _ _ _ _ _ _ _ _ _ _ _ _ _ _ _ _ _ _ _ _ _ _ _ _ _ _ _ _ _ _ _ _ _ _ _ _ _ _ _ _ _ _ _ _ _ _ _ _ _ _ _ _ _ _ _ _ _ _ _ _ _ _ _ _ _ _ _ _ _ _ _ _ _ _ _ _ _ _ _ _ _ _ _ _ _ _ _ _ _ _ _ _ _ _ _ _ _ _ _ _ _ _ _ _ ?_
              intro _ _ _ _ _ _ _ _ _ _ _ _ _ _ _ _ _ Wx ⟨hOx, hox⟩
              have HOx := Lib.hid hOx
              have HRx := Lib.hid (show Arr Wx w.heap.size 24 (u8s (List.replicate 32 0)) from Arr.only HRo.out hox (by omega))
              have HBx : Hid (Below w.heap.size w Wx) := Lib.hid (HBo.out.trans (hox.below (by have := HBo.out.size; omega) (fun k hk => by have hk : k = Wp.heap.size := hk; omega)))
              have HDG : Hid (digest bs = tellB (foldB nb startH (padded bs))) := Lib.hid (by rw [digest, ← HNB.out])
              clear hOx hox h4o hO0
              obtain ⟨T, hTe⟩ : ∃ T, T = tellB (foldB nb startH (padded bs)) := ⟨_, rfl⟩
              rw [← hTe] at HOx HDG
              have hTl : T.length = 32 := by rw [hTe]; simp [tellB]
              have hT : ∀ k, k < 32 → (u8s T)[k]? = some (.int .u8 ((T.getD k 0 : Nat) : Int)) := fun k hk => u8s_getD T k (by omega)
              have HTL := Lib.hid hTl
              have hi32 : (Tryd.prog.info? 24).map (·.size) = some (u8s T).toArray.size := by
                rw [show (u8s T).toArray.size = 32 by simp [u8s_length, hTl]]; kernel_rfl
              have hall : (u8s T).toArray.all (·.oneCell') = true := by
                rw [Array.all_eq_true_iff_forall_mem]; intro u hu; exact u8s_one T u (by simpa using hu)
              have hsz : (u8s (List.replicate 32 0)).toArray.size = (u8s T).toArray.size := by simp [u8s_length, hTl]
              have HI := Lib.hid hi32
              have HALL := Lib.hid hall
              have HSZ := Lib.hid hsz
              clear hT hTl hTe hi32 hall hsz
              simp only [Exit.inBlock, Exit.then, if_true]
              repeat (first | (refine wpList_load_row rfl 24 (.tmp 28) rfl Wp.heap.size rfl 24 (u8s T).toArray (0, 0) _ HOx.out Tryd.underlying24 rfl HI.out ?_) | (refine wpList_store_row rfl 24 (.tmp 2) (.tmp 292) rfl w.heap.size (u8s T).toArray rfl rfl 24 (u8s (List.replicate 32 0)).toArray HRx.out HI.out HSZ.out HALL.out ?_) | go_values | go_skip | go_guarded | go_step | go_upon)
              (try simp only [Exit.inBlock, Exit.then])
              refine bodyPost_ret (results_cell_row rfl _ _ w.heap.size 24 (u8s T).toArray (0, 0) _ rfl (setRow_heap Wx w.heap.size _ (u8s T).toArray _ _ HRx.out) Tryd.underlying24 rfl HI.out) rfl ?_
              exact ⟨by rw [HDG.out], below_setRow HBx.out (Nat.le_refl _) _⟩
end Go.Proofs.YtfbnnhailnbmiaaDoor
