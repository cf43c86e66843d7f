/- SeriesFull, walked. -/
import Derived.Test.YtpgbeebpeldjdaaSePlain
import Derived.Test.YtpgbeebpeldjdaaSeAll
import Derived.Test.YtpgbeebpeldjdaaSeEnds
import Derived.Test.YtpgbeebpeldjdaaSeCut
import Derived.Test.YtpgbeebpeldjdaaPtApp
import Derived.Test.YtpgbeebpeldjdaaFullEnd
namespace Go.Proofs.Ytpgbeebpeldjdaa
open Go.RowKit Go.Shelf

attribute [local go_sem] Oper.semAt_some

/-- the points of a full series -/
def fullP (v : Int) (k : Nat) : List Pt := (List.range k).map fun (i : Nat) => ⟨3 * (i : Int), v⟩
theorem full_len (v : Int) (k : Nat) : (fullP v k).length = k := by simp [fullP]
theorem full_next (v : Int) (k : Nat) : fullP v (k + 1) = fullP v k ++ [⟨3 * (k : Int), v⟩] := by simp [fullP, List.range_succ]
theorem full_get {v : Int} {k i : Nat} {p : Pt} (h : (fullP v k)[i]? = some p) : i < k ∧ p = ⟨3 * (i : Int), v⟩ := by
  unfold fullP at h
  rw [List.getElem?_map] at h
  have hi : i < k := by
    rcases Nat.lt_or_ge i k with h1 | h1
    · exact h1
    · rw [List.getElem?_eq_none (by simpa using h1)] at h; cases h
  rw [List.getElem?_range hi] at h
  exact ⟨hi, (Option.some.inj h).symm⟩
theorem full_srt (v : Int) (k : Nat) : Srt (fullP v k) := by
  refine List.pairwise_iff_getElem.2 fun i j hi hj hij => ?_
  have h1 := (full_get (List.getElem?_eq_getElem hi)).2
  have h2 := (full_get (List.getElem?_eq_getElem hj)).2
  rw [h1, h2]; simp only; omega
theorem full_good {v : Int} (h0 : -9223372036854775808 ≤ v) (h1 : v ≤ 9223372036854775807) : GoodS (fullP v 256) := by
  have each : ∀ p ∈ fullP v 256, ∃ i : Nat, i < 256 ∧ p = ⟨3 * (i : Int), v⟩ := fun p hp => by
    obtain ⟨i, hi⟩ := List.mem_iff_getElem?.1 hp
    exact ⟨i, full_get hi⟩
  refine ⟨full_srt v 256, fun p hp => ?_, fun p hp => ?_, by rw [full_len]; exact Nat.le_refl _⟩
  · obtain ⟨i, hi, rfl⟩ := each p hp
    simp only; omega
  · obtain ⟨i, hi, rfl⟩ := each p hp
    refine ⟨?_, ?_, h0, h1⟩ <;> simp only <;> omega
theorem full_put {v : Int} (h0 : -9223372036854775808 ≤ v) (h1 : v ≤ 9223372036854775807) : putE [] (fullP v 256) = (256, 0, fullP v 256) := by
  unfold putE
  rw [putL_own (full_srt v 256), if_neg (by rw [good_out (full_good h0 h1)]; simp), full_len, if_neg (by omega)]
  rfl
theorem full_more (v : Int) : putE (fullP v 256) [⟨1, 0⟩] = (0, 6, fullP v 256) := by
  unfold putE
  have hno : hasP (fullP v 256) 1 = false := by
    unfold hasP
    rw [atP_none fun p hp => by
      obtain ⟨i, hi⟩ := List.mem_iff_getElem?.1 hp
      rw [(full_get hi).2]; simp only; omega]
    rfl
  have hl : (putL (fullP v 256) [⟨1, 0⟩]).length = 257 := by
    show (putP (fullP v 256) ⟨1, 0⟩).length = 257
    rw [putP_len _ _ (full_srt v 256), full_len]
    unfold hasP at hno
    rw [if_neg (by rw [hno]; simp)]
  rw [hl, if_neg (by decide), if_pos (by decide)]
theorem full_again {v : Int} (h0 : -9223372036854775808 ≤ v) (h1 : v ≤ 9223372036854775807) (m : Nat) : putE (fullP v 256) ((fullP v 256).take m) = (0, 0, fullP v 256) := by
  unfold putE
  have hg := full_good h0 h1
  rw [putL_sub hg.srt (srt_take hg.srt m) (fun p hp => List.mem_of_mem_take hp), if_neg (by
    have h2 : ((fullP v 256).take m).any outP = false := List.any_eq_false.2 fun p hp => List.any_eq_false.1 (good_out hg) p (List.mem_of_mem_take hp)
    rw [h2]; simp), full_len, if_neg (by omega), Int.sub_self]
theorem plies_take {w : World} {a : Option Addr} {n c : Nat} {l : List Pt} (h : PLies w (.slice a n c) l) {m : Nat} (hm : m ≤ l.length) : PLies w (.slice a m c) (l.take m) := by
  obtain ⟨a', b, off, cap, e, hadr, hpts⟩ := h
  injection e with e1 e2 e3
  refine ⟨a', b, off, c, by rw [List.length_take, Nat.min_eq_left hm, e1], fun h => hadr (fun e => h (by rw [e]; simp)), fun i t ht => ?_⟩
  rw [List.getElem?_take] at ht
  split at ht
  · exact hpts i t ht
  · cases ht
theorem one_src (w : World) (a v : Int) : SrcP (w.alloc (.cells #[.int .i64 a, .int .i64 v] 26)) (.slice (some ⟨w.heap.size, 0, none⟩) 1 1) [⟨a, v⟩] :=
  .inr ⟨_, 1, rfl, fun j u hu => by
    rw [add_at, Nat.zero_add]
    exact Arr.cell (l := [.int .i64 a, .int .i64 v]) (heap_alloc_new w _) hu⟩
theorem held_on {W W' : World} {R D : Nat} (h : W.cell? ⟨R, 0, none⟩ = some (.int .i64 0) ∧ W.cell? ⟨R, 1, none⟩ = some (.int .i64 1099511627776) ∧ W.cell? ⟨D, 0, none⟩ = some (.bool false) ∧ W.frozen? ⟨D, 0, none⟩ = false) (hb : Below W.heap.size W W') :
    W'.cell? ⟨R, 0, none⟩ = some (.int .i64 0) ∧ W'.cell? ⟨R, 1, none⟩ = some (.int .i64 1099511627776) ∧ W'.cell? ⟨D, 0, none⟩ = some (.bool false) ∧ W'.frozen? ⟨D, 0, none⟩ = false :=
  ⟨(hb.cell (p := ⟨R, 0, none⟩) (cell_lt h.1)).trans h.1, (hb.cell (p := ⟨R, 1, none⟩) (cell_lt h.2.1)).trans h.2.1, (hb.cell (p := ⟨D, 0, none⟩) (cell_lt h.2.2.1)).trans h.2.2.1, (World.frozen?_of_block (hb.block D (cell_lt h.2.2.1))).trans h.2.2.2⟩
theorem held_two {W : World} {R D : Nat} (h : W.cell? ⟨R, 0, none⟩ = some (.int .i64 0) ∧ W.cell? ⟨R, 1, none⟩ = some (.int .i64 1099511627776) ∧ W.cell? ⟨D, 0, none⟩ = some (.bool false) ∧ W.frozen? ⟨D, 0, none⟩ = false) :
    W.cell? ⟨R, 0, none⟩ = some (.int .i64 0) ∧ W.cell? ⟨R, 1, none⟩ = some (.int .i64 1099511627776) := ⟨h.1, h.2.1⟩
theorem held_set {W : World} {R D : Nat} {u : Value} (h : W.cell? ⟨R, 0, none⟩ = some (.int .i64 0) ∧ W.cell? ⟨R, 1, none⟩ = some (.int .i64 1099511627776) ∧ W.cell? ⟨D, 0, none⟩ = some (.bool false) ∧ W.frozen? ⟨D, 0, none⟩ = false) (hne : R ≠ D) :
    (W.setCell ⟨D, 0, none⟩ u).cell? ⟨R, 0, none⟩ = some (.int .i64 0) ∧ (W.setCell ⟨D, 0, none⟩ u).cell? ⟨R, 1, none⟩ = some (.int .i64 1099511627776) := by
  have ho : Only (fun k => k = D) W (W.setCell ⟨D, 0, none⟩ u) := Only.setCell (S := fun k => k = D) W rfl u
  have hb := ho.block R (cell_lt h.1) hne
  exact ⟨(World.cell?_of_block (a := ⟨R, 0, none⟩) hb).trans h.1, (World.cell?_of_block (a := ⟨R, 1, none⟩) hb).trans h.2.1⟩
set_option maxRecDepth 1000000 in
set_option maxHeartbeats 16000000 in
theorem seriesFull_walk {n : Int} (hn1 : 0 ≤ n) (hn2 : n ≤ 65535) {v : Int} (hv1 : -9223372036854775808 ≤ v) (hv2 : v ≤ 9223372036854775807) (w : World) :
    Calls Try.prog 3 #[.int .u16 n, .int .i64 v] w fun e w' => e = .returned (.bool true) ∧ Below w.heap.size w w' := by
  refine (callsIn_wide (n := 4)).1 ?_
  refine callsIn_of_wp_marks Try.func3 rfl trivial ?_ rfl
  simp only [Try.ntmps3, List.size_toArray, List.length_cons, List.length_nil, Nat.reduceAdd, Nat.reduceSub, Array.replicate_succ, Array.replicate_zero, List.push_toArray, List.append_toArray, List.nil_append, List.cons_append]
  refine wpIn_wide.2 ?_
  go_wp2_with fail
  refine calls_name ?_
  intro W0 hW0
  obtain ⟨D, hD⟩ : ∃ D, D = w.heap.size := ⟨_, rfl⟩
  have hb0 : Below w.heap.size w W0 := by rw [hW0.out]; exact (Below.refl _ _).alloc (Nat.le_refl _) _
  have HD0 : Hid (W0.heap[D]? = some (.cells #[.bool false] 4 (0, 0))) := Lib.hid (by rw [hW0.out, hD]; exact heap_alloc_new w _)
  have HB0 := Lib.hid hb0
  have HQ := Lib.hid hD
  rw [← hD]
  clear hW0 hb0 hD
  refine (selives_any W0).mono ?_
  rintro e W1 ⟨rfl, hb1⟩
  have HB1 : Hid (Below W0.heap.size W0 W1) := Lib.hid hb1
  clear hb1
  dsimp only
  go_wp2_with fail
  go_loopw [5, 24] (fun u z wr => ∃ k : Nat, k ≤ 256 ∧ z = .int .i64 k ∧ PtRowB W0.heap.size wr u (fullP v k) ∧ Below W0.heap.size W0 wr) (fun _ z _ => 256 - (intOf z).toNat)
  case atStart => exact ⟨0, Nat.zero_le _, rfl, PtRowB.nil _ _, HB1.out⟩
  case round =>
    obtain ⟨k, hk, rfl, hrow, hb⟩ := hrel
    obtain ⟨W3, hW3⟩ : ∃ W3, W3 = wr := ⟨_, rfl⟩
    subst hW3
    have HR3 := Lib.hid hrow
    have HB3 := Lib.hid hb
    clear hrow hb
    by_cases hlt : k < 256
    · have hw : IntKind.i64.wrap (3 * (k : Int)) = 3 * (k : Int) := by rw [IntKind.wrap_i64]; omega
      have HA3 := Lib.hid (HR3.out.keep ((Below.refl _ W3).alloc (Nat.le_refl _) (.cells #[.int .i64 (3 * (k : Int)), .int .i64 v] 26)))
      have HX3 := Lib.hid (one_src W3 (3 * (k : Int)) v)
      have HZ3 : Hid (W0.heap.size ≤ (W3.alloc (.cells #[.int .i64 (3 * (k : Int)), .int .i64 v] 26)).heap.size) := Lib.hid (by have := HB3.out.size; simp; omega)
      have HB3' : Hid (Below W0.heap.size W0 (W3.alloc (.cells #[.int .i64 (3 * (k : Int)), .int .i64 v] 26))) := Lib.hid (HB3.out.alloc HB3.out.size _)
      repeat (first | ((with_reducible refine wpList_dst (some 33) rfl ?_); refine wpList_append_pts rfl (.tmp 27) (.tmp 32) rfl W0.heap.size u5 (fullP v k) rfl HA3.out (.slice (some ⟨W3.heap.size, 0, none⟩) 1 1) [⟨3 * (k : Int), v⟩] rfl HX3.out (by rw [full_len]; simp; omega) HZ3.out ?_; intro v4 W4 HR4 HG4) | go_values | go_skip | go_guarded | go_step)
      go_roundw
      case rel => exact ⟨k + 1, by omega, by go_num, by rw [full_next]; exact HR4.out, HB3'.out.grown HG4.out HZ3.out (fun b hb => (HA3.out.lt b hb).1)⟩
      case measure => simp [intOf]; omega
    · obtain rfl : k = 256 := by omega
      have HGD := Lib.hid (full_good hv1 hv2)
      have HPU := Lib.hid (full_put hv1 hv2)
      have HPM := Lib.hid (full_more v)
      have HPA := Lib.hid (full_again hv1 hv2)
      have HLN := Lib.hid (full_len v 256)
      obtain ⟨F, hF⟩ : ∃ F, F = fullP v 256 := ⟨_, rfl⟩
      rw [← hF] at HR3 HGD HPU HPM HPA HLN
      obtain ⟨a3, c3, e3, hc3⟩ : ∃ a c, u5 = .slice a F.length c ∧ F.length ≤ c := by
        rcases HR3.out.opened with ⟨rfl, rfl⟩ | ⟨g, cap, R, rfl, _, _, _, hnc, _⟩
        · exact ⟨none, 0, rfl, Nat.le_refl _⟩
        · exact ⟨_, _, rfl, hnc⟩
      rw [HLN.out] at e3 hc3
      subst e3
      clear hF
      go_wp2_with fail
      refine (senew_any W3).mono ?_
      rintro e W4 ⟨rfl, hs, hb4⟩
      obtain ⟨s, hsz⟩ : ∃ s, s = W3.heap.size := ⟨_, rfl⟩
      have HS4 : Hid (SerV W4 s (.slice none 0 0) []) := Lib.hid (by rw [hsz]; exact hs)
      have HB4 := Lib.hid (HB3.out.trans (hb4.mono HB3.out.size))
      have HR4 := Lib.hid (HR3.out.keep hb4)
      have HSW : Hid (W0.heap.size ≤ s) := Lib.hid (by rw [hsz]; exact HB3.out.size)
      have HNE : Hid (∀ k, (Value.slice a3 256 c3).ownBlock = some k → k ≠ s) := Lib.hid fun k hk e => by have := (HR3.out.lt _ hk).2; omega
      rw [← hsz]
      clear hs hb4 hsz HR3 HB3
      dsimp only
      go_wp2_with fail
      have hput := seput_any HS4.out HR4.out.plies HGD.out.fits (by rw [HLN.out]; unfold maxLen; omega)
      rw [HPU.out] at hput
      refine hput.mono ?_
      clear hput
      rintro e W5 ⟨rfl, ⟨v5, hs5, -⟩, ho5⟩
      have HS5 : Hid (SerV W5 s v5 F) := Lib.hid hs5
      have HR5 : Hid (PtRowB W0.heap.size W5 (.slice a3 256 c3) F) := Lib.hid (row_only HR4.out ho5 HNE.out)
      have HB5 : Hid (Below W0.heap.size W0 W5) := Lib.hid (HB4.out.trans (ho5.below HB4.out.size (fun k hk => by rw [hk]; exact HSW.out)))
      clear hs5 ho5 HS4 HR4 HB4
      dsimp only
      go_wp2_with fail
      refine calls_name ?_
      intro W6 hW6
      have hb6 : Below W5.heap.size W5 W6 := by rw [hW6.out]; exact (Below.refl _ _).alloc (Nat.le_refl _) _
      have HX6 : Hid (PLies W6 (.slice (some ⟨W5.heap.size, 0, none⟩) 1 1) [⟨1, 0⟩]) := Lib.hid (by rw [hW6.out]; exact built_lies W5 [⟨1, 0⟩])
      have HS6 := Lib.hid (HS5.out.keep hb6)
      have HR6 := Lib.hid (HR5.out.keep hb6)
      have HB6 := Lib.hid (HB5.out.trans (hb6.mono HB5.out.size))
      clear hW6 hb6 HS5 HR5 HB5
      have hput := seput_any HS6.out HX6.out (by intro p hp; simp at hp; subst hp; simp [Pt.fits]) (by simp [maxLen])
      rw [HPM.out] at hput
      refine hput.mono ?_
      clear hput
      rintro e W7 ⟨rfl, ⟨v7, hs7, -⟩, ho7⟩
      have HS7 : Hid (SerV W7 s v7 F) := Lib.hid hs7
      have HR7 : Hid (PtRowB W0.heap.size W7 (.slice a3 256 c3) F) := Lib.hid (row_only HR6.out ho7 HNE.out)
      have HB7 : Hid (Below W0.heap.size W0 W7) := Lib.hid (HB6.out.trans (ho7.below HB6.out.size (fun k hk => by rw [hk]; exact HSW.out)))
      clear hs7 ho7 HS6 HR6 HB6 HX6
      dsimp only
      obtain ⟨m, hm⟩ : ∃ m : Nat, n % 257 = (m : Int) := ⟨(n % 257).toNat, by omega⟩
      have hm256 : m ≤ 256 := by omega
      have hm0 : (0 : Int) ≤ n % 257 := by omega
      have hm1 : n % 257 ≤ (c3 : Int) := by omega
      have hm2 : (n % 257).toNat = m := by omega
      have HX7 := Lib.hid (plies_take HR7.out.plies (m := m) (by rw [HLN.out]; exact hm256))
      have HLM : Hid ((F.take m).length ≤ maxLen) := Lib.hid (by rw [List.length_take]; unfold maxLen; omega)
      have HFM : Hid (∀ p ∈ F.take m, p.fits) := Lib.hid fun p hp => HGD.out.fits p (List.mem_of_mem_take hp)
      clear hm
      go_wp2_with fail
      have hput := seput_any HS7.out HX7.out HFM.out HLM.out
      rw [HPA.out] at hput
      try rw [hm2]
      refine hput.mono ?_
      clear hput
      rintro e W8 ⟨rfl, ⟨v8, hs8, -⟩, ho8⟩
      have HS8 : Hid (SerV W8 s v8 F) := Lib.hid hs8
      have HB8 : Hid (Below W0.heap.size W0 W8) := Lib.hid (HB7.out.trans (ho8.below HB7.out.size (fun k hk => by rw [hk]; exact HSW.out)))
      clear hs8 ho8 HS7 HR7 HB7 HX7
      dsimp only
      go_wp2_with fail
      refine (seput_none W8 _).mono ?_
      rintro e w' ⟨rfl, hw⟩
      replace hw := hw.symm
      subst hw
      dsimp only
      go_wp2_with fail
      refine (sefirst_no (len_none W8)).mono ?_
      rintro e W9 ⟨rfl, hb9⟩
      have HS9 := Lib.hid (HS8.out.keep hb9)
      have HB9 := Lib.hid (HB8.out.trans (hb9.mono HB8.out.size))
      clear hb9 HS8 HB8
      dsimp only
      go_wp2_with fail
      refine calls_name ?_
      intro W10 hW10
      have hb10 : Below W9.heap.size W9 W10 := by rw [hW10.out]; exact (Below.refl _ _).alloc (Nat.le_refl _) _
      have HS10 := Lib.hid (HS9.out.keep hb10)
      have HB10 := Lib.hid (HB9.out.trans (hb10.mono HB9.out.size))
      clear hW10 hb10 HS9 HB9
      refine (selast_no (len_none W10)).mono ?_
      rintro e W11 ⟨rfl, hb11⟩
      have HS11 := Lib.hid (HS10.out.keep hb11)
      have HB11 := Lib.hid (HB10.out.trans (hb11.mono HB10.out.size))
      clear hb11 HS10 HB10
      dsimp only
      go_wp2_with fail
      refine calls_name ?_
      intro W12 hW12
      have hb12 : Below W11.heap.size W11 W12 := by rw [hW12.out]; exact (Below.refl _ _).alloc (Nat.le_refl _) _
      have HS12 := Lib.hid (HS11.out.keep hb12)
      have HB12 := Lib.hid (HB11.out.trans (hb12.mono HB11.out.size))
      clear hW12 hb12 HS11 HB11
      refine (seall_none W12).mono ?_
      rintro e W13 ⟨rfl, hw13⟩
      have HW13 := Lib.hid hw13
      clear hw13
      dsimp only
      go_wp2_with fail
      obtain ⟨B, hB⟩ : ∃ B, B = W12.heap.size := ⟨_, rfl⟩
      have c13 : W13.cell? ⟨B, 0, none⟩ = some (.slice none 0 0) := by rw [HW13.out, hB]; exact cell_of_row _ W12.heap.size 0 _ _ _ (heap_alloc_new W12 _)
      have h13 : W13.heap.size = B + 1 := by rw [HW13.out, hB]; simp
      have H13 := Lib.hid h13
      have hb13 : Below B W12 W13 := by rw [HW13.out]; exact (Below.refl _ _).alloc (by rw [hB]; exact Nat.le_refl _) _
      have HBQ := Lib.hid hB
      refine (wpIn_wide (n := 4)).1 ?_
      rw [← hB]
      clear hB HW13
      refine wpIn_rangeFunc_ownF (α := Empty) rfl (by omega) (gf := 24) (lb := #[.pointer (some ⟨B, 0, none⟩)]) rfl trivial (enters_of Try.func24 (by kernel_rfl) rfl)
        (all_stops Fence.wide 3 trivial rfl B B _ (by omega) c13) belowK_t (belowK_b (by omega)) (Below.refl _ _) (fun x => x.elim)
        (fun _ W' => Below B W12 W')
        (fun _ _ _ => False)
        (ownFrom_below (by rw [HBQ.out]; exact Nat.le_refl _) (by omega))
        (fun _ _ _ _ _ hs _ _ => hs)
        hb13
        (fun x => x.elim) ?assign ?body ?done ?stop
      case assign =>
        intro l x
        exact x.elim
      case body =>
        rintro l pre x
        exact x.elim
      case stop =>
        rintro D c pre W _ h _
        exact h.elim
      case done =>
        rintro K ys W14 hK rfl hBW hKO
        have HB14 : Hid (Below B W12 W14) := Lib.hid hBW
        have HK14 := Lib.hid hKO
        have HKB := Lib.hid hK
        have HD14 : Hid (W14.heap[D]? = some (.cells #[.bool false] 4 (0, 0))) := Lib.hid (by
          have h1 := lt_of_block HD0.out
          have h2 := HB12.out.size
          rw [hBW.block D (by rw [HBQ.out]; omega), HB12.out.block D h1]; exact HD0.out)
        have HS14 : Hid (SerV W14 s v8 F) := Lib.hid (HS12.out.keep (by rw [← HBQ.out]; exact hBW))
        clear hBW hKO hK c13 h13 hb13
        go_upto_region 20 with fail
        refine wp_name fun W15 hW15 => ?_
        obtain ⟨R, hR⟩ : ∃ R, R = W14.heap.size := ⟨_, rfl⟩
        have hb15 : Below W14.heap.size W14 W15 := by rw [hW15.out]; exact (Below.refl _ _).alloc (Nat.le_refl _) _
        have HG15 : Hid (RgAt W15 R 0 1099511627776) := Lib.hid (by rw [hW15.out, hR]; exact RgAt.new W14 _ _)
        have HS15 := Lib.hid (HS14.out.keep hb15)
        have HD15 : Hid (W15.heap[D]? = some (.cells #[.bool false] 4 (0, 0))) := Lib.hid ((hb15.block D (lt_of_block HD14.out)).trans HD14.out)
        have HK15 : Hid (W15.heap[K]? = some (Obj.deferred (some []))) := Lib.hid ((hb15.block K (by have := (Array.getElem?_eq_some_iff.1 HK14.out).1; exact this)).trans HK14.out)
        have HB15 : Hid (Below B W12 W15) := Lib.hid (HB14.out.trans (hb15.mono (by have := HB14.out.size; have := HBQ.out; omega)))
        rw [← hR]
        have HRD : Hid (R ≠ D) := Lib.hid (by have := lt_of_block HD14.out; omega)
        clear hW15 hb15 hR HD14 HS14 HK14 HB14
        obtain ⟨c0, c1, -, -⟩ := HG15.out.cells
        obtain ⟨d0, f0⟩ := cells1 HD15.out
        have hc : W15.cell? ⟨R, 0, none⟩ = some (.int .i64 0) ∧ W15.cell? ⟨R, 1, none⟩ = some (.int .i64 1099511627776) ∧ W15.cell? ⟨D, 0, none⟩ = some (.bool false) ∧ W15.frozen? ⟨D, 0, none⟩ = false := ⟨c0, c1, d0, f0⟩
        have HC := Lib.hid hc
        have hls := selen_any HS15.out.drew
        rw [HLN.out] at hls
        have HLS := Lib.hid hls
        clear hls hc c0 c1 d0 f0
        go_region_held3 (fun w' => w'.cell? ⟨R, 0, none⟩ = some (.int .i64 0) ∧ w'.cell? ⟨R, 1, none⟩ = some (.int .i64 1099511627776)) (first | exact held_two HC.out | exact held_two HC16.out | exact held_two HC17.out | exact held_two HC18.out | exact held_set HC18.out HRD.out) ((first | (go_at_call 12; with_reducible refine (HLS.out).mono ?_; rintro e w' ⟨rfl, hw⟩; replace hw := hw.symm; subst hw) | (go_at_call 12; with_reducible refine (selen_none _).mono ?_; rintro e w' ⟨rfl, hw⟩; replace hw := hw.symm; subst hw) | (go_at_call 16; with_reducible refine (sefree_none _ _).mono ?_; rintro e w' ⟨rfl, hw⟩; replace hw := hw.symm; subst hw) | (go_at_call 17; with_reducible refine (secopy_none _).mono ?_; rintro e w' ⟨rfl, hw⟩; replace hw := hw.symm; subst hw) | (go_at_call 13; refine (secut_none _ _ rfl).mono ?_; rintro e W16 ⟨rfl, hb16⟩; have HC16 := Lib.hid (held_on (W := W15.drew) HC.out hb16); have HB16 := Lib.hid hb16; clear hb16) | (go_at_call 14; refine (secount_none _ _ _).mono ?_; rintro e W17 ⟨rfl, hb17⟩; have HC17 := Lib.hid (held_on HC16.out hb17); have HB17 := Lib.hid hb17; clear hb17) | (go_at_call 15; refine (seget_none _ _ _).mono ?_; rintro e W18 ⟨v18, rfl, hr18, hb18⟩; have HC18 := Lib.hid (held_on HC17.out hb18); have HB18 := Lib.hid hb18; obtain ⟨a18, c18, rfl⟩ := own_slice hr18; have d18 := HC18.out.2.2.1; have f18 := HC18.out.2.2.2; clear hb18 hr18)))
        have hW19 : ∃ W19, W19 = W18.setCell ⟨D, 0, none⟩ (.bool true) := ⟨_, rfl⟩
        obtain ⟨W19, hW19⟩ := hW19
        have hdlt : D < W15.heap.size := lt_of_block HD15.out
        have hklt : K < W15.heap.size := (Array.getElem?_eq_some_iff.1 HK15.out).1
        have hdk : D ≠ K := fun e => by have h1 := HD15.out; have h2 := HK15.out; rw [e, h2] at h1; cases h1
        have hz16 : W15.heap.size ≤ W16.heap.size := HB16.out.size
        have hz17 : W15.heap.size ≤ W17.heap.size := Nat.le_trans hz16 HB17.out.size
        have hB18 : Below W15.heap.size W15 W18 := ((below_drew (Below.refl W15.heap.size W15)).trans HB16.out).trans ((HB17.out.mono hz16).trans (HB18.out.mono hz17))
        have hO19 : Only (fun k => k = D) W18 W19 := by rw [hW19]; exact Only.setCell (S := fun k => k = D) W18 rfl _
        have HD19 : Hid (W19.cell? ⟨D, 0, none⟩ = some (.bool true)) := Lib.hid (by rw [hW19]; exact World.cell?_setCell_same _ _ _ d18)
        have HK19 : Hid (W19.heap[K]? = some (.deferred (some []))) := Lib.hid (by rw [hO19.block K (by have := hB18.size; omega) (fun e => hdk e.symm), hB18.block K hklt]; exact HK15.out)
        have HB19 : Hid (Below w.heap.size w W19) := Lib.hid (by
          have h0 : w.heap.size ≤ W0.heap.size := HB0.out.size
          have h1 : w.heap.size ≤ W12.heap.size := Nat.le_trans h0 HB12.out.size
          have h2 : w.heap.size ≤ W15.heap.size := by have := HB15.out.size; omega
          have h3 : w.heap.size ≤ W18.heap.size := Nat.le_trans h2 hB18.size
          exact ((HB0.out.trans (HB12.out.mono h0)).trans (HB15.out.mono (by rw [HBQ.out]; exact h1))).trans ((hB18.mono h2).trans (hO19.below h3 (fun k hk => by rw [hk, HQ.out]; exact Nat.le_refl _))))
        have HDK := Lib.hid hdk
        have HKZ : Hid (w.heap.size ≤ K) := Lib.hid (by
          have h0 := HKB.out
          have h1 := HB0.out.size
          have h2 := HB12.out.size
          have h3 := H13.out
          have h4 := HBQ.out
          omega)
        rw [← hW19]
        clear hW19 hdlt hklt hdk hz16 hz17 hB18 hO19 d18 f18 HC HC16 HC17 HC18 HB16 HB17 HB18 HLS HG15 HS15 HD15 HK15 HB15 HRD
        go_wp2_with fail
        exact full_end rfl rfl HD19.out HK19.out HB19.out HDK.out HKZ.out
end Go.Proofs.Ytpgbeebpeldjdaa
