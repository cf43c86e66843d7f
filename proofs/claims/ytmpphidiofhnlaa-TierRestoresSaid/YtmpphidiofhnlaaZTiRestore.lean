/- Package tier: Restore, walked. -/
import Derived.Test.YtmpphidiofhnlaaZTiRsto
import Derived.Test.YtmpphidiofhnlaaZTierW
namespace Go.Proofs.Ytmpphidiofhnlaa
open Go.RowKit

theorem cells7 {w : World} {p : Nat} {v0 v1 v2 v3 v4 v5 v6 : Value} {t : TypeId} (h : w.heap[p]? = some (.cells #[v0, v1, v2, v3, v4, v5, v6] t (0, 0))) :
    w.cell? ⟨p, 2, none⟩ = some v2 ∧ w.cell? ⟨p, 3, none⟩ = some v3 ∧ w.cell? ⟨p, 4, none⟩ = some v4 ∧ w.cell? ⟨p, 5, none⟩ = some v5 ∧ w.cell? ⟨p, 6, none⟩ = some v6 ∧ w.frozen? ⟨p, 2, none⟩ = false ∧ w.frozen? ⟨p, 3, none⟩ = false ∧ w.frozen? ⟨p, 4, none⟩ = false ∧ w.frozen? ⟨p, 5, none⟩ = false ∧ w.frozen? ⟨p, 6, none⟩ = false :=
  ⟨by simp [World.cell?, h], by simp [World.cell?, h], by simp [World.cell?, h], by simp [World.cell?, h], by simp [World.cell?, h], by simp [World.frozen?, h], by simp [World.frozen?, h], by simp [World.frozen?, h], by simp [World.frozen?, h], by simp [World.frozen?, h]⟩
set_option maxHeartbeats 16000000 in
set_option maxRecDepth 1000000 in
theorem tirestore_any {w : World} {vp vm vl : Value} {pts : List Pt} {mid long : List Ag} {m0 m1 m2 : Int} (hp : PLies w vp pts) (hm : ALies w vm mid) (hl : ALies w vl long) (hpf : ∀ p ∈ pts, p.fits) (hmf : ∀ t ∈ mid, t.fits) (hlf : ∀ t ∈ long, t.fits) (hpn : pts.length ≤ 1000000) (hmn : mid.length ≤ 1000000) (hln : long.length ≤ 1000000)
    (h00 : -9223372036854775808 ≤ m0) (h01 : m0 ≤ 9223372036854775807) (h10 : -9223372036854775808 ≤ m1) (h11 : m1 ≤ 9223372036854775807) (h20 : -9223372036854775808 ≤ m2) (h21 : m2 ≤ 9223372036854775807) :
    Calls Try.prog 22 #[vp, vm, vl, .agg #[.int .i64 m0, .int .i64 m1, .int .i64 m2]] w fun e w' => Below w.heap.size w w' ∧ ((restOk pts mid long m0 m1 m2 = true ∧ ∃ p sp v' vm' vl', e = .returned (.tuple #[.pointer (some ⟨p, 0, none⟩), .int .i64 0]) ∧ TSit w' p sp v' vm' vl' ⟨pts, mid, long, m1, m2⟩ ∧ ∀ k, TBlk p sp v' vm' vl' k → w.heap.size ≤ k) ∨ (restOk pts mid long m0 m1 m2 = false ∧ e = .returned (.tuple #[.pointer none, .int .i64 2]))) := by
  have HMA : Hid (∀ W, Calls Try.prog 47 #[.agg #[.int .i64 m0, .int .i64 m1, .int .i64 m2]] W fun e w' => e = .returned (.bool (marksB m0 m1 m2)) ∧ Below W.heap.size W w') := Lib.hid fun W => timarks_any h00 h01 h10 h11 h20 h21
  have HAM : Hid (∀ W, Below w.heap.size w W → Calls Try.prog 48 #[.int .i64 1, vm, .int .i64 m1] W fun e w' => e = .returned (.bool (goodAB 300 m1 mid)) ∧ Below W.heap.size W w') := Lib.hid fun W hb => tirightAggs_any (.inl ⟨rfl, rfl⟩) (hm.beyond hb) hmf hmn
  have HAL : Hid (∀ W, Below w.heap.size w W → Calls Try.prog 48 #[.int .i64 2, vl, .int .i64 m2] W fun e w' => e = .returned (.bool (goodAB 3600 m2 long)) ∧ Below W.heap.size W w') := Lib.hid fun W hb => tirightAggs_any (.inr ⟨rfl, rfl⟩) (hl.beyond hb) hlf hln
  have HPU : Hid (∀ W s v, Below w.heap.size w W → SerV W s v [] → Calls Try.prog 37 #[.pointer (some ⟨s, 0, none⟩), vp] W fun e w' => e = .returned (.tuple #[.int .i64 (putE [] pts).1, .int .i64 (putE [] pts).2.1]) ∧ (∃ v', SerV w' s v' (putE [] pts).2.2 ∧ (v' = v ∨ PtRowB W.heap.size w' v' (putE [] pts).2.2)) ∧ Only (fun b => b = s) W w') := Lib.hid fun W s v hb hs => seput_any hs (hp.beyond hb) hpf (by unfold maxLen; omega)
  have HEQ : Hid (∀ W u K, Below w.heap.size w W → PLies W u K → K.length ≤ 256 → Calls Try.prog 49 #[u, vp] W fun e w' => e = .returned (.bool (decide (K = pts))) ∧ ∃ m, w' = W.drewN m) := Lib.hid fun W u K hb hu hk => tiequal_any hu (hp.beyond hb) (by omega) (by omega)
  have HCM : Hid (∀ W, Below w.heap.size w W → Calls Try.prog 52 #[vm] W fun e w' => ∃ v', e = .returned v' ∧ AgRow W.heap.size w' v' mid ∧ Below W.heap.size W w') := Lib.hid fun W hb => agclo_any (hm.beyond hb) (by omega)
  have HCL : Hid (∀ W, Below w.heap.size w W → Calls Try.prog 52 #[vl] W fun e w' => ∃ v', e = .returned v' ∧ AgRow W.heap.size w' v' long ∧ Below W.heap.size W w') := Lib.hid fun W hb => agclo_any (hl.beyond hb) (by omega)
  have HSPL := Lib.hid (rest_split pts mid long m0 m1 m2)
  have HPTS := Lib.hid (pts_put pts)
  have HGD : Hid (restOk pts mid long m0 m1 m2 = true → GoodT ⟨pts, mid, long, m1, m2⟩ ∧ m0 = 0) := Lib.hid (rest_good hpf hmf hlf)
  obtain ⟨Z, hZ⟩ : ∃ Z, Z = restOk pts mid long m0 m1 m2 := ⟨_, rfl⟩
  rw [← hZ] at HSPL HGD ⊢
  obtain ⟨A, hA⟩ : ∃ A, A = marksB m0 m1 m2 := ⟨_, rfl⟩
  rw [← hA] at HSPL HMA
  obtain ⟨C, hC⟩ : ∃ C, C = goodAB 300 m1 mid := ⟨_, rfl⟩
  rw [← hC] at HSPL HAM
  obtain ⟨D, hD⟩ : ∃ D, D = goodAB 3600 m2 long := ⟨_, rfl⟩
  rw [← hD] at HSPL HAL
  clear hZ hA hC hD hp hm hl hpf hmf hlf h00 h01 h10 h11 h20 h21 hpn hmn hln
  go_enter Try.func22, Try.ntmps22
  go_upto_region 1 with fail
  refine wp_name fun W1 hW1 => ?_
  obtain ⟨R, hR⟩ : ∃ R, R = w.heap.size := ⟨_, rfl⟩
  have HB1 : Hid (Below w.heap.size w W1) := Lib.hid (by rw [hW1.out]; exact (Below.refl _ _).alloc (Nat.le_refl _) _)
  have HM1 : Hid (W1.heap[R]? = some (.cells #[.int .i64 m0, .int .i64 m1, .int .i64 m2] 49 (0, 0))) := Lib.hid (by rw [hW1.out, hR]; exact heap_alloc_new w _)
  rw [← hR]
  clear hW1 hR
  obtain ⟨c0, c1, c2⟩ := cells3a HM1.out
  go_wp2_with fail
  refine (HMA.out W1).mono ?_
  rintro e W2 ⟨rfl, hb⟩
  have HB2 := Lib.hid (HB1.out.trans (hb.mono HB1.out.size))
  have HM2 : Hid (W2.heap[R]? = some (.cells #[.int .i64 m0, .int .i64 m1, .int .i64 m2] 49 (0, 0))) := Lib.hid ((hb.block R (lt_of_block HM1.out)).trans HM1.out)
  clear hb c0 c1 c2 HB1 HM1
  dsimp only
  cases A with
  | false =>
    have HNO : Hid (Z = false) := Lib.hid (by rw [HSPL.out]; rfl)
    go_wp2_with fail
    go_ret2
    exact ⟨HB2.out, .inr ⟨HNO.out, rfl⟩⟩
  | true =>
  obtain ⟨c0, c1, c2⟩ := cells3a HM2.out
  go_wp2_with fail
  refine (HAM.out W2 HB2.out).mono ?_
  rintro e W3 ⟨rfl, hb⟩
  have HB3 := Lib.hid (HB2.out.trans (hb.mono HB2.out.size))
  have HM3 : Hid (W3.heap[R]? = some (.cells #[.int .i64 m0, .int .i64 m1, .int .i64 m2] 49 (0, 0))) := Lib.hid ((hb.block R (lt_of_block HM2.out)).trans HM2.out)
  clear hb c0 c1 c2 HB2 HM2
  dsimp only
  cases C with
  | false =>
    have HNO : Hid (Z = false) := Lib.hid (by rw [HSPL.out]; rfl)
    go_wp2_with fail
    go_ret2
    exact ⟨HB3.out, .inr ⟨HNO.out, rfl⟩⟩
  | true =>
  obtain ⟨c0, c1, c2⟩ := cells3a HM3.out
  go_wp2_with fail
  refine (HAL.out W3 HB3.out).mono ?_
  rintro e W4 ⟨rfl, hb⟩
  have HB4 := Lib.hid (HB3.out.trans (hb.mono HB3.out.size))
  have HM4 : Hid (W4.heap[R]? = some (.cells #[.int .i64 m0, .int .i64 m1, .int .i64 m2] 49 (0, 0))) := Lib.hid ((hb.block R (lt_of_block HM3.out)).trans HM3.out)
  clear hb c0 c1 c2 HB3 HM3
  dsimp only
  cases D with
  | false =>
    have HNO : Hid (Z = false) := Lib.hid (by rw [HSPL.out]; rfl)
    go_wp2_with fail
    go_ret2
    exact ⟨HB4.out, .inr ⟨HNO.out, rfl⟩⟩
  | true =>
  have HZ : Hid (Z = ptsB pts) := Lib.hid (by rw [HSPL.out]; rfl)
  go_wp2_with fail
  refine (tinew_any W4).mono ?_
  rintro e W5 ⟨p, sp, rfl, hs, hpB, hspB, hb⟩
  have HT5 := Lib.hid hs
  have HB5 := Lib.hid (HB4.out.trans (hb.mono HB4.out.size))
  have HPB : Hid (w.heap.size ≤ p ∧ w.heap.size ≤ sp) := Lib.hid ⟨Nat.le_trans HB4.out.size hpB, Nat.le_trans HB4.out.size hspB⟩
  have HM5 : Hid (W5.heap[R]? = some (.cells #[.int .i64 m0, .int .i64 m1, .int .i64 m2] 49 (0, 0))) := Lib.hid ((hb.block R (lt_of_block HM4.out)).trans HM4.out)
  have HRP : Hid (R ≠ p ∧ R ≠ sp) := Lib.hid (by have := lt_of_block HM4.out; omega)
  clear hb hs hpB hspB HB4 HM4
  have HNS : Hid (sp ≠ p) := Lib.hid HT5.out.nsp
  obtain ⟨c0, -, -, -, -, -, -⟩ := HT5.out.cells
  dsimp only
  have HPW := Lib.hid (HPU.out W5 sp _ HB5.out HT5.out.ser)
  obtain ⟨k1, hk1⟩ : ∃ k1, k1 = (putE [] pts).1 := ⟨_, rfl⟩
  obtain ⟨k2, hk2⟩ : ∃ k2, k2 = (putE [] pts).2.1 := ⟨_, rfl⟩
  obtain ⟨K, hK⟩ : ∃ K, K = (putE [] pts).2.2 := ⟨_, rfl⟩
  rw [← hk1, ← hk2, ← hK] at HPW
  rw [← hk2, ← hK] at HPTS
  clear hk1 hk2 hK HPU
  go_wp2_with fail
  refine HPW.out.mono ?_
  rintro e W6 ⟨rfl, ⟨v6, hs6, hv6⟩, ho6⟩
  have HS6 := Lib.hid hs6
  have HB6 : Hid (Below w.heap.size w W6) := Lib.hid (HB5.out.trans (ho6.below HB5.out.size (fun k hk => by rw [hk]; exact HPB.out.2)))
  have HP6 : Hid (W6.heap[p]? = some (.cells #[.pointer (some ⟨sp, 0, none⟩), .slice none 0 0, .slice none 0 0, .slice none 0 0, .int .i64 0, .int .i64 0, .int .i64 0] 63 (0, 0))) := Lib.hid ((ho6.block p (lt_of_block HT5.out.at_) (fun e => HT5.out.nsp e.symm)).trans HT5.out.at_)
  have HM6 : Hid (W6.heap[R]? = some (.cells #[.int .i64 m0, .int .i64 m1, .int .i64 m2] 49 (0, 0))) := Lib.hid ((ho6.block R (lt_of_block HM5.out) HRP.out.2).trans HM5.out)
  have HV6 : Hid (∀ k, v6.ownBlock = some k → w.heap.size ≤ k) := Lib.hid (fun k hk => by
    rcases hv6 with rfl | h6
    · cases hk
    · exact Nat.le_trans HB5.out.size (h6.lt k hk).1)
  clear hs6 hv6 ho6 c0 HPW
  dsimp only
  by_cases hk : k2 = 0
  · subst hk
    have hpc : W6.cell? ⟨p, 0, none⟩ = some (.pointer (some ⟨sp, 0, none⟩)) := by have := HP6.out; simp [World.cell?, this]
    have HAA := Lib.hid (seall_any HS6.out)
    go_wp2_with fail
    refine HAA.out.mono ?_
    rintro e W7 ⟨Q, v7, rfl, hQ, hQB, hr7, hb⟩
    have HQ7 := Lib.hid hQ
    have HR7 := Lib.hid hr7
    have HB7 : Hid (Below W6.heap.size W6 W7) := Lib.hid hb
    clear hQ hr7 hb hQB hpc
    dsimp only
    have HCO := Lib.hid (ticollect_any HQ7.out (HR7.out.base (Nat.zero_le _)) (by have := HS6.out.good.len; omega))
    go_wp2_with fail
    refine HCO.out.mono ?_
    rintro e W8 ⟨v8, rfl, hr8, hb⟩
    have HR8 := Lib.hid hr8
    have HB8 : Hid (Below W6.heap.size W6 W8) := Lib.hid (HB7.out.trans (hb.mono HB7.out.size))
    clear hr8 hb HQ7 HR7 HCO HAA
    dsimp only
    have HE8 := Lib.hid (HEQ.out W8 v8 K (HB6.out.trans (HB8.out.mono HB6.out.size)) HR8.out.plies (by have := HS6.out.good.len; omega))
    go_wp2_with fail
    refine HE8.out.mono ?_
    rintro e W9 ⟨rfl, mq, hq⟩
    have HB9 : Hid (Below W6.heap.size W6 W9) := Lib.hid (by rw [hq]; exact below_drewN HB8.out mq)
    clear hq HE8 HB8 HB7 HR8
    dsimp only
    by_cases hkp : K = pts
    · subst hkp
      have HYE : Hid (Z = true) := Lib.hid (by rw [HZ.out, HPTS.out]; simp)
      have s1 : decide (K = K) = true := decide_eq_true rfl
      have HB9W : Hid (Below w.heap.size w W9) := Lib.hid (HB6.out.trans (HB9.out.mono HB6.out.size))
      have HS9 := Lib.hid (HS6.out.keep HB9.out)
      have HP9 : Hid (W9.heap[p]? = some (.cells #[.pointer (some ⟨sp, 0, none⟩), .slice none 0 0, .slice none 0 0, .slice none 0 0, .int .i64 0, .int .i64 0, .int .i64 0] 63 (0, 0))) := Lib.hid ((HB9.out.block p (lt_of_block HP6.out)).trans HP6.out)
      have HM9 : Hid (W9.heap[R]? = some (.cells #[.int .i64 m0, .int .i64 m1, .int .i64 m2] 49 (0, 0))) := Lib.hid ((HB9.out.block R (lt_of_block HM6.out)).trans HM6.out)
      have HC10 := Lib.hid (HCM.out W9.drew (below_drew HB9W.out))
      clear HS6 HB6 HP6 HM6 HB9 HEQ HCM HMA HAM HAL HSPL HZ HPTS HT5 HB5 HM5
      go_upto_region 7 with fail
      go_region_held3 (fun _ => True) (exact trivial) ((first | (go_at_call 52; refine (HC10.out).mono ?_; clear HC10; rintro e W10 ⟨v10, rfl, hr10, hb10⟩; have HR10 := Lib.hid hr10; have HB10 : Hid (Below W9.heap.size W9 W10) := Lib.hid (below_undrew hb10); have HC11 := Lib.hid (HCL.out W10 (HB9W.out.trans (HB10.out.mono HB9W.out.size))); clear hr10 hb10) | (go_at_call 52; refine (HC11.out).mono ?_; rintro e W11 ⟨v11, rfl, hr11, hb11⟩; have HR11 := Lib.hid hr11; have HB11 := Lib.hid hb11; have HP11 := Lib.hid (cells7 (((HB10.out.trans (hb11.mono HB10.out.size)).block p (lt_of_block HP9.out)).trans HP9.out)); obtain ⟨x2, x3, -, -, -, f2, f3, -, -, -⟩ := HP11.out; obtain ⟨a10, c10, e10⟩ := own_slice HR10.out; obtain ⟨a11, c11, e11⟩ := own_slice HR11.out; subst e10 e11; clear hr11 hb11)))
      all_goals
        have HPB11 : Hid (W11.heap[p]? = some (.cells #[.pointer (some ⟨sp, 0, none⟩), .slice none 0 0, .slice none 0 0, .slice none 0 0, .int .i64 0, .int .i64 0, .int .i64 0] 63 (0, 0))) := Lib.hid (((HB10.out.trans (HB11.out.mono HB10.out.size)).block p (lt_of_block HP9.out)).trans HP9.out)
        have HMB11 : Hid (W11.heap[R]? = some (.cells #[.int .i64 m0, .int .i64 m1, .int .i64 m2] 49 (0, 0))) := Lib.hid (((HB10.out.trans (HB11.out.mono HB10.out.size)).block R (lt_of_block HM9.out)).trans HM9.out)
        have HS11 := Lib.hid ((HS9.out.keep HB10.out).keep HB11.out)
        obtain ⟨va, hva⟩ : ∃ va, va = Value.slice a10 mid.length c10 := ⟨_, rfl⟩
        obtain ⟨vb, hvb⟩ : ∃ vb, vb = Value.slice a11 long.length c11 := ⟨_, rfl⟩
        have HR10' := HR10.out
        have HR11' := HR11.out
        rw [← hva] at HR10' ⊢
        rw [← hvb] at HR11' ⊢
        have HVA := Lib.hid HR10'
        have HVB := Lib.hid HR11'
        have HPLT : Hid (p < W9.heap.size) := Lib.hid (lt_of_block HP9.out)
        have HNP : Hid (v6.ownBlock ≠ some p) := Lib.hid (row_ne HP9.out HS9.out.row (by decide))
        clear x2 x3 f2 f3 HP11 HR10' HR11' HR10 HR11 hva hvb HC11 HCL HP9 HM9 HS9
        go_upto_region 8 with fail
        refine wp_name fun W12 hW12 => ?_
        have HO12 : Hid (Only (fun k => k = p) W11 W12) := Lib.hid (by rw [hW12.out]; exact (Only.setCell (S := fun k => k = p) W11 rfl _).trans (Only.setCell (S := fun k => k = p) _ rfl _) (fun _ _ h => h))
        have HP12 : Hid (W12.heap[p]? = some (.cells #[.pointer (some ⟨sp, 0, none⟩), .slice none 0 0, va, vb, .int .i64 0, .int .i64 0, .int .i64 0] 63 (0, 0))) := Lib.hid (by
          have h1 := heap_setCell_same W11 p 2 _ _ va HPB11.out
          have h2 := heap_setCell_same _ p 3 _ _ vb h1
          rw [hW12.out, h2]; simp)
        have HM12 : Hid (W12.heap[R]? = some (.cells #[.int .i64 m0, .int .i64 m1, .int .i64 m2] 49 (0, 0))) := Lib.hid ((HO12.out.block R (lt_of_block HMB11.out) HRP.out.1).trans HMB11.out)
        clear hW12 HPB11 HMB11
        obtain ⟨-, -, x4, x5, x6, -, -, f4, f5, f6⟩ := cells7 HP12.out
        obtain ⟨c0, c1, c2⟩ := cells3a HM12.out
        go_upto_region 9 with fail
        refine wp_name fun W13 hW13 => ?_
        have HO13 : Hid (Only (fun k => k = p) W12 W13) := Lib.hid (by rw [hW13.out]; exact ((Only.setCell (S := fun k => k = p) W12 rfl _).trans (Only.setCell (S := fun k => k = p) _ rfl _) (fun _ _ h => h)).trans (Only.setCell (S := fun k => k = p) _ rfl _) (fun _ _ h => h))
        have HP13 : Hid (W13.heap[p]? = some (.cells #[.pointer (some ⟨sp, 0, none⟩), .slice none 0 0, va, vb, .int .i64 m0, .int .i64 m1, .int .i64 m2] 63 (0, 0))) := Lib.hid (by
          have h1 := heap_setCell_same W12 p 4 _ _ (.int .i64 m0) HP12.out
          have h2 := heap_setCell_same _ p 5 _ _ (.int .i64 m1) h1
          have h3 := heap_setCell_same _ p 6 _ _ (.int .i64 m2) h2
          rw [hW13.out, h3]; simp)
        clear hW13 x4 x5 x6 f4 f5 f6 c0 c1 c2
        go_wp2_with fail
        go_ret2
        have ho : Only (fun k => k = p) W11 W13 := HO12.out.trans HO13.out (fun _ _ h => h)
        have hb11 : Below w.heap.size w W11 := (HB9W.out.trans (HB10.out.mono HB9W.out.size)).trans (HB11.out.mono (Nat.le_trans HB9W.out.size HB10.out.size))
        obtain ⟨hgd, hm0⟩ := HGD.out HYE.out
        have z9 := HB9W.out.size
        have z10 := HB10.out.size
        have hva : ∀ k, va.ownBlock = some k → W9.heap.size ≤ k ∧ k < W10.heap.size := fun k hk => HVA.out.lt k hk
        have hvb : ∀ k, vb.ownBlock = some k → W10.heap.size ≤ k := fun k hk => (HVB.out.lt k hk).1
        have hpl := HPLT.out
        refine ⟨hb11.trans (ho.below hb11.size (fun k hk => by rw [hk]; exact HPB.out.1)), .inl ⟨HYE.out, p, sp, v6, va, vb, rfl, ⟨?_, HS11.out.only ho ?_, ?_, ?_, ?_, hgd⟩, ?_⟩⟩
        · have h1 := HP13.out
          rw [hm0] at h1
          exact h1
        · rintro k (e | e) e2
          · exact HNS.out (e.symm.trans e2)
          · exact HNP.out (by rw [← e2]; exact e)
        · exact row_only ((HVA.out.keep HB11.out).base (Nat.zero_le _)) ho (fun k hk e => by have := hva k hk; omega)
        · exact row_only (HVB.out.base (Nat.zero_le _)) ho (fun k hk e => by have := hvb k hk; omega)
        · intro k h1 h2
          have := (hva k h1).2
          have := hvb k h2
          omega
        · rintro k (e | (e | e) | e | e)
          · rw [e]; exact HPB.out.1
          · rw [e]; exact HPB.out.2
          · exact HV6.out k e
          · have := (hva k e).1; omega
          · have := hvb k e; omega
    · have HNO : Hid (Z = false) := Lib.hid (by rw [HZ.out, HPTS.out, decide_eq_false hkp, Bool.and_false])
      have s1 : decide (K = pts) = false := decide_eq_false hkp
      clear hkp
      go_wp2_with fail
      go_ret2
      exact ⟨HB6.out.trans (HB9.out.mono HB6.out.size), .inr ⟨HNO.out, rfl⟩⟩
  · have HNO : Hid (Z = false) := Lib.hid (by rw [HZ.out, HPTS.out, decide_eq_false hk, Bool.false_and])
    have s1 : (k2 != 0) = true := by simpa using hk
    clear hk
    go_wp2_with fail
    go_ret2
    exact ⟨HB6.out, .inr ⟨HNO.out, rfl⟩⟩
theorem tierRest : TierR tierDoes where
  restore := fun hp hm hl hpf hmf hlf hpn hmn hln h00 h01 h10 h11 h20 h21 => (tirestore_any hp hm hl hpf hmf hlf hpn hmn hln h00 h01 h10 h11 h20 h21).mono fun e w' hh => by
    obtain ⟨h1, h2⟩ := hh
    refine ⟨h1, ?_⟩
    rcases h2 with ⟨h3, p, sp, v', vm', vl', h4, h5, h6⟩ | h3
    · exact .inl ⟨h3, p, h4, ⟨sp, v', vm', vl', h5⟩, fun k hk => h6 k ((h5.own k).1 hk)⟩
    · exact .inr h3
  put0 := tiput_none
  roll0 := tiroll_none
  bytes0 := tibytes_none
  len0 := fun w => tilen_none w (by omega)
  purge0 := tipurge_none
  points0 := tipoints_none
  aggs0 := tiaggs_none
  copy0 := ticopy_none
end Go.Proofs.Ytmpphidiofhnlaa
