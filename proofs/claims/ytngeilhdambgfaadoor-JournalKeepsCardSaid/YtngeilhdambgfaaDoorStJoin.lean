/- Join, walked: of any sectors. -/
import Derived.Test.YtngeilhdambgfaaDoorStSplit
import Derived.Deep.DeepCutAuto
namespace Go.Proofs.YtngeilhdambgfaaDoor
open Go.RowKit

/-- sectors as they lie -/
def SecsAt (w : World) (v : Value) (r : List (Sec × Value)) : Prop :=
  ∃ a c, v = .slice a r.length c ∧ (r ≠ [] → ∃ b off, a = some ⟨b, off, none⟩ ∧ ∀ j u, (rowC r)[j]? = some u → w.cell? ⟨b, off + j, none⟩ = some u) ∧ ∀ x ∈ r, Lies w x.2 x.1.data
def okAt (s0 : Sec) (n i : Nat) (x : Sec) : Prop := x.turn = s0.turn ∧ x.place = s0.place + i ∧ x.last = decide (i = n - 1)
/-- are they a record's? -/
def JoinOk (l : List Sec) : Prop := ∃ s0, l[0]? = some s0 ∧ s0.place + (l.length - 1) ≤ 4294967295 ∧ ∀ i x, l[i]? = some x → okAt s0 l.length i x
def dataL (l : List Sec) : List Nat := l.flatMap (·.data)
def Joined (w : World) (l : List Sec) (e : Ending) (w' : World) : Prop :=
  (JoinOk l ∧ ∃ v, e = .returned (.tuple #[v, .int .i64 0]) ∧ w'.ownsRow w.heap.size 5 1 v (dataL l).length (u8s (dataL l)) ∧ Below w.heap.size w w') ∨
  (¬ JoinOk l ∧ ∃ z : Int, z ≠ 0 ∧ e = .returned (.tuple #[.slice none 0 0, .int .i64 z]) ∧ Below w.heap.size w w')

theorem join_none {w : World} {a : Option Addr} {c : Nat} : Calls Tryd.prog 38 #[.slice a 0 c] w (Joined w []) := by
  go_enter Tryd.func38, Tryd.ntmps38
  go_wp2
  go_ret2
  exact .inr ⟨fun ⟨s0, h, _⟩ => by simp at h, 4, by decide, rfl, Below.refl _ _⟩

theorem strow_cells {w : World} {b off : Nat} {r : List (Sec × Value)} (hc : ∀ j u, (rowC r)[j]? = some u → w.cell? ⟨b, off + j, none⟩ = some u) {i : Nat} {x : (Sec × Value)} (hi : r[i]? = some x) :
    w.cell? ⟨b, off + i * 4, none⟩ = some (.int .u32 (x.1.turn : Int)) ∧ w.cell? ⟨b, off + i * 4 + 1, none⟩ = some (.int .u32 (x.1.place : Int)) ∧ w.cell? ⟨b, off + i * 4 + 2, none⟩ = some (.bool x.1.last) ∧ w.cell? ⟨b, off + i * 4 + 3, none⟩ = some x.2 := by
  have h : ∀ j u, j < 4 → (secC x)[j]? = some u → w.cell? ⟨b, off + i * 4 + j, none⟩ = some u := fun j u hj hu => by
    have := hc (4 * i + j) u ((rowC_get hi j hj).trans hu)
    rwa [show off + (4 * i + j) = off + i * 4 + j by omega] at this
  exact ⟨h 0 _ (by omega) rfl, h 1 _ (by omega) rfl, h 2 _ (by omega) rfl, h 3 _ (by omega) rfl⟩
theorem dataL_append (a b : List Sec) : dataL (a ++ b) = dataL a ++ dataL b := by simp [dataL]
theorem dataL_take (r : List (Sec × Value)) (i : Nat) : (dataL ((r.take i).map Prod.fst)).length ≤ (dataL (r.map Prod.fst)).length := by
  conv => rhs; rw [← List.take_append_drop i r]
  rw [List.map_append, dataL_append, List.length_append]; omega
theorem dataL_next {r : List (Sec × Value)} {i : Nat} {x : (Sec × Value)} (h : r[i]? = some x) : dataL ((r.take (i + 1)).map Prod.fst) = dataL ((r.take i).map Prod.fst) ++ x.1.data := by
  rw [List.take_add_one, h, List.map_append, dataL_append]
  simp [dataL]
theorem okNext {r : List (Sec × Value)} {s0 : Sec} {n i : Nat} {x : (Sec × Value)} (h : ∀ j x, j < i → r[j]? = some x → okAt s0 n j x.1) (hx : r[i]? = some x) (hk : okAt s0 n i x.1) {j : Nat} {y : (Sec × Value)} (hj : j < i + 1) (hy : r[j]? = some y) : okAt s0 n j y.1 := by
  rcases Nat.lt_succ_iff_lt_or_eq.1 hj with h1 | rfl
  · exact h j y h1 hy
  · rw [hx] at hy; cases hy; exact hk
theorem okAt_of {t0 p0 tx px i n k : Nat} {Lx M L0 : Bool} {D0 Dx : List Nat} (h1 : (((tx : Int) == (t0 : Int)) && ((px : Int) == ((p0 + i : Nat) : Int))) = true) (h2 : (Lx == M) = true) (h3 : M = decide (i = k)) (h4 : k = n - 1) : okAt ⟨t0, p0, L0, D0⟩ n i ⟨tx, px, Lx, Dx⟩ := by
  simp only [Bool.and_eq_true, beq_iff_eq] at h1 h2
  refine ⟨by simp only; omega, by simp only; omega, ?_⟩
  simp only
  rw [h2, h3, h4]
theorem joinOk_last {l : List Sec} {s : Sec} (hs : l[l.length - 1]? = some s) (h : s.last = false) : ¬ JoinOk l := by
  rintro ⟨s0, h0, h1, h2⟩
  have := (h2 _ _ hs).2.2
  rw [h] at this
  simp at this

set_option maxHeartbeats 8000000 in
set_option maxRecDepth 1000000 in
theorem join_some {w : World} {b off c : Nat} {r : List (Sec × Value)} (hne : r ≠ []) (hc : ∀ j u, (rowC r)[j]? = some u → w.cell? ⟨b, off + j, none⟩ = some u) (hd : ∀ x ∈ r, Lies w x.2 x.1.data) (hp : ∀ x ∈ r, x.1.place < 4294967296) (hbig : (dataL (r.map Prod.fst)).length ≤ 1000000000) (hn : r.length ≤ 1000000000) :
    Calls Tryd.prog 38 #[.slice (some ⟨b, off, none⟩) r.length c] w (Joined w (r.map Prod.fst)) := by
  obtain ⟨n, hN⟩ : ∃ n, n = r.length := ⟨_, rfl⟩
  have hn1 : 1 ≤ n := by rw [hN]; exact List.length_pos_iff.2 hne
  obtain ⟨k, hk⟩ : ∃ k, k = n - 1 := ⟨_, rfl⟩
  obtain ⟨x0, hx0⟩ : ∃ x, r[0]? = some x := ⟨r[0]'(by omega), List.getElem?_eq_getElem _⟩
  obtain ⟨xl, hxl⟩ : ∃ x, r[k]? = some x := ⟨r[k]'(by omega), List.getElem?_eq_getElem _⟩
  have HC : Hid (∀ i x, r[i]? = some x → _) := Lib.hid fun i x (hi : r[i]? = some x) => strow_cells hc hi
  obtain ⟨q0, q1, _, _⟩ := HC.out 0 x0 hx0
  obtain ⟨_, _, ql2, _⟩ := HC.out k xl hxl
  have hp0 : x0.1.place < 4294967296 := hp _ (List.mem_of_getElem? hx0)
  have hl0 : (r.map Prod.fst)[0]? = some x0.1 := by rw [List.getElem?_map, hx0]; rfl
  have hll : (r.map Prod.fst)[(r.map Prod.fst).length - 1]? = some xl.1 := by rw [List.length_map, ← hN, ← hk, List.getElem?_map, hxl]; rfl
  obtain ⟨⟨t0, p0, L0, D0⟩, u0⟩ := x0
  obtain ⟨⟨tl, pl, Ll, Dl⟩, ul⟩ := xl
  simp only at q0 q1 ql2 hp0 hl0 hll
  rw [Nat.zero_mul, Nat.add_zero] at q0 q1
  have e1 : IntKind.i64.wrap ((n : Int) - 1) = (k : Int) := by rw [IntKind.wrap_i64]; omega
  have e0 : ((n : Int) == 0) = false := by simp; omega
  have hkn : k < n := by omega
  have HD := Lib.hid hd
  have HP := Lib.hid hp
  have HBIG := Lib.hid hbig
  have HL0 := Lib.hid hl0
  have HLL := Lib.hid hll
  have HN := Lib.hid hN
  have HK := Lib.hid hk
  have HP0 := Lib.hid hp0
  rw [← hN] at hn ⊢
  clear hc hd hp hbig hne hl0 hll hx0 hxl hN hk hp0
  cases Ll
  · go_enter Tryd.func38, Tryd.ntmps38
    go_wp2
    go_ret2
    exact .inr ⟨joinOk_last HLL.out rfl, 4, by decide, rfl, Below.refl _ _⟩
  · go_enter Tryd.func38, Tryd.ntmps38
    go_wp2_with fail
    refine (fits_any HP0.out hn1 (by omega) _).mono ?_
    rintro e w0 ⟨rfl, h0⟩
    subst h0
    by_cases hf : p0 + (n - 1) ≤ 4294967295
    · rw [decide_eq_true hf]
      have HF := Lib.hid hf
      clear hf ql2 q0 q1 e1 e0
      obtain ⟨i0, hi, hz0, hz1, hz2⟩ := info_parts infoU8
      have HI : Hid (Tryd.prog.info? 5 = some i0 ∧ i0.zero = some (.int .u8 0) ∧ i0.size = 1 ∧ i0.bytes = 1) := Lib.hid ⟨hi, hz0, hz1, hz2⟩
      clear hi hz0 hz1 hz2
      go_wp2_with fail
      obtain ⟨V4, hV4⟩ : ∃ V, V = w.heap.size := ⟨_, rfl⟩
      rw [← hV4]
      refine wp_name fun W1 hW1 => ?_
      have HV1 : Hid (W1.heap[V4]? = some (.cells #[.int .u32 (t0 : Int), .int .u32 (p0 : Int)] 75 (0, 0))) := Lib.hid (by rw [hW1, hV4]; exact heap_alloc_new _ _)
      have HB1 : Hid (Below w.heap.size w W1) := Lib.hid (by rw [hW1]; exact (Below.refl _ w).alloc (Nat.le_refl _) _)
      have HVg : Hid (w.heap.size ≤ V4) := Lib.hid (by omega)
      clear hW1 hV4
      go_loopw [5, 33] (fun vb c wr => ∃ i : Nat, i ≤ n ∧ c = .int .i64 i ∧ (∀ j x, j < i → r[j]? = some x → okAt ⟨t0, p0, L0, D0⟩ n j x.1) ∧ wr.ownsRow w.heap.size 5 1 vb (dataL ((r.take i).map Prod.fst)).length (u8s (dataL ((r.take i).map Prod.fst))) ∧ wr.heap[V4]? = some (.cells #[.int .u32 (t0 : Int), .int .u32 (p0 : Int)] 75 (0, 0)) ∧ Below w.heap.size w wr) (fun _ c _ => n - (intOf c).toNat)
      case atStart => exact ⟨0, by omega, rfl, fun j x hj _ => by omega, World.ownsRow_nil _ _ _ _, HV1.out, HB1.out⟩
      case round =>
        obtain ⟨i, hi, rfl, hok, hown, hv4, hb⟩ := hrel
        obtain ⟨LD, hLD⟩ : ∃ l, l = dataL ((r.take i).map Prod.fst) := ⟨_, rfl⟩
        rw [← hLD] at hown
        have hl9 : LD.length ≤ 1000000000 := by rw [hLD]; exact Nat.le_trans (dataL_take r i) HBIG.out
        have HLD := Lib.hid hLD
        clear hLD
        have HOK := Lib.hid hok
        have HOW := Lib.hid hown
        have HV4 := Lib.hid hv4
        have HB := Lib.hid hb
        obtain ⟨ab, cb, rfl⟩ := own_slice hown
        clear hok hown hv4 hb
        by_cases hlt : i < n
        · obtain ⟨x, hx⟩ : ∃ x, r[i]? = some x := ⟨r[i]'(by have := HN.out; omega), List.getElem?_eq_getElem _⟩
          obtain ⟨z0, z1, z2, z3⟩ := HC.out i x hx
          have hlx := HD.out x (List.mem_of_getElem? hx)
          have HX := Lib.hid hx
          clear hx
          obtain ⟨⟨tx, px, Lx, Dx⟩, ux⟩ := x
          simp only at z0 z1 z2 z3 hlx
          obtain ⟨ax, cx, rfl⟩ := lies_len hlx
          obtain ⟨nx, hnx⟩ : ∃ m, m = Dx.length := ⟨_, rfl⟩
          rw [← hnx] at z3 hlx
          have HLX := Lib.hid hlx
          have HNX := Lib.hid hnx
          have hbk : b < w.heap.size := by have := cell_lt z0; exact this
          have y0 : wr.cell? ⟨b, off + i * 4, none⟩ = some (.int .u32 (tx : Int)) := by rw [← z0]; exact HB.out.cell (p := ⟨b, off + i * 4, none⟩) hbk
          have y1 : wr.cell? ⟨b, off + i * 4 + 1, none⟩ = some (.int .u32 (px : Int)) := by rw [← z1]; exact HB.out.cell (p := ⟨b, off + i * 4 + 1, none⟩) hbk
          have y2 : wr.cell? ⟨b, off + i * 4 + 2, none⟩ = some (.bool Lx) := by rw [← z2]; exact HB.out.cell (p := ⟨b, off + i * 4 + 2, none⟩) hbk
          have y3 : wr.cell? ⟨b, off + i * 4 + 3, none⟩ = some (.slice ax nx cx) := by rw [← z3]; exact HB.out.cell (p := ⟨b, off + i * 4 + 3, none⟩) hbk
          have hpi : p0 + i < 4294967296 := by have := HF.out; omega
          have HON := Lib.hid (on_any (t := t0) hpi)
          have e1 : IntKind.i64.wrap ((n : Int) - 1) = (k : Int) := by have := HK.out; rw [IntKind.wrap_i64]; omega
          clear z0 z1 z2 z3 hlx hnx hbk hpi
          go_upto_region 10 with fail
          obtain ⟨V7, hV7⟩ : ∃ V, V = wr.heap.size := ⟨_, rfl⟩
          rw [← hV7]
          refine wp_name fun W5 hW5 => ?_
          have HV75 : Hid (W5.heap[V7]? = some (.cells #[.int .u32 (tx : Int), .int .u32 (px : Int), .bool Lx, .slice ax nx cx] 77 (0, 0))) := Lib.hid (by rw [hW5, hV7]; exact heap_alloc_new _ _)
          have HBr5 : Hid (Below wr.heap.size wr W5) := Lib.hid (by rw [hW5]; exact (Below.refl _ wr).alloc (Nat.le_refl _) _)
          have HV45 : Hid (W5.heap[V4]? = some (.cells #[.int .u32 (t0 : Int), .int .u32 (p0 : Int)] 75 (0, 0))) := Lib.hid ((HBr5.out.block V4 (lt_of_block HV4.out)).trans HV4.out)
          have HBw5 : Hid (Below w.heap.size w W5) := Lib.hid (HB.out.trans (HBr5.out.mono HB.out.size))
          have HV7g : Hid (V4 ≠ V7) := Lib.hid (by have := lt_of_block HV4.out; omega)
          clear hW5 hV7 y0 y1 y2 y3
          obtain ⟨B, hB⟩ : ∃ B : Bool, (((tx : Int) == (t0 : Int)) && ((px : Int) == ((p0 + i : Nat) : Int))) = B := ⟨_, rfl⟩
          have HBB := Lib.hid hB
          clear hB
          refine wp_region_held_drew (S := fun W => W.heap[V7]? = some (.cells #[.int .u32 (tx : Int), .int .u32 (px : Int), .bool Lx, .slice ax nx cx] 77 (0, 0)) ∧ W.heap[V4]? = some (.cells #[.int .u32 (t0 : Int), .int .u32 (p0 : Int)] 75 (0, 0)) ∧ Below W5.heap.size W5 W) (by kernel_rfl) ⟨HV75.out, HV45.out, below_drew (Below.refl _ _)⟩ (fun _ => ?_)
          refine anyH_take (i := 0) (some 38) (v := _) rfl rfl (by kernel_rfl) (by kernel_rfl) (by kernel_rfl) (fun _ _ _ h => h) (by rfl) (⟨HV75.out, HV45.out, below_drew (Below.refl _ _)⟩) (by intro w hSw; go_simp; try with_reducible rfl) ?_
          (try simp only [Act.put, List.setIfInBounds_toArray, List.set_cons_zero, List.set_cons_succ])
          refine anyH_take (i := 1) (some 39) (v := _) rfl rfl (by kernel_rfl) (by kernel_rfl) (by kernel_rfl) (fun _ _ _ h => h) (by rfl) (⟨HV75.out, HV45.out, below_drew (Below.refl _ _)⟩) (by intro w hSw; obtain ⟨⟨q0, q1, q2, q3⟩, _⟩ := cells4 hSw.1; go_simp; try with_reducible rfl) ?_
          (try simp only [Act.put, List.setIfInBounds_toArray, List.set_cons_zero, List.set_cons_succ])
          refine anyH_take (i := 2) (some 40) (v := _) rfl rfl (by kernel_rfl) (by kernel_rfl) (by kernel_rfl) (fun _ _ _ h => h) (by rfl) (⟨HV75.out, HV45.out, below_drew (Below.refl _ _)⟩) (by intro w hSw; obtain ⟨q0, q1, _, _⟩ := cells2 hSw.2.1; go_simp; try with_reducible rfl) ?_
          (try simp only [Act.put, List.setIfInBounds_toArray, List.set_cons_zero, List.set_cons_succ])
          refine anyH_take (i := 3) (some 41) (v := _) rfl rfl (by kernel_rfl) (by kernel_rfl) (by kernel_rfl) (fun _ _ _ h => h) (by rfl) (⟨HV75.out, HV45.out, below_drew (Below.refl _ _)⟩) (by intro w hSw; go_simp; try with_reducible rfl) ?_
          (try simp only [Act.put, List.setIfInBounds_toArray, List.set_cons_zero, List.set_cons_succ])
          refine wpAnyH_ready (rs := [4]) (by kernel_rfl) (by simp) (AllReadyH.cons rfl (fun K hK => ?_) AllReadyH.nil)
          go_simp
          refine (HON.out _).mono ?_
          rintro e w6 ⟨rfl, hb6⟩
          unfold stampV
          replace hb6 := below_undrew (w := W5) hb6
          have HV76 : Hid (w6.heap[V7]? = some (.cells #[.int .u32 (tx : Int), .int .u32 (px : Int), .bool Lx, .slice ax nx cx] 77 (0, 0))) := Lib.hid ((hb6.block V7 (lt_of_block HV75.out)).trans HV75.out)
          have HV46 : Hid (w6.heap[V4]? = some (.cells #[.int .u32 (t0 : Int), .int .u32 (p0 : Int)] 75 (0, 0))) := Lib.hid ((hb6.block V4 (lt_of_block HV45.out)).trans HV45.out)
          have HB6 := Lib.hid hb6
          clear hb6
          go_wp2_with fail
          refine hK.out _ _ ⟨HV76.out, HV46.out, HB6.out⟩ (fun _ => ?_)
          clear hK K
          (try simp only [Act.put, List.setIfInBounds_toArray, List.set_cons_zero, List.set_cons_succ])
          have HBw6 : Hid (Below w.heap.size w w6) := Lib.hid (HBw5.out.trans (HB6.out.mono HBw5.out.size))
          cases B
          · refine anyH_take (i := 5) (some 43) (v := _) rfl rfl (by kernel_rfl) (by kernel_rfl) (by kernel_rfl) (fun _ _ _ h => h) (by rfl) (⟨HV76.out, HV46.out, HB6.out⟩) (fun W _ => run_nes_op W (.tmp 39) (.tmp 42) rfl _ _ _ _ rfl rfl false HBB.out) ?_
            (try simp only [Act.put, List.setIfInBounds_toArray, List.set_cons_zero, List.set_cons_succ])
            refine anyH_take (i := 6) (some 44) (v := _) rfl rfl (by kernel_rfl) (by kernel_rfl) (by kernel_rfl) (fun _ _ _ h => h) (by rfl) (⟨HV76.out, HV46.out, HB6.out⟩) (by intro w hSw; go_simp; try with_reducible rfl) ?_
            (try simp only [Act.put, List.setIfInBounds_toArray, List.set_cons_zero, List.set_cons_succ])
            refine anyH_skip (i := 7) (some 45) rfl rfl (by kernel_rfl) (by kernel_rfl) (by kernel_rfl) (fun _ _ _ h => h) (by rfl) (⟨HV76.out, HV46.out, HB6.out⟩) ?_
            (try simp only [Act.put, List.setIfInBounds_toArray, List.set_cons_zero, List.set_cons_succ])
            refine anyH_skip (i := 8) (some 46) rfl rfl (by kernel_rfl) (by kernel_rfl) (by kernel_rfl) (fun _ _ _ h => h) (by rfl) (⟨HV76.out, HV46.out, HB6.out⟩) ?_
            (try simp only [Act.put, List.setIfInBounds_toArray, List.set_cons_zero, List.set_cons_succ])
            refine anyH_skip (i := 9) (some 47) rfl rfl (by kernel_rfl) (by kernel_rfl) (by kernel_rfl) (fun _ _ _ h => h) (by rfl) (⟨HV76.out, HV46.out, HB6.out⟩) ?_
            (try simp only [Act.put, List.setIfInBounds_toArray, List.set_cons_zero, List.set_cons_succ])
            refine anyH_skip (i := 10) (some 48) rfl rfl (by kernel_rfl) (by kernel_rfl) (by kernel_rfl) (fun _ _ _ h => h) (by rfl) (⟨HV76.out, HV46.out, HB6.out⟩) ?_
            (try simp only [Act.put, List.setIfInBounds_toArray, List.set_cons_zero, List.set_cons_succ])
            refine anyH_skip (i := 11) (some 49) rfl rfl (by kernel_rfl) (by kernel_rfl) (by kernel_rfl) (fun _ _ _ h => h) (by rfl) (⟨HV76.out, HV46.out, HB6.out⟩) ?_
            (try simp only [Act.put, List.setIfInBounds_toArray, List.set_cons_zero, List.set_cons_succ])
            refine anyH_skip (i := 12) (some 50) rfl rfl (by kernel_rfl) (by kernel_rfl) (by kernel_rfl) (fun _ _ _ h => h) (by rfl) (⟨HV76.out, HV46.out, HB6.out⟩) ?_
            (try simp only [Act.put, List.setIfInBounds_toArray, List.set_cons_zero, List.set_cons_succ])
            refine anyH_skip (i := 13) (some 51) rfl rfl (by kernel_rfl) (by kernel_rfl) (by kernel_rfl) (fun _ _ _ h => h) (by rfl) (⟨HV76.out, HV46.out, HB6.out⟩) ?_
            (try simp only [Act.put, List.setIfInBounds_toArray, List.set_cons_zero, List.set_cons_succ])
            refine anyH_skip (i := 14) (some 52) rfl rfl (by kernel_rfl) (by kernel_rfl) (by kernel_rfl) (fun _ _ _ h => h) (by rfl) (⟨HV76.out, HV46.out, HB6.out⟩) ?_
            (try simp only [Act.put, List.setIfInBounds_toArray, List.set_cons_zero, List.set_cons_succ])
            refine anyH_take (i := 15) (some 53) (v := _) rfl rfl (by kernel_rfl) (by kernel_rfl) (by kernel_rfl) (fun _ _ _ h => h) (by rfl) (⟨HV76.out, HV46.out, HB6.out⟩) (by intro w hSw; go_simp; try with_reducible rfl) ?_
            (try simp only [Act.put, List.setIfInBounds_toArray, List.set_cons_zero, List.set_cons_succ])
            refine wpAnyH_done (by kernel_rfl) ?_ _
            go_wp2
            go_ret2
            refine .inr ⟨fun ⟨s0, h0, _, h2⟩ => ?_, 17, by decide, rfl, HBw6.out⟩
            rw [HL0.out] at h0
            cases h0
            have h3 := h2 i ⟨tx, px, Lx, Dx⟩ (by rw [List.getElem?_map, HX.out]; rfl)
            rw [List.length_map, ← HN.out] at h3
            obtain ⟨g1, g2, g3⟩ := h3
            simp only at g1 g2 g3
            have h4 := HBB.out
            rw [g1, g2] at h4
            simp at h4
          · obtain ⟨M, hM⟩ : ∃ M : Bool, M = decide (i = k) := ⟨_, rfl⟩
            have e6 : ((i : Int) == (k : Int)) = M := by rw [hM]; by_cases h : i = k; rw [decide_eq_true h]; simp; omega; rw [decide_eq_false h]; simp; omega
            have HM := Lib.hid hM
            clear hM
            refine anyH_take (i := 5) (some 43) (v := _) rfl rfl (by kernel_rfl) (by kernel_rfl) (by kernel_rfl) (fun _ _ _ h => h) (by rfl) (⟨HV76.out, HV46.out, HB6.out⟩) (fun W _ => run_nes_op W (.tmp 39) (.tmp 42) rfl _ _ _ _ rfl rfl true HBB.out) ?_
            (try simp only [Act.put, List.setIfInBounds_toArray, List.set_cons_zero, List.set_cons_succ])
            refine anyH_take (i := 6) (some 44) (v := _) rfl rfl (by kernel_rfl) (by kernel_rfl) (by kernel_rfl) (fun _ _ _ h => h) (by rfl) (⟨HV76.out, HV46.out, HB6.out⟩) (by intro w hSw; go_simp; try with_reducible rfl) ?_
            (try simp only [Act.put, List.setIfInBounds_toArray, List.set_cons_zero, List.set_cons_succ])
            refine anyH_take (i := 7) (some 45) (v := _) rfl rfl (by kernel_rfl) (by kernel_rfl) (by kernel_rfl) (fun _ _ _ h => h) (by rfl) (⟨HV76.out, HV46.out, HB6.out⟩) (by intro w hSw; go_simp; try with_reducible rfl) ?_
            (try simp only [Act.put, List.setIfInBounds_toArray, List.set_cons_zero, List.set_cons_succ])
            refine anyH_take (i := 8) (some 46) (v := _) rfl rfl (by kernel_rfl) (by kernel_rfl) (by kernel_rfl) (fun _ _ _ h => h) (by rfl) (⟨HV76.out, HV46.out, HB6.out⟩) (by intro w hSw; obtain ⟨⟨q0, q1, q2, q3⟩, _⟩ := cells4 hSw.1; go_simp; try with_reducible rfl) ?_
            (try simp only [Act.put, List.setIfInBounds_toArray, List.set_cons_zero, List.set_cons_succ])
            refine anyH_take (i := 9) (some 47) (v := _) rfl rfl (by kernel_rfl) (by kernel_rfl) (by kernel_rfl) (fun _ _ _ h => h) (by rfl) (⟨HV76.out, HV46.out, HB6.out⟩) (by intro w hSw; go_simp; try with_reducible rfl) ?_
            (try simp only [Act.put, List.setIfInBounds_toArray, List.set_cons_zero, List.set_cons_succ])
            refine anyH_take (i := 10) (some 48) (v := _) rfl rfl (by kernel_rfl) (by kernel_rfl) (by kernel_rfl) (fun _ _ _ h => h) (by rfl) (⟨HV76.out, HV46.out, HB6.out⟩) (by intro w hSw; go_simp; try with_reducible rfl) ?_
            (try simp only [Act.put, List.setIfInBounds_toArray, List.set_cons_zero, List.set_cons_succ])
            refine anyH_take (i := 11) (some 49) (v := _) rfl rfl (by kernel_rfl) (by kernel_rfl) (by kernel_rfl) (fun _ _ _ h => h) (by rfl) (⟨HV76.out, HV46.out, HB6.out⟩) (by intro w hSw; go_simp; try with_reducible rfl) ?_
            (try simp only [Act.put, List.setIfInBounds_toArray, List.set_cons_zero, List.set_cons_succ])
            refine anyH_take (i := 12) (some 50) (v := _) rfl rfl (by kernel_rfl) (by kernel_rfl) (by kernel_rfl) (fun _ _ _ h => h) (by rfl) (⟨HV76.out, HV46.out, HB6.out⟩) (by intro w hSw; go_simp; try with_reducible rfl) ?_
            (try simp only [Act.put, List.setIfInBounds_toArray, List.set_cons_zero, List.set_cons_succ])
            refine anyH_take (i := 13) (some 51) (v := _) rfl rfl (by kernel_rfl) (by kernel_rfl) (by kernel_rfl) (fun _ _ _ h => h) (by rfl) (⟨HV76.out, HV46.out, HB6.out⟩) (by intro w hSw; go_simp; try with_reducible rfl) ?_
            (try simp only [Act.put, List.setIfInBounds_toArray, List.set_cons_zero, List.set_cons_succ])
            obtain ⟨E, hE⟩ : ∃ E : Bool, (Lx == M) = E := ⟨_, rfl⟩
            have HE := Lib.hid hE
            refine anyH_take (i := 14) (some 52) (v := _) rfl rfl (by kernel_rfl) (by kernel_rfl) (by kernel_rfl) (fun _ _ _ h => h) (by rfl) (⟨HV76.out, HV46.out, HB6.out⟩) (by intro w hSw; go_simp; try with_reducible rfl) ?_
            (try simp only [Act.put, List.setIfInBounds_toArray, List.set_cons_zero, List.set_cons_succ])
            clear hE
            cases E
            · refine anyH_take (i := 15) (some 53) (v := _) rfl rfl (by kernel_rfl) (by kernel_rfl) (by kernel_rfl) (fun _ _ _ h => h) (by rfl) (⟨HV76.out, HV46.out, HB6.out⟩) (by intro w hSw; go_simp; try with_reducible rfl) ?_
              (try simp only [Act.put, List.setIfInBounds_toArray, List.set_cons_zero, List.set_cons_succ])
              refine wpAnyH_done (by kernel_rfl) ?_ _
              go_wp2
              go_ret2
              refine .inr ⟨fun ⟨s0, h0, _, h2⟩ => ?_, 17, by decide, rfl, HBw6.out⟩
              rw [HL0.out] at h0
              cases h0
              have h3 := h2 i ⟨tx, px, Lx, Dx⟩ (by rw [List.getElem?_map, HX.out]; rfl)
              rw [List.length_map, ← HN.out] at h3
              obtain ⟨g1, g2, g3⟩ := h3
              simp only at g1 g2 g3
              have h4 := HE.out
              rw [g3, HM.out, HK.out] at h4
              simp at h4
            · refine anyH_take (i := 15) (some 53) (v := _) rfl rfl (by kernel_rfl) (by kernel_rfl) (by kernel_rfl) (fun _ _ _ h => h) (by rfl) (⟨HV76.out, HV46.out, HB6.out⟩) (by intro w hSw; go_simp; try with_reducible rfl) ?_
              (try simp only [Act.put, List.setIfInBounds_toArray, List.set_cons_zero, List.set_cons_succ])
              refine wpAnyH_done (by kernel_rfl) ?_ _
              obtain ⟨⟨_, _, _, j3⟩, _, _, _, _⟩ := cells4 HV76.out
              have hbr6 : Below wr.heap.size wr w6 := HBr5.out.trans (HB6.out.mono HBr5.out.size)
              have HO6 : Hid (w6.ownsRow w.heap.size 5 1 (.slice ab LD.length cb) LD.length (u8s LD)) := Lib.hid (ownsRow_beyond HOW.out hbr6)
              have HX6 : Hid (Lies w6 (.slice ax nx cx) Dx) := Lib.hid (lies_keep HLX.out HBw6.out)
              have hdx : LD.length + Dx.length ≤ 1000000000 := by have h := dataL_take r (i + 1); have h2 := HBIG.out; have h3 := dataL_next HX.out; rw [h3, ← HLD.out, List.length_append] at h; simp only at h; omega
              have HNE4 : Hid ((Value.slice ab LD.length cb).ownBlock ≠ some V4) := Lib.hid (row_ne HV46.out HO6.out (by decide))
              have hBw : w.heap.size ≤ w6.heap.size := HBw6.out.size
              clear hbr6
              go_wp2_with (at_builtin; refine wpList_append_bytes _ rfl _ _ 33 rfl w.heap.size 5 i0 Tryd.underlying33 HI.out.1 HI.out.2.1 HI.out.2.2.1 HI.out.2.2.2 (.slice ab LD.length cb) _ _ rfl HO6.out (.slice ax nx cx) Dx rfl HX6.out (by omega) hBw ?_; intro v8 w8 hown8 hgrow8 _; have HO8 := Lib.hid hown8; have HG8 := Lib.hid hgrow8; obtain ⟨a8, n8, rfl⟩ := own_slice hown8; clear hown8 hgrow8)
              go_roundw
              case rel => exact ⟨i + 1, by omega, by go_num, fun j y hj hy => okNext HOK.out HX.out (okAt_of HBB.out HE.out HM.out HK.out) hj hy, by rw [dataL_next HX.out, ← HLD.out, List.length_append, u8s_append]; exact HO8.out, (HG8.out.block V4 (lt_of_block HV46.out) (fun e => HNE4.out e.symm)).trans HV46.out, HBw6.out.trans ((Only.grown HG8.out).below HBw6.out.size (fun b hb => HO6.out.lt b hb |>.1))⟩
              case measure => simp [intOf]; omega
        · obtain rfl : i = n := by omega
          go_wp2
          go_ret2
          refine .inl ⟨⟨⟨t0, p0, L0, D0⟩, HL0.out, by rw [List.length_map, ← HN.out]; exact HF.out, fun j x hj => ?_⟩, _, rfl, ?_, HB.out⟩
          · rw [List.getElem?_map] at hj
            obtain ⟨y, hy, rfl⟩ := Option.map_eq_some_iff.1 hj
            rw [List.length_map, ← HN.out]
            exact HOK.out j y (by have := (List.getElem?_eq_some_iff.1 hy).1; have := HN.out; omega) hy
          · have e : LD = dataL (r.map Prod.fst) := by rw [HLD.out, List.take_of_length_le (by have := HN.out; omega)]
            rw [← e]
            exact HOW.out
    · rw [decide_eq_false hf]
      have HF := Lib.hid hf
      clear hf
      go_wp2
      go_ret2
      exact .inr ⟨fun ⟨s0, h0, h1, _⟩ => by rw [HL0.out] at h0; cases h0; rw [List.length_map, ← HN.out] at h1; exact HF.out h1, 17, by decide, rfl, (Below.refl _ w).alloc (Nat.le_refl _) _⟩

/-- Join of any sectors -/
theorem stjoin_any {w : World} {v : Value} {r : List (Sec × Value)} (h : SecsAt w v r) (hp : ∀ x ∈ r, x.1.place < 4294967296) (hbig : (dataL (r.map Prod.fst)).length ≤ 1000000000) (hn : r.length ≤ 1000000000) : Calls Tryd.prog 38 #[v] w (Joined w (r.map Prod.fst)) := by
  obtain ⟨a, c, rfl, hc, hd⟩ := h
  by_cases hne : r = []
  · subst hne; exact join_none
  · obtain ⟨b, off, rfl, hc2⟩ := hc hne
    exact join_some hne hc2 hd hp hbig hn
end Go.Proofs.YtngeilhdambgfaaDoor
