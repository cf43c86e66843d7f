/- Unpack, walked: of any bytes. -/
import Derived.Test.YtngeilhdambgfaaDoorStAt
namespace Go.Proofs.YtngeilhdambgfaaDoor
open Go.RowKit

theorem ret_sec {fn : Func} {p u : Tmp} (h : fn.results = #[.cell p 77, .tmp u]) {tmps : Array Value} {w : World} {Q : Nat} {x y z v : Value} (hp : tmps.getD p undef = .pointer (some ⟨Q, 0, none⟩)) (hq : w.heap[Q]? = some (.cells #[x, y, z, v] 77 (0, 0))) :
    (results fn tmps).run Tryd.prog w = .ok (.tuple #[.agg #[x, y, z, v], tmps.getD u undef]) w := by
  have c0 : w.cell? ⟨Q, 0, none⟩ = some x := by rw [cell_of_row w Q 0 _ _ _ hq]; rfl
  have c1 : w.cell? ⟨Q, 1, none⟩ = some y := by rw [cell_of_row w Q 1 _ _ _ hq]; rfl
  have c2 : w.cell? ⟨Q, 2, none⟩ = some z := by rw [cell_of_row w Q 2 _ _ _ hq]; rfl
  have c3 : w.cell? ⟨Q, 3, none⟩ = some v := by rw [cell_of_row w Q 3 _ _ _ hq]; rfl
  rw [results_cell_tmp h, hp]
  go_simp
theorem cells4 {w : World} {P : Nat} {x y z v : Value} {t : TypeId} (h : w.heap[P]? = some (.cells #[x, y, z, v] t (0, 0))) :
    (w.cell? ⟨P, 0, none⟩ = some x ∧ w.cell? ⟨P, 1, none⟩ = some y ∧ w.cell? ⟨P, 2, none⟩ = some z ∧ w.cell? ⟨P, 3, none⟩ = some v) ∧ w.frozen? ⟨P, 0, none⟩ = false ∧ w.frozen? ⟨P, 1, none⟩ = false ∧ w.frozen? ⟨P, 2, none⟩ = false ∧ w.frozen? ⟨P, 3, none⟩ = false :=
  ⟨⟨by simp [World.cell?, h], by simp [World.cell?, h], by simp [World.cell?, h], by simp [World.cell?, h]⟩, by simp [World.frozen?, h], by simp [World.frozen?, h], by simp [World.frozen?, h], by simp [World.frozen?, h]⟩
def set4 (w : World) (P : Nat) (x y z v : Value) : World := (((w.setCell ⟨P, 0, none⟩ x).setCell ⟨P, 1, none⟩ y).setCell ⟨P, 2, none⟩ z).setCell ⟨P, 3, none⟩ v
theorem set4_only (w : World) (P : Nat) (x y z v : Value) : Only (fun k => k = P) w (set4 w P x y z v) :=
  (((Only.setCell (S := fun k => k = P) _ rfl _).trans (Only.setCell (S := fun k => k = P) _ rfl _) (fun _ _ h => h)).trans (Only.setCell (S := fun k => k = P) _ rfl _) (fun _ _ h => h)).trans (Only.setCell (S := fun k => k = P) _ rfl _) (fun _ _ h => h)
theorem set4_at {w : World} {P : Nat} {a b c d : Value} {t : TypeId} (h : w.heap[P]? = some (.cells #[a, b, c, d] t (0, 0))) (x y z v : Value) : (set4 w P x y z v).heap[P]? = some (.cells #[x, y, z, v] t (0, 0)) := by
  have h1 := heap_setCell_same w P 0 _ _ x h
  have h2 := heap_setCell_same _ P 1 _ _ y h1
  have h3 := heap_setCell_same _ P 2 _ _ z h2
  have h4 := heap_setCell_same _ P 3 _ _ v h3
  unfold set4
  rw [h4]; simp
/-- nothing is told: the variable of the call's own -/
def zeroSec : Array Value := #[.int .u32 0, .int .u32 0, .bool false, .slice none 0 0]

/-- what Unpack tells -/
def Unpacked (w : World) (bs : List Nat) (e : Ending) (w' : World) : Prop :=
  ∃ u, e = .returned (.tuple #[secV (stOf bs) u, .int .i64 (unpackE bs)]) ∧ LiesFrom w.heap.size w' u (stOf bs).data ∧ Fits u ∧ Below w.heap.size w w'
theorem unpacked_none {w w' : World} {bs : List Nat} {z : Int} (hz : z ≠ 0) (h : unpackE bs = z) (hb : Below w.heap.size w w') : Unpacked w bs (.returned (.tuple #[.agg #[.int .u32 0, .int .u32 0, .bool false, .slice none 0 0], .int .i64 z])) w' := by
  have e : stOf bs = Sec.none := by unfold stOf; rw [if_neg (by rw [h]; exact hz)]
  exact ⟨.slice none 0 0, by rw [e, h]; rfl, .inl ⟨rfl, by rw [e]; rfl⟩, fits_slice (Nat.le_refl _), hb⟩

set_option maxHeartbeats 1000000 in
theorem unpack_short {w : World} {v : Value} {bs : List Nat} (h : Lies w v bs) (hl : bs.length < 64) : Calls Tryd.prog 37 #[v] w (Unpacked w bs) := by
  obtain ⟨a, c, rfl⟩ := lies_len h
  have t1 : decide ((bs.length : Int) < 64) = true := by simp; omega
  have hE : unpackE bs = 4 := by unfold unpackE; rw [if_pos hl]
  have HE := Lib.hid hE
  clear h hl hE
  go_enter Tryd.func37, Tryd.ntmps37
  go_wp2
  refine bodyPost_ret (ret_sec (Q := w.heap.size) rfl rfl (heap_alloc_new _ _)) rfl ?_
  exact unpacked_none (by decide) HE.out ((Below.refl _ w).alloc (Nat.le_refl _) _)
set_option maxHeartbeats 1000000 in
theorem unpack_long {w : World} {v : Value} {bs : List Nat} (h : Lies w v bs) (hl : 64 < bs.length) : Calls Tryd.prog 37 #[v] w (Unpacked w bs) := by
  obtain ⟨a, c, rfl⟩ := lies_len h
  have t1 : decide ((bs.length : Int) < 64) = false := by simp; omega
  have t2 : decide ((64 : Int) < bs.length) = true := by simp; omega
  have hE : unpackE bs = 12 := by unfold unpackE; rw [if_neg (by omega), if_pos hl]
  have HE := Lib.hid hE
  clear h hl hE
  go_enter Tryd.func37, Tryd.ntmps37
  go_wp2
  refine bodyPost_ret (ret_sec (Q := w.heap.size) rfl rfl (heap_alloc_new _ _)) rfl ?_
  exact unpacked_none (by decide) HE.out ((Below.refl _ w).alloc (Nat.le_refl _) _)

theorem liesFrom_cut {B : Nat} {w : World} {g off n : Nat} {D : List Nat} (hl : D.length = n) (hB : B ≤ g) (hc : BytesAt w g off D) : LiesFrom B w (.slice (some ⟨g, off, none⟩) n n) D := by
  subst hl
  by_cases h : D = []
  · subst h; exact .inr (.inl ⟨_, _, rfl, rfl⟩)
  · exact .inr (.inr ⟨g, off, _, rfl, by omega, hB, hc, h⟩)
theorem BytesAt.only {S : Nat → Prop} {w w' : World} {g off : Nat} {D : List Nat} (h : BytesAt w g off D) (ho : Only S w w') (hS : ¬ S g) : BytesAt w' g off D := fun j hj => by
  have h1 := h j hj
  rw [← h1]
  exact World.cell?_of_block (w := w) (a := ⟨g, off + j, none⟩) (ho.block g (by have := cell_lt h1; exact this) hS)
theorem unpacked_ok {w W7 : World} {bs : List Nat} {x y m n g : Nat} (hE : unpackE bs = 0) (hst : stampOf bs = (x, y)) (hm : bs.getD 8 0 = m) (hn : bears bs = n) (hrl : (stRowOf bs).length = 47) (hrow : BytesAt W7 g 0 (stRowOf bs)) (hg : w.heap.size < g) (hb : Below w.heap.size w W7) (hn47 : n ≤ 47) {L : Bool} (hL : L = decide (128 ≤ m)) :
    Unpacked w bs (.returned (.tuple #[.agg #[.int .u32 (x : Int), .int .u32 (y : Int), .bool L, .slice (some ⟨g, 0, none⟩) n n], .int .i64 0])) (set4 W7 w.heap.size (.int .u32 (x : Int)) (.int .u32 (y : Int)) (.bool L) (.slice (some ⟨g, 0, none⟩) n n)).drew := by
  have e : stOf bs = ⟨x, y, L, (stRowOf bs).take n⟩ := by unfold stOf; rw [if_pos hE, hst, hm, hn, hL]
  have ho := (set4_only W7 w.heap.size (.int .u32 (x : Int)) (.int .u32 (y : Int)) (.bool L) (.slice (some ⟨g, 0, none⟩) n n)).trans (Only.drew (fun _ => False) _) (fun _ _ h => h.elim)
  refine ⟨.slice (some ⟨g, 0, none⟩) n n, by rw [e, hE]; rfl, ?_, fits_slice (Nat.le_refl _), hb.trans (ho.below hb.size (fun k hk => by omega))⟩
  rw [e]
  exact liesFrom_cut (by rw [List.length_take]; omega) (Nat.le_of_lt hg) ((bytesAt_take n hrow).only ho (fun h => by omega))

set_option maxHeartbeats 4000000 in
theorem unpack_whole {w : World} {v : Value} {bs : List Nat} (h : Lies w v bs) (hb : ∀ x ∈ bs, x < 256) (hl : bs.length = 64) : Calls Tryd.prog 37 #[v] w (Unpacked w bs) := by
  obtain ⟨a, c, rfl⟩ := lies_len h
  have H := Lib.hid h
  have HB := Lib.hid hb
  have HL := Lib.hid hl
  rw [hl]
  clear h hb hl
  go_enter Tryd.func37, Tryd.ntmps37
  go_wp2_with fail
  refine calls_name fun W0 hW0 => ?_
  have HV0 : Hid (W0.heap[w.heap.size]? = some (.cells #[.int .u32 0, .int .u32 0, .bool false, .slice none 0 0] 77 (0, 0))) := Lib.hid (by rw [hW0]; exact heap_alloc_new _ _)
  have HB0 : Hid (Below w.heap.size w W0) := Lib.hid (by rw [hW0]; exact (Below.refl _ w).alloc (Nat.le_refl _) _)
  have HS0 : Hid (w.heap.size < W0.heap.size) := Lib.hid (lt_of_block HV0.out)
  clear hW0
  refine (oread_any (bs := bs) (by have h := lies_keep H.out HB0.out; rw [HL.out] at h; exact h) (by rw [HL.out]; omega)).mono ?_
  rintro e w1 ⟨R, rfl, hr1, hb1⟩
  have HR1 := Lib.hid hr1
  have HB1 := Lib.hid hb1
  clear hr1 hb1
  go_wp2_with fail
  refine (readStamp_any HR1.out (by rw [HL.out]; omega) HB.out (by rw [HL.out]; omega)).mono ?_
  obtain ⟨x, hx⟩ : ∃ x, x = (stampOf bs).1 := ⟨_, rfl⟩
  obtain ⟨y, hy⟩ : ∃ y, y = (stampOf bs).2 := ⟨_, rfl⟩
  rw [← hx, ← hy]
  unfold stampV
  have HX := Lib.hid hx
  have HY := Lib.hid hy
  clear hx hy
  rintro e w2 ⟨rfl, hr2, ho2⟩
  have HR2 := Lib.hid hr2
  have HB2 : Hid (Below W0.heap.size W0 w2) := Lib.hid (HB1.out.trans ((ho2.below HB1.out.size (fun k hk => hk ▸ HR1.out.1))))
  clear hr2 ho2
  go_wp2_with fail
  obtain ⟨V5, hV5⟩ : ∃ V, V = w2.heap.size := ⟨_, rfl⟩
  rw [← hV5]
  have HS5 := Lib.hid hV5
  refine calls_name fun W3 hW3 => ?_
  have HV3 : Hid (W3.heap[V5]? = some (.cells #[.int .u32 x, .int .u32 y] 75 (0, 0))) := Lib.hid (by rw [hW3, hV5]; exact heap_alloc_new _ _)
  have HBa : Hid (Below w2.heap.size w2 W3) := Lib.hid (by rw [hW3]; exact (Below.refl _ w2).alloc (Nat.le_refl _) _)
  have HB3 : Hid (Below W0.heap.size W0 W3) := Lib.hid (HB2.out.trans (HBa.out.mono HB2.out.size))
  have HR3 : Hid (OReaderAt W0.heap.size W3 R (bs.drop 8)) := Lib.hid (HR2.out.beyond HBa.out)
  have HRV : Hid (R < V5) := Lib.hid (by rw [hV5]; exact HR2.out.lt)
  clear hV5 hW3
  refine (onum_ok (n := 1) HR3.out (by unfold Wide; omega) (by rw [List.length_drop, HL.out]; omega) (drop_small 8 HB.out) (by rw [List.length_drop, HL.out]; omega)).mono ?_
  rw [List.drop_drop]
  obtain ⟨m, hm⟩ : ∃ m, m = valB ((bs.drop 8).take 1) := ⟨_, rfl⟩
  rw [← hm]
  have HM := Lib.hid hm
  clear hm
  rintro e w4 ⟨rfl, hr4, ho4⟩
  have HR4 := Lib.hid hr4
  have HB4 : Hid (Below W0.heap.size W0 w4) := Lib.hid (HB3.out.trans ((ho4.below HB3.out.size (fun k hk => hk ▸ HR1.out.1))))
  have HV4 : Hid (w4.heap[V5]? = some (.cells #[.int .u32 x, .int .u32 y] 75 (0, 0))) := Lib.hid ((ho4.block V5 (lt_of_block HV3.out) (by have := HRV.out; omega)).trans HV3.out)
  clear hr4 ho4
  go_wp2_with fail
  refine (oraw_ok (n := 47) HR4.out (by rw [List.length_drop, HL.out]; omega) (by rw [List.length_drop, HL.out]; omega)).mono ?_
  rw [List.drop_drop]
  rintro e w5 ⟨v5, rfl, hown, hr5, ho5⟩
  have HR5 := Lib.hid hr5
  have HB5 : Hid (Below W0.heap.size W0 w5) := Lib.hid (HB4.out.trans ((ho5.below HB4.out.size (fun k hk => hk ▸ HR1.out.1))))
  have HV5 : Hid (w5.heap[V5]? = some (.cells #[.int .u32 x, .int .u32 y] 75 (0, 0))) := Lib.hid ((ho5.block V5 (lt_of_block HV4.out) (by have := HRV.out; omega)).trans HV4.out)
  obtain ⟨g, cap, cur, rfl, hBg, hg, hnc, hcm, hcs, htk⟩ : ∃ g cap cur, v5 = .slice (some ⟨g, 0, none⟩) 47 cap ∧ w4.heap.size ≤ g ∧ w5.heap[g]? = some (.cells cur 5 (0, 0)) ∧ 47 ≤ cap ∧ cap ≤ maxLen ∧ cur.size = cap * 1 ∧ cur.toList.take (47 * 1) = u8s ((bs.drop 9).take 47) := by
    rcases hown.2 with ⟨_, h0⟩ | h
    · omega
    · exact h
  have HG : Hid (Arr w5 g 5 cur.toList) := Lib.hid (by unfold Arr; simpa using hg)
  have HT := Lib.hid htk
  have HGV : Hid (V5 < g) := Lib.hid (Nat.lt_of_lt_of_le (lt_of_block HV4.out) hBg)
  have HGR : Hid (R < g) := Lib.hid (Nat.lt_of_lt_of_le HR4.out.lt hBg)
  have HBG : Hid (W0.heap.size ≤ g) := Lib.hid (Nat.le_trans HB4.out.size hBg)
  clear hr5 ho5 hown hBg hg hcm hcs htk
  go_wp2_with fail
  refine (readStamp_any HR5.out (by rw [List.length_drop, HL.out]; omega) (drop_small _ HB.out) (by rw [List.length_drop, HL.out]; omega)).mono ?_
  obtain ⟨x', hx⟩ : ∃ x, x = (stampOf (bs.drop 56)).1 := ⟨_, rfl⟩
  obtain ⟨y', hy⟩ : ∃ y, y = (stampOf (bs.drop 56)).2 := ⟨_, rfl⟩
  rw [show 8 + 1 + 47 = 56 from rfl, ← hx, ← hy]
  unfold stampV
  have HX' := Lib.hid hx
  have HY' := Lib.hid hy
  clear hx hy
  rintro e w6 ⟨rfl, hr6, ho6⟩
  have HB6 : Hid (Below W0.heap.size W0 w6) := Lib.hid (HB5.out.trans ((ho6.below HB5.out.size (fun k hk => hk ▸ HR1.out.1))))
  have HV6 : Hid (w6.heap[V5]? = some (.cells #[.int .u32 x, .int .u32 y] 75 (0, 0))) := Lib.hid ((ho6.block V5 (lt_of_block HV5.out) (by have := HRV.out; omega)).trans HV5.out)
  have HG6 : Hid (Arr w6 g 5 cur.toList) := Lib.hid (HG.out.only ho6 (by have := HGR.out; omega))
  clear hr6 ho6
  obtain ⟨n, hn⟩ : ∃ n, n = m % 128 := ⟨_, rfl⟩
  have e1 : (m : Int) % 128 = (n : Int) := by omega
  have e3 : IntKind.i64.wrap (n : Int) = n := by rw [IntKind.wrap_i64]; omega
  have e4 : IntKind.u64.wrap (n : Int) = n := by rw [IntKind.wrap_u64]; omega
  have hn128 : n < 128 := by omega
  have HN := Lib.hid hn
  clear hn
  go_wp2_with fail
  obtain ⟨V8, hV8⟩ : ∃ V, V = w6.heap.size := ⟨_, rfl⟩
  rw [← hV8]
  refine calls_name fun W7 hW7 => ?_
  have hBa : Below w6.heap.size w6 W7 := by rw [hW7]; exact (Below.refl _ w6).alloc (Nat.le_refl _) _
  have hv8 : W7.heap[V8]? = some (.cells #[.int .u32 x', .int .u32 y'] 75 (0, 0)) := by rw [hW7, hV8]; exact heap_alloc_new _ _
  have hv5 : W7.heap[V5]? = some (.cells #[.int .u32 x, .int .u32 y] 75 (0, 0)) := (hBa.block V5 (lt_of_block HV6.out)).trans HV6.out
  have HB7 : Hid (Below W0.heap.size W0 W7) := Lib.hid (HB6.out.trans (hBa.mono HB6.out.size))
  have HBw : Hid (Below w.heap.size w W7) := Lib.hid (HB0.out.trans (HB7.out.mono HB0.out.size))
  have hv2 := (HB7.out.block w.heap.size HS0.out).trans HV0.out
  have HV2 := Lib.hid hv2
  have HG7 : Hid (Arr W7 g 5 cur.toList) := Lib.hid ((hBa.block g HG6.out.lt).trans HG6.out)
  obtain ⟨c80, c81, _, _⟩ := cells2 hv8
  obtain ⟨c50, c51, _, _⟩ := cells2 hv5
  obtain ⟨_, f20, f21, f22, f23⟩ := cells4 hv2
  clear hBa hv8 hv5 hW7 hV8 hv2
  have HLI : Hid (Lies W7 (.slice a 64 c) bs) := Lib.hid (by have h := lies_keep H.out HBw.out; rw [HL.out] at h; exact h)
  refine (isZero_any HLI.out HB.out (by rw [HL.out]; omega)).mono ?_
  obtain ⟨z, hz⟩ : ∃ z, z = zeroL bs := ⟨_, rfl⟩
  rw [← hz]
  have HZ := Lib.hid hz
  clear hz
  rintro e w8 ⟨rfl, rfl⟩
  have hno : ∀ zz : Int, zz ≠ 0 → unpackE bs = zz → Unpacked w bs (.returned (.tuple #[.agg #[.int .u32 0, .int .u32 0, .bool false, .slice none 0 0], .int .i64 zz])) (set4 W7 w.heap.size (.int .u32 0) (.int .u32 0) (.bool false) (.slice none 0 0)) := fun zz h1 h2 =>
    unpacked_none h1 h2 (HBw.out.trans ((set4_only W7 w.heap.size _ _ _ _).below (by have := HBw.out.size; omega) (fun k hk => by omega)))
  have HNO := Lib.hid hno
  clear hno
  have h12 : ¬ bs.length < 64 ∧ ¬ 64 < bs.length := by have := HL.out; omega
  have H12 := Lib.hid h12
  clear h12
  cases z
  · have hEz : unpackE bs = if stampOf bs ≠ stampOf (bs.drop 56) then 5 else if (stampOf bs).1 = 0 ∨ 47 < bears bs ∨ zeroL ((stRowOf bs).drop (bears bs)) = false then 2 else 0 := by
      unfold unpackE
      rw [if_neg H12.out.1, if_neg H12.out.2, if_neg (by rw [← HZ.out]; decide)]
    have HEz := Lib.hid hEz
    clear hEz
    have hst : stampOf bs = (x, y) := by rw [HX.out, HY.out]
    have hst' : stampOf (bs.drop 56) = (x', y') := by rw [HX'.out, HY'.out]
    have HST := Lib.hid hst
    have HST' := Lib.hid hst'
    clear hst hst'
    by_cases hxx : x = x'
    · by_cases hyy : y = y'
      · have hbears : bs.getD 8 0 = m ∧ bears bs = n := by
          have h1 : (bs.drop 8).take 1 = [bs.getD 8 0] := by
            have h8 : 8 < bs.length := by rw [HL.out]; omega
            rw [List.drop_eq_getElem_cons h8, List.take_succ_cons, List.take_zero]
            simp [List.getD, h8]
          have h2 : bs.getD 8 0 = m := by rw [HM.out, h1]; simp [valB]
          exact ⟨h2, by unfold bears; rw [h2, HN.out]⟩
        have HBE := Lib.hid hbears
        have hEq : unpackE bs = if x = 0 ∨ 47 < n ∨ zeroL ((stRowOf bs).drop n) = false then 2 else 0 := by
          rw [HEz.out, HST.out, HST'.out, if_neg (by rw [hxx, hyy]; simp), hbears.2]
        have HEQ := Lib.hid hEq
        have t1 : ((x : Int) == (x' : Int)) = true := by simp; omega
        have t2 : ((y : Int) == (y' : Int)) = true := by simp; omega
        clear hEq hxx hyy hbears
        by_cases hx0 : x = 0
        · have hE : unpackE bs = 2 := by rw [HEQ.out, if_pos (.inl hx0)]
          have HE := Lib.hid hE
          have t3 : ((x : Int) == 0) = true := by simp; omega
          clear hE hx0
          go_wp2
          refine bodyPost_ret (ret_sec (Q := w.heap.size) rfl rfl (set4_at HV2.out _ _ _ _)) rfl ?_
          exact HNO.out 2 (by decide) (HE.out)
        · have t3 : ((x : Int) == 0) = false := by simp; omega
          by_cases hn47 : 47 < n
          · have hE : unpackE bs = 2 := by rw [HEQ.out, if_pos (.inr (.inl hn47))]
            have HE := Lib.hid hE
            have t4 : decide ((47 : Int) < (n : Int)) = true := by simp; omega
            clear hE hx0 hn47
            go_wp2
            refine bodyPost_ret (ret_sec (Q := w.heap.size) rfl rfl (set4_at HV2.out _ _ _ _)) rfl ?_
            exact HNO.out 2 (by decide) (HE.out)
          · have t4 : decide ((47 : Int) < (n : Int)) = false := by simp; omega
            have hn : n ≤ 47 := by omega
            have hnI : (n : Int) ≤ 47 := by omega
            have HX0 := Lib.hid hx0
            have hrl : (stRowOf bs).length = 47 := by unfold stRowOf; rw [List.length_take, List.length_drop, HL.out]; omega
            have hrow : BytesAt W7 g 0 (stRowOf bs) := fun j hj => by
              rw [hrl] at hj
              rw [Nat.zero_add]
              refine HG7.out.cell ?_
              have h1 : (cur.toList.take (47 * 1))[j]? = (u8s (stRowOf bs))[j]? := by rw [HT.out]; rfl
              rw [List.getElem?_take_of_lt (by omega)] at h1
              rw [h1]
              exact u8s_getD (stRowOf bs) j (by rw [hrl]; exact hj)
            have HRL := Lib.hid hrl
            have HROW := Lib.hid hrow
            have HRB : Hid (∀ x ∈ (stRowOf bs).drop n, x < 256) := Lib.hid fun x hx => HB.out x (List.mem_of_mem_drop (List.mem_of_mem_take (List.mem_of_mem_drop hx)))
            clear hx0 hn47 hrl hrow
            have hfin : unpackE bs = 0 → ∀ L, L = decide (128 ≤ m) → Unpacked w bs (.returned (.tuple #[.agg #[.int .u32 (x : Int), .int .u32 (y : Int), .bool L, .slice (some ⟨g, 0, none⟩) n n], .int .i64 0])) (set4 W7 w.heap.size (.int .u32 (x : Int)) (.int .u32 (y : Int)) (.bool L) (.slice (some ⟨g, 0, none⟩) n n)).drew := fun hE L hL =>
              unpacked_ok hE HST.out HBE.out.1 HBE.out.2 HRL.out HROW.out (Nat.lt_of_lt_of_le HS0.out HBG.out) HBw.out hn hL
            have HFIN := Lib.hid hfin
            clear hfin
            by_cases hcn : cap = n
            · go_wp2_with fail
              refine (isZero_any (bs := (stRowOf bs).drop n) (.inr (.inl ⟨⟨g, 0, none⟩, 0, by rw [show 47 - n = 0 by omega], List.drop_eq_nil_of_le (by rw [HRL.out]; omega)⟩)) HRB.out (by rw [List.length_drop, HRL.out]; omega)).mono ?_
              obtain ⟨q, hq⟩ : ∃ q, q = zeroL ((stRowOf bs).drop n) := ⟨_, rfl⟩
              rw [← hq]
              have HQ := Lib.hid hq
              clear hq
              rintro e w9 ⟨rfl, rfl⟩
              cases q
              · have hE : unpackE bs = 2 := by rw [HEQ.out, if_pos (.inr (.inr HQ.out.symm))]
                have HE := Lib.hid hE
                clear hE
                go_wp2
                refine bodyPost_ret (ret_sec (Q := w.heap.size) rfl rfl (set4_at HV2.out _ _ _ _)) rfl ?_
                exact HNO.out 2 (by decide) (HE.out)
              · have hE : unpackE bs = 0 := by
                  rw [HEQ.out, if_neg]
                  rintro (h | h | h)
                  · exact HX0.out h
                  · omega
                  · rw [← HQ.out] at h; cases h
                have HE := Lib.hid hE
                clear hE
                obtain ⟨L, hL⟩ : ∃ L, L = decide (128 ≤ m) := ⟨_, rfl⟩
                have t5 : decide ((128 : Int) ≤ (m : Int)) = L := by rw [hL]; exact decide_eq_decide.2 (by omega)
                have HLS := Lib.hid hL
                have hnc2 : (n : Int) ≤ n := by omega
                clear hL
                go_wp2_with fail
                go_region
                go_wp2
                refine bodyPost_ret (ret_sec (Q := w.heap.size) rfl rfl (set4_at HV2.out _ _ _ _)) rfl ?_
                exact HFIN.out HE.out L HLS.out
            · go_wp2_with fail
              refine (isZero_any (bs := (stRowOf bs).drop n) (by
                by_cases h47 : n = 47
                · refine .inr (.inl ⟨⟨g, n, none⟩, cap - n, by rw [h47], List.drop_eq_nil_of_le (by rw [HRL.out]; omega)⟩)
                · refine .inr (.inr ⟨g, n, cap - n, by rw [List.length_drop, HRL.out], ?_⟩)
                  have h := bytesAt_drop n HROW.out
                  rwa [Nat.zero_add] at h) HRB.out (by rw [List.length_drop, HRL.out]; omega)).mono ?_
              obtain ⟨q, hq⟩ : ∃ q, q = zeroL ((stRowOf bs).drop n) := ⟨_, rfl⟩
              rw [← hq]
              have HQ := Lib.hid hq
              clear hq
              rintro e w9 ⟨rfl, rfl⟩
              cases q
              · have hE : unpackE bs = 2 := by rw [HEQ.out, if_pos (.inr (.inr HQ.out.symm))]
                have HE := Lib.hid hE
                clear hE
                go_wp2
                refine bodyPost_ret (ret_sec (Q := w.heap.size) rfl rfl (set4_at HV2.out _ _ _ _)) rfl ?_
                exact HNO.out 2 (by decide) (HE.out)
              · have hE : unpackE bs = 0 := by
                  rw [HEQ.out, if_neg]
                  rintro (h | h | h)
                  · exact HX0.out h
                  · omega
                  · rw [← HQ.out] at h; cases h
                have HE := Lib.hid hE
                clear hE
                obtain ⟨L, hL⟩ : ∃ L, L = decide (128 ≤ m) := ⟨_, rfl⟩
                have t5 : decide ((128 : Int) ≤ (m : Int)) = L := by rw [hL]; exact decide_eq_decide.2 (by omega)
                have HLS := Lib.hid hL
                have hnc2 : (n : Int) ≤ cap := by omega
                clear hL
                go_wp2_with fail
                go_region
                go_wp2
                refine bodyPost_ret (ret_sec (Q := w.heap.size) rfl rfl (set4_at HV2.out _ _ _ _)) rfl ?_
                exact HFIN.out HE.out L HLS.out
      · have hE : unpackE bs = 5 := by rw [HEz.out, HST.out, HST'.out, if_pos (by intro h; exact hyy (Prod.mk.inj h).2)]
        have HE := Lib.hid hE
        have t1 : ((x : Int) == (x' : Int)) = true := by simp; omega
        have t2 : ((y : Int) == (y' : Int)) = false := by simp; omega
        clear hE hxx hyy
        go_wp2
        refine bodyPost_ret (ret_sec (Q := w.heap.size) rfl rfl (set4_at HV2.out _ _ _ _)) rfl ?_
        exact HNO.out 5 (by decide) (HE.out)
    · have hE : unpackE bs = 5 := by rw [HEz.out, HST.out, HST'.out, if_pos (by intro h; exact hxx (Prod.mk.inj h).1)]
      have HE := Lib.hid hE
      have t1 : ((x : Int) == (x' : Int)) = false := by simp; omega
      clear hE hxx
      go_wp2
      refine bodyPost_ret (ret_sec (Q := w.heap.size) rfl rfl (set4_at HV2.out _ _ _ _)) rfl ?_
      exact HNO.out 5 (by decide) (HE.out)
  · have hE : unpackE bs = 7 := by unfold unpackE; rw [if_neg H12.out.1, if_neg H12.out.2, if_pos HZ.out.symm]
    have HE := Lib.hid hE
    clear hE
    go_wp2
    refine bodyPost_ret (ret_sec (Q := w.heap.size) rfl rfl (set4_at HV2.out _ _ _ _)) rfl ?_
    exact HNO.out 7 (by decide) (HE.out)
/-- Unpack of any bytes -/
theorem unpack_any {w : World} {v : Value} {bs : List Nat} (h : Lies w v bs) (hb : ∀ x ∈ bs, x < 256) : Calls Tryd.prog 37 #[v] w (Unpacked w bs) := by
  rcases Nat.lt_trichotomy bs.length 64 with h1 | h1 | h1
  · exact unpack_short h h1
  · exact unpack_whole h hb h1
  · exact unpack_long h h1
end Go.Proofs.YtngeilhdambgfaaDoor
