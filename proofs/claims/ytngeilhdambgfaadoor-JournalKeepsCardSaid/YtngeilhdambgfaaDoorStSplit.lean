/- Split, walked. -/
import Derived.Test.YtngeilhdambgfaaDoorStRow
namespace Go.Proofs.YtngeilhdambgfaaDoor
open Go.RowKit

/-- what Split tells, where it does -/
def Splitted (w : World) (t p : Nat) (D : List Nat) (e : Ending) (w' : World) : Prop :=
  (splitE t p D.length ≠ 0 ∧ e = .returned (.tuple #[.slice none 0 0, .int .i64 (splitE t p D.length)]) ∧ Below w.heap.size w w') ∨
  (splitE t p D.length = 0 ∧ ∃ (g : Nat) (r : List (Sec × Value)), e = .returned (.tuple #[.slice (some ⟨g, 0, none⟩) r.length r.length, .int .i64 0]) ∧ r.map Prod.fst = splitS t p D ∧ w.heap.size ≤ g ∧ Arr w' g 77 (rowC r) ∧ (∀ x ∈ r, LiesFrom w.heap.size w' x.2 x.1.data ∧ Fits x.2) ∧ Below w.heap.size w w')

set_option maxHeartbeats 1000000 in
theorem split_turn {w : World} {v : Value} {p : Int} {D : List Nat} {p' : Nat} : Calls Tryd.prog 33 #[.int .u32 0, .int .u32 p, v] w (Splitted w 0 p' D) := by
  go_enter Tryd.func33, Tryd.ntmps33
  go_wp2
  go_ret2
  exact .inl ⟨by unfold splitE; simp, rfl, Below.refl _ _⟩

theorem built_sec (t p : Nat) (L : Bool) (u : Value) (hu : u.cells = #[u]) : Tryd.prog.built 77 [(0, .agg #[.int .u32 (t : Int), .int .u32 (p : Int)]), (1, .bool L), (2, u)] = some (secC (⟨t, p, L, []⟩, u)).toArray := by
  have h : ∀ ps, Tryd.prog.built 77 ps = Instr.fill (#[((0 : Nat), (2 : Nat)), (2, 1), (3, 1)][·]?) (secC noneU).toArray ps := by intro ps; kernel_rfl
  rw [h, fill_next _ _ 0 0 2 _ [.int .u32 (t : Int), .int .u32 (p : Int)] _ rfl rfl rfl (by simp [secC]), fill_next _ _ 1 2 1 _ [.bool L] _ rfl rfl rfl (by simp [secC, splice]), fill_last _ _ 2 3 1 _ [u] rfl hu rfl (by simp [secC, splice])]
  simp [splice, secC, noneU]
theorem only_stRow (w : World) {G : Nat} (cs : Array Value) : Only (fun b => b = G) w (w.setRow G cs) := ⟨rfl, rfl, rfl, by simp, fun k _ hs => setRow_other w _ _ _ hs⟩
theorem fill_next_row {w : World} {G k : Nat} {R c1 c2 : List Value} {T : TypeId} (h : Arr w G T R) (hc : c1 = c2) : Arr (w.setRow G (splice R (k * 4) c1).toArray) G T (splice R (4 * k) c2) := by
  subst hc
  rw [Nat.mul_comm 4 k]
  exact setRow_heap _ _ _ _ _ _ h
theorem own_arr {B : Nat} {w : World} {e : TypeId} {s g n : Nat} {xs : List Value} (h : w.ownsRow B e s (.slice (some ⟨g, 0, none⟩) n n) n xs) : Arr w g e xs := by
  rcases h.2 with ⟨hv, _⟩ | ⟨g', cap, cur, hv, _, hg, _, _, hcs, ht⟩
  · cases hv
  · cases hv
    have : cur.toList = xs := by rw [← ht, List.take_of_length_le (by simp at hcs ⊢; omega)]
    unfold Arr; rw [← this]; simpa using hg

theorem LiesFrom.mono {B B' : Nat} {w : World} {v : Value} {bs : List Nat} (h : LiesFrom B w v bs) (hB : B' ≤ B) : LiesFrom B' w v bs := by
  rcases h with h | h | ⟨b, off, cap, h, hl, hb, hc, hne⟩
  · exact .inl h
  · exact .inr (.inl h)
  · exact .inr (.inr ⟨b, off, cap, h, hl, by omega, hc, hne⟩)
theorem splitted_ok {w w' : World} {t p : Nat} {D : List Nat} {n N G B : Nat} {a : Option Addr} {c : Nat} (ht : t ≠ 0) (hf : p + (pieces D.length - 1) ≤ 4294967295) (hn : n = pieces D.length) (hN : N = D.length) (hG : w.heap.size ≤ G)
    (ha : Arr w' G 77 (rowC (fillR t p D a n))) (ho : w'.ownsRow B 5 1 (.slice a N c) N (u8s D)) (hB : w.heap.size ≤ B) (hb : Below w.heap.size w w') :
    Splitted w t p D (.returned (.tuple #[.slice (some ⟨G, 0, none⟩) n n, .int .i64 0])) w' := by
  have hE : splitE t p D.length = 0 := by unfold splitE; rw [if_neg ht, if_pos hf]
  subst hn
  subst hN
  refine .inr ⟨hE, G, fillR t p D a (pieces D.length), by rw [fillR_length], fillR_all t p D a, hG, ha, fun x hx => ?_, hb⟩
  unfold fillR at hx
  obtain ⟨i, hi, rfl⟩ := List.mem_map.1 hx
  have hi := List.mem_range.1 hi
  have hle : 47 * i ≤ min (47 * i + 47) D.length := by unfold pieces at hi; omega
  obtain ⟨a', c', hv, _, hl⟩ := liesFrom_mid ho hle (Nat.min_le_right _ _)
  cases hv
  simp only [if_pos hi]
  have e : (D.drop (47 * i)).take (min (47 * i + 47) D.length - 47 * i) = (D.drop (47 * i)).take 47 := by
    rw [List.take_eq_take_iff, List.length_drop]; omega
  rw [e] at hl
  exact ⟨hl.mono hB, fits_mid (Nat.le_refl _)⟩

set_option maxRecDepth 1000000 in
set_option maxHeartbeats 4000000 in
theorem split_main {w : World} {v : Value} {t p : Nat} {D : List Nat} (h : Lies w v D) (ht : t ≠ 0) (hp : p < 4294967296) (hbig : D.length ≤ 1000000000) :
    Calls Tryd.prog 33 #[.int .u32 (t : Int), .int .u32 (p : Int), v] w (Splitted w t p D) := by
  obtain ⟨a, c, rfl⟩ := lies_len h
  obtain ⟨N, hN⟩ : ∃ N, N = D.length := ⟨_, rfl⟩
  obtain ⟨n, hn⟩ : ∃ n, n = pieces N := ⟨_, rfl⟩
  have hn1 : 1 ≤ n := by rw [hn]; exact pieces_pos N
  have hnN : n ≤ 1000000000 := by rw [hn]; unfold pieces; omega
  have H := Lib.hid h
  have HN := Lib.hid hN
  have HP := Lib.hid hn
  have HT := Lib.hid ht
  have e0 : ((t : Int) == 0) = false := by simp; omega
  have e1 : IntKind.i64.wrap ((N : Int) + 47) = N + 47 := by rw [IntKind.wrap_i64]; omega
  have e2 : IntKind.i64.wrap ((N : Int) + 47 - 1) = N + 46 := by rw [IntKind.wrap_i64]; omega
  have e3 : max (1 : Int) (((N : Int) + 46) / 47) = n := by rw [hn]; unfold pieces; omega
  have e4 : (if (1 : Int) < ((N : Int) + 46) / 47 then ((N : Int) + 46) / 47 else 1) = n := by rw [hn]; unfold pieces; split <;> omega
  rw [← hN] at hbig ⊢
  clear h hN ht hn
  go_enter Tryd.func33, Tryd.ntmps33
  go_wp2_with fail
  refine (fits_any hp hn1 (by omega) w).mono ?_
  rintro e w0 ⟨rfl, h0⟩
  subst h0
  by_cases hf : p + (n - 1) ≤ 4294967295
  · rw [decide_eq_true hf]
    have HF := Lib.hid hf
    go_wp2_with fail
    obtain ⟨V9, hV9⟩ : ∃ V, V = w.heap.size := ⟨_, rfl⟩
    rw [← hV9]
    have HVe := Lib.hid hV9
    refine calls_name fun W1 hW1 => ?_
    have HV1 : Hid (W1.heap[V9]? = some (.cells #[.int .u32 t, .int .u32 p] 75 (0, 0))) := Lib.hid (by rw [hW1, hV9]; exact heap_alloc_new _ _)
    have HB1 : Hid (Below w.heap.size w W1) := Lib.hid (by rw [hW1]; exact (Below.refl _ w).alloc (Nat.le_refl _) _)
    clear hV9 hW1
    refine (clone_any (bs := D) (by have h := lies_keep H.out HB1.out; rw [← HN.out] at h; exact h) (by rw [← HN.out]; exact hbig)).mono ?_
    rw [← HN.out]
    rintro e w2 ⟨v2, rfl, hown, hb2⟩
    have HO2 := Lib.hid hown
    have HB2 : Hid (Below w.heap.size w w2) := Lib.hid (HB1.out.trans (hb2.mono HB1.out.size))
    have HV2 : Hid (w2.heap[V9]? = some (.cells #[.int .u32 t, .int .u32 p] 75 (0, 0))) := Lib.hid ((hb2.block V9 (lt_of_block HV1.out)).trans HV1.out)
    obtain ⟨a2, c2, rfl⟩ := own_slice hown
    have hc2 : N ≤ c2 := by have h := own_fits hown; exact h _ _ _ rfl
    clear hown hb2
    obtain ⟨i0, hi0, hi1, hi2, hi3⟩ := info_parts infoSec
    have HI1 := Lib.hid hi0
    have HI2 := Lib.hid hi1
    have HI3 := Lib.hid hi2
    have HI4 : Hid (i0.bytes * n ≤ 281474976710656) := Lib.hid (by rw [hi3]; omega)
    clear hi0 hi1 hi2 hi3
    go_wp2_with (refine wpList_make_full _ rfl (.tmp 32) (.tmp 32) 69 rfl w2.heap.size 77 i0 _ 4 Tryd.underlying69 HI1.out HI2.out HI3.out .i64 .i64 (n : Int) (n : Int) n rfl rfl rfl rfl HI4.out (by unfold maxLen; omega) (Nat.le_refl _) ?_; intro W3 hown3 hgr3)
    obtain ⟨G, hG⟩ : ∃ G, G = w2.heap.size := ⟨_, rfl⟩
    rw [← hG]
    have ha3 : Arr W3 G 77 (rowC (fillR t p D a2 0)) := by
      have h := own_arr hown3
      have e : madeCells (Value.agg (secC (Sec.none, .slice none 0 0)).toArray).cells (n * 4) = madeCells (secC noneU).toArray (n * 4) := rfl
      rw [e, made_secs] at h
      rw [fillR_zero, ← HN.out, ← HP.out, hG]
      exact h
    have HA3 := Lib.hid ha3
    have HB23 : Hid (Below w2.heap.size w2 W3) := Lib.hid ((Only.grown hgr3).below (Nat.le_refl _) (fun k hk => by cases hk))
    have HB3 : Hid (Below w.heap.size w W3) := Lib.hid (HB2.out.trans (HB23.out.mono HB2.out.size))
    have HV3 : Hid (W3.heap[V9]? = some (.cells #[.int .u32 t, .int .u32 p] 75 (0, 0))) := Lib.hid ((HB23.out.block V9 (lt_of_block HV2.out)).trans HV2.out)
    have HO3 : Hid (W3.ownsRow W1.heap.size 5 1 (.slice a2 N c2) N (u8s D)) := Lib.hid (ownsRow_beyond HO2.out HB23.out)
    have HGV : Hid (V9 < G) := Lib.hid (by rw [hG]; exact lt_of_block HV2.out)
    have HGw : Hid (w.heap.size ≤ G) := Lib.hid (by rw [hG]; exact HB2.out.size)
    have HGO : Hid ((Value.slice a2 N c2).ownBlock ≠ some G) := Lib.hid (row_ne ha3 HO3.out (by decide))
    clear hown3 hgr3 ha3 hG e0 e1 e2 e3 e4 hf HI1 HI2 HI3 HI4
    go_loopw [36] (fun c wr => ∃ k : Nat, k ≤ n ∧ c = .int .i64 k ∧ Arr wr G 77 (rowC (fillR t p D a2 k)) ∧ Only (fun b => b = G) W3 wr) (fun c _ => n - (intOf c).toNat)
    case atStart => exact ⟨0, by omega, rfl, HA3.out, Only.refl _ _⟩
    case round =>
      obtain ⟨k, hk, rfl, har, hon⟩ := hrel
      have HAR := Lib.hid har
      have HON := Lib.hid hon
      clear har hon
      have HVr : Hid (wr.heap[V9]? = some (.cells #[.int .u32 t, .int .u32 p] 75 (0, 0))) := Lib.hid ((HON.out.block V9 (lt_of_block HV3.out) (by have := HGV.out; omega)).trans HV3.out)
      by_cases hlt : k < n
      · obtain ⟨lo, hlo⟩ : ∃ x, x = 47 * k := ⟨_, rfl⟩
        obtain ⟨hi, hhi⟩ : ∃ x, x = min (47 * k + 47) N := ⟨_, rfl⟩
        obtain ⟨L, hL⟩ : ∃ L, L = decide (k = n - 1) := ⟨_, rfl⟩
        have hlh : lo ≤ hi ∧ hi ≤ N := by
          have := HP.out; unfold pieces at this
          omega
        have e1 : IntKind.i64.wrap ((k : Int) * 47) = lo := by rw [IntKind.wrap_i64]; omega
        have e2 : IntKind.i64.wrap ((lo : Int) + 47) = lo + 47 := by rw [IntKind.wrap_i64]; omega
        have e3 : min ((lo : Int) + 47) (N : Int) = hi := by omega
        have e4 : (if (N : Int) < (lo : Int) + 47 then (N : Int) else lo + 47) = hi := by split <;> omega
        have e5 : IntKind.i64.wrap ((n : Int) - 1) = n - 1 := by rw [IntKind.wrap_i64]; omega
        have e6 : ((k : Int) == (n : Int) - 1) = L := by
          rw [hL]
          by_cases h : k = n - 1
          · rw [decide_eq_true h]; simp; omega
          · rw [decide_eq_false h]; simp; omega
        have HLO := Lib.hid hlo
        have HHI := Lib.hid hhi
        have HL := Lib.hid hL
        have HLH := Lib.hid hlh
        clear hlo hhi hL hlh
        go_wp2_with fail
        have hpk : p + k < 4294967296 := by have := HF.out; omega
        have HON4 := Lib.hid (on_any (t := t) hpk)
        clear hpk
        obtain ⟨U, hU⟩ : ∃ U, U = midS a2 hi lo hi := ⟨_, rfl⟩
        have HU := Lib.hid hU
        clear hU
        refine wp_region_held_drew (S := fun W => W.heap[V9]? = some (.cells #[.int .u32 t, .int .u32 p] 75 (0, 0)) ∧ Only (fun b => b = G) W3 W) (by kernel_rfl) ⟨HVr.out, HON.out.trans (Only.drew (fun _ => False) wr) (fun _ _ h => h.elim)⟩ (fun _ => ?_)
        refine anyH_take (i := 0) (some 46) (v := _) rfl rfl (by kernel_rfl) (by kernel_rfl) (by kernel_rfl) (fun _ _ _ h => h) (by rfl) (⟨HVr.out, HON.out.trans (Only.drew (fun _ => False) wr) (fun _ _ h => h.elim)⟩) (by intro w hSw; go_simp; try with_reducible rfl) ?_
        (try simp only [Act.put, List.setIfInBounds_toArray, List.set_cons_zero, List.set_cons_succ])
        refine anyH_take (i := 1) (some 47) (v := _) rfl rfl (by kernel_rfl) (by kernel_rfl) (by kernel_rfl) (fun _ _ _ h => h) (by rfl) (⟨HVr.out, HON.out.trans (Only.drew (fun _ => False) wr) (fun _ _ h => h.elim)⟩) (by intro w hSw; go_simp; try with_reducible rfl) ?_
        (try simp only [Act.put, List.setIfInBounds_toArray, List.set_cons_zero, List.set_cons_succ])
        refine anyH_take (i := 2) (some 48) (v := _) rfl rfl (by kernel_rfl) (by kernel_rfl) (by kernel_rfl) (fun _ _ _ h => h) (by rfl) (⟨HVr.out, HON.out.trans (Only.drew (fun _ => False) wr) (fun _ _ h => h.elim)⟩) (by intro w hSw; obtain ⟨q0, q1, _, _⟩ := cells2 hSw.1; go_simp; try with_reducible rfl) ?_
        (try simp only [Act.put, List.setIfInBounds_toArray, List.set_cons_zero, List.set_cons_succ])
        refine anyH_take (i := 3) (some 49) (v := _) rfl rfl (by kernel_rfl) (by kernel_rfl) (by kernel_rfl) (fun _ _ _ h => h) (by rfl) (⟨HVr.out, HON.out.trans (Only.drew (fun _ => False) wr) (fun _ _ h => h.elim)⟩) (by intro w hSw; go_simp; try with_reducible rfl) ?_
        (try simp only [Act.put, List.setIfInBounds_toArray, List.set_cons_zero, List.set_cons_succ])
        refine anyH_take (i := 5) (some 51) (v := _) rfl rfl (by kernel_rfl) (by kernel_rfl) (by kernel_rfl) (fun _ _ _ h => h) (by rfl) (⟨HVr.out, HON.out.trans (Only.drew (fun _ => False) wr) (fun _ _ h => h.elim)⟩) (by intro w hSw; go_simp; try with_reducible rfl) ?_
        (try simp only [Act.put, List.setIfInBounds_toArray, List.set_cons_zero, List.set_cons_succ])
        refine anyH_take (i := 6) (some 52) (v := _) rfl rfl (by kernel_rfl) (by kernel_rfl) (by kernel_rfl) (fun _ _ _ h => h) (by rfl) (⟨HVr.out, HON.out.trans (Only.drew (fun _ => False) wr) (fun _ _ h => h.elim)⟩) (by intro w hSw; go_simp; try with_reducible rfl) ?_
        (try simp only [Act.put, List.setIfInBounds_toArray, List.set_cons_zero, List.set_cons_succ])
        refine anyH_take (i := 7) (some 53) (v := _) rfl rfl (by kernel_rfl) (by kernel_rfl) (by kernel_rfl) (fun _ _ _ h => h) (by rfl) (⟨HVr.out, HON.out.trans (Only.drew (fun _ => False) wr) (fun _ _ h => h.elim)⟩) (by intro w hSw; go_simp; try with_reducible rfl) ?_
        (try simp only [Act.put, List.setIfInBounds_toArray, List.set_cons_zero, List.set_cons_succ])
        refine anyH_take (i := 8) (some 54) (v := _) rfl rfl (by kernel_rfl) (by kernel_rfl) (by kernel_rfl) (fun _ _ _ h => h) (by rfl) (⟨HVr.out, HON.out.trans (Only.drew (fun _ => False) wr) (fun _ _ h => h.elim)⟩) (by intro w hSw; go_simp; try with_reducible rfl) ?_
        (try simp only [Act.put, List.setIfInBounds_toArray, List.set_cons_zero, List.set_cons_succ])
        refine anyH_take (i := 9) (some 55) (v := _) rfl rfl (by kernel_rfl) (by kernel_rfl) (by kernel_rfl) (fun _ _ _ h => h) (by rfl) (⟨HVr.out, HON.out.trans (Only.drew (fun _ => False) wr) (fun _ _ h => h.elim)⟩) (by intro w hSw; go_simp; try with_reducible rfl) ?_
        (try simp only [Act.put, List.setIfInBounds_toArray, List.set_cons_zero, List.set_cons_succ])
        refine anyH_take (i := 10) (some 56) (v := _) rfl rfl (by kernel_rfl) (by kernel_rfl) (by kernel_rfl) (fun _ _ _ h => h) (by rfl) (⟨HVr.out, HON.out.trans (Only.drew (fun _ => False) wr) (fun _ _ h => h.elim)⟩) (by intro w hSw; go_simp; try with_reducible rfl) ?_
        (try simp only [Act.put, List.setIfInBounds_toArray, List.set_cons_zero, List.set_cons_succ])
        refine anyH_take (i := 11) (some 57) (v := _) rfl rfl (by kernel_rfl) (by kernel_rfl) (by kernel_rfl) (fun _ _ _ h => h) (by rfl) (⟨HVr.out, HON.out.trans (Only.drew (fun _ => False) wr) (fun _ _ h => h.elim)⟩) (by intro w hSw; go_simp; try with_reducible rfl) ?_
        (try simp only [Act.put, List.setIfInBounds_toArray, List.set_cons_zero, List.set_cons_succ])
        refine anyH_take (i := 12) (some 58) (v := _) rfl rfl (by kernel_rfl) (by kernel_rfl) (by kernel_rfl) (fun _ _ _ h => h) (by rfl) (⟨HVr.out, HON.out.trans (Only.drew (fun _ => False) wr) (fun _ _ h => h.elim)⟩) (by intro w hSw; go_simp; try with_reducible rfl) ?_
        (try simp only [Act.put, List.setIfInBounds_toArray, List.set_cons_zero, List.set_cons_succ])
        refine anyH_take (i := 13) (some 59) (v := U) rfl rfl (by kernel_rfl) (by kernel_rfl) (by kernel_rfl) (fun _ _ _ h => h) (by rfl) (⟨HVr.out, HON.out.trans (Only.drew (fun _ => False) wr) (fun _ _ h => h.elim)⟩) (fun W _ => by rw [HU.out]; exact run_mid3_op W 33 (.tmp 55) (.tmp 56) (.tmp 57) (.tmp 58) rfl 5 Tryd.underlying33 sizeU8 a2 N c2 lo hi hi rfl rfl rfl rfl HLH.out.1 (Nat.le_refl _) (by have := HLH.out.2; omega)) ?_
        (try simp only [Act.put, List.setIfInBounds_toArray, List.set_cons_zero, List.set_cons_succ])
        refine wpAnyH_ready (rs := [4]) (by kernel_rfl) (by simp) (AllReadyH.cons rfl (fun K hK => ?_) AllReadyH.nil)
        go_simp
        refine (HON4.out _).mono ?_
        rintro e w4 ⟨rfl, hb4⟩
        unfold stampV
        have hb4' : Only (fun b => b = G) wr w4 := only_beyond (below_undrew hb4)
        have HA4 : Hid (Arr w4 G 77 (rowC (fillR t p D a2 k))) := Lib.hid ((below_undrew hb4).block G HAR.out.lt |>.trans HAR.out)
        have HV4 : Hid (w4.heap[V9]? = some (.cells #[.int .u32 t, .int .u32 p] 75 (0, 0))) := Lib.hid (((below_undrew hb4).block V9 (lt_of_block HVr.out)).trans HVr.out)
        have HO4 : Hid (Only (fun b => b = G) W3 w4) := Lib.hid (HON.out.trans hb4' (fun _ _ h => h))
        clear hb4 hb4'
        go_wp2_with fail
        refine hK.out _ _ (⟨HV4.out, HO4.out⟩) (fun _ => ?_)
        clear hK K
        (try simp only [Act.put, List.setIfInBounds_toArray, List.set_cons_zero, List.set_cons_succ])
        refine anyH_take (i := 14) (some 60) (v := _) rfl rfl (by kernel_rfl) (by kernel_rfl) (by kernel_rfl) (fun _ _ _ h => h) (by rfl) (⟨HV4.out, HO4.out⟩) (fun W _ => run_built_op W 77 #[(0, .tmp 50), (1, .tmp 54), (2, .tmp 59)] rfl _ (by simp [Act.eval]) _ (built_sec t (p + k) L U (by rw [HU.out]; rfl))) ?_
        (try simp only [Act.put, List.setIfInBounds_toArray, List.set_cons_zero, List.set_cons_succ])
        refine anyH_take (i := 15) (some 61) (v := _) rfl rfl (by kernel_rfl) (by kernel_rfl) (by kernel_rfl) (fun _ _ _ h => h) (by rfl) (⟨HV4.out, HO4.out⟩) (by intro w hSw; go_simp; try with_reducible rfl) ?_
        (try simp only [Act.put, List.setIfInBounds_toArray, List.set_cons_zero, List.set_cons_succ])
        refine wpAnyH_ready (rs := [16]) (by kernel_rfl) (by simp) (AllReadyH.cons rfl (fun K hK => ?_) AllReadyH.nil)
        refine step_store_part rfl 77 (.tmp 61) (.tmp 60) rfl G (k * 4) (secC (⟨t, p + k, L, []⟩, U)) rfl rfl 77 (rowC (fillR t p D a2 k)) HA4.out (by kernel_rfl) (by rw [rowC_length, fillR_length, ← HN.out, ← HP.out]; show k * 4 + 4 ≤ _; omega) (secC_one _ (by show U.oneCell' = true; rw [HU.out]; rfl)) rfl ?_
        have hsr : Only (fun b => b = G) w4 (w4.setRow G (splice (rowC (fillR t p D a2 k)) (k * 4) (secC (⟨t, p + k, L, []⟩, U))).toArray) := only_stRow w4 _
        have HSR := Lib.hid hsr
        clear hsr
        refine hK.out _ _ (⟨(HSR.out.block V9 (lt_of_block HV4.out) (by have := HGV.out; omega)).trans HV4.out, HO4.out.trans HSR.out (fun _ _ h => h)⟩) (fun _ => ?_)
        clear hK K
        (try simp only [Act.put, List.setIfInBounds_toArray, List.set_cons_zero, List.set_cons_succ])
        refine wpAnyH_done (by kernel_rfl) ?_ _
        go_wp2
        go_roundw
        case rel => exact ⟨k + 1, by omega, by go_num, by rw [← fillR_set, ← rowC_set _ (by rw [fillR_length, ← HN.out, ← HP.out]; exact hlt)]; exact fill_next_row HA4.out (by unfold pieceU pieceS pieceV secC; simp only; rw [HL.out, HU.out, HHI.out, HLO.out, ← HN.out, ← HP.out]), HO4.out.trans HSR.out (fun _ _ h => h)⟩
        case measure => simp [intOf]; omega
      · obtain rfl : k = n := by omega
        go_wp2
        go_ret2
        exact splitted_ok HT.out (by rw [← HN.out, ← HP.out]; exact HF.out) (by rw [← HN.out]; exact HP.out) HN.out HGw.out HAR.out (row_only HO3.out HON.out (fun b hb e => HGO.out (e ▸ hb))) HB1.out.size (HB3.out.trans (HON.out.below HB3.out.size (fun b hb => hb ▸ HGw.out)))
  · rw [decide_eq_false hf]
    have hE : splitE t p D.length = 3 := by unfold splitE; rw [if_neg HT.out, ← HN.out, ← HP.out, if_neg hf]
    have HE := Lib.hid hE
    clear hE hf
    go_wp2
    go_ret2
    exact .inl ⟨by rw [HE.out]; decide, by rw [HE.out]; rfl, Below.refl _ _⟩
theorem split_any {w : World} {v : Value} {t p : Nat} {D : List Nat} (h : Lies w v D) (hp : p < 4294967296) (hbig : D.length ≤ 1000000000) :
    Calls Tryd.prog 33 #[.int .u32 (t : Int), .int .u32 (p : Int), v] w (Splitted w t p D) := by
  by_cases ht : t = 0
  · subst ht; exact split_turn
  · exact split_main h ht hp hbig
end Go.Proofs.YtngeilhdambgfaaDoor
