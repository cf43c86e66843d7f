/- Package mac: the digest of a block, each byte exclusive or another one, and of bytes. -/
import Derived.Test.YtfbnnhailnbmiaaDoorMaKey
import Derived.Test.YtfbnnhailnbmiaaDoorHaParts
namespace Go.Proofs.YtfbnnhailnbmiaaDoor
open Go.RowKit

/-- a block, its first i bytes turned -/
def turnB (x : Nat) (l : List Nat) (i : Nat) : List Nat := xorB x (l.take i) ++ l.drop i
theorem turnB_len (x : Nat) (l : List Nat) (i : Nat) : (turnB x l i).length = l.length := by simp [turnB, xorB_len]; omega
theorem turnB_all {x : Nat} {l : List Nat} {i : Nat} (h : l.length ≤ i) : turnB x l i = xorB x l := by simp [turnB, List.take_of_length_le h, List.drop_of_length_le h]
theorem turnB_at {x : Nat} {l : List Nat} {i : Nat} (h : i < l.length) : (turnB x l i)[i]? = some (l.getD i 0) := by
  rw [turnB, List.getElem?_append_right (by simp [xorB_len]; omega), xorB_len, List.length_take, List.getElem?_drop, show i + (i - min i l.length) = i by omega, List.getElem?_eq_getElem h]
  simp [List.getD, h]
theorem turnB_step {x : Nat} {l : List Nat} {i : Nat} (h : i < l.length) : (turnB x l i).set i (l.getD i 0 ^^^ x) = turnB x l (i + 1) := by
  have e : l.getD i 0 = l[i] := by simp [List.getD, h]
  rw [e, turnB, turnB, List.set_append, if_neg (by simp [xorB_len]; omega), xorB_len, List.length_take, show i - min i l.length = 0 by omega, List.drop_eq_getElem_cons h, List.set_cons_zero]
  rw [List.take_succ_eq_append_getElem h, xorB, xorB, List.map_append, List.append_assoc]
  rfl
theorem u8s_set (l : List Nat) (i x : Nat) : (u8s l).set i (.int .u8 (x : Int)) = u8s (l.set i x) := by simp [u8s, List.map_set]
theorem u8s_some {l : List Nat} {i x : Nat} (h : l[i]? = some x) : (u8s l)[i]? = some (.int .u8 (x : Int)) := by rw [u8s_get, h]; rfl
theorem arr_bytes {w : World} {P : Nat} {t : TypeId} {l : List Nat} (h : Arr w P t (u8s l)) : BytesAt w P 0 l := fun j hj => by
  rw [Nat.zero_add]
  exact h.cell (u8s_getD l j hj)

set_option maxHeartbeats 8000000 in
set_option maxRecDepth 1000000 in
theorem mdig_any {w : World} {v : Value} {blk bs : List Nat} {x : Nat} (hv : Lies w v bs) (hf : Fits v) (hb : ∀ y ∈ bs, y < 256) (hn : bs.length < 100000000) (hx : x < 256) (hl : blk.length = 64) (hbl : ∀ y ∈ blk, y < 256) (htab : Tabs w) :
    Calls Tryd.prog 14 #[.agg (u8s blk).toArray, .int .u8 (x : Int), v] w fun e w' => e = .returned (.agg (u8s (digest (xorB x blk ++ bs))).toArray) ∧ Below w.heap.size w w' := by
  obtain ⟨L, hL⟩ : ∃ L, L = u8s (digest (xorB x blk ++ bs)) := ⟨_, rfl⟩
  have hLz : L.toArray.size = 32 := by rw [hL]; simp [u8s_length, dig_len]
  rw [← hL]
  have HI32 : Hid ((Tryd.prog.info? 25).map (·.size) = some L.toArray.size) := Lib.hid (by rw [hLz]; kernel_rfl)
  have HAL32 : Hid (L.toArray.all (·.oneCell') = true) := Lib.hid (by rw [hL]; exact all_one (u8s_one _))
  have HSZ32 : Hid ((u8s (List.replicate 32 0)).toArray.size = L.toArray.size) := Lib.hid (by rw [hLz]; rfl)
  have HSUM : Hid (∀ W P, St W P (xorB x blk ++ bs) → Tabs W → Calls Tryd.prog 23 #[.pointer (some ⟨P, 0, none⟩)] W fun e w' => e = .returned (.agg L.toArray) ∧ Below W.heap.size W w') := Lib.hid fun W P h1 h2 => by rw [hL]; exact sum_any h1 (by rw [List.length_append, xorB_len]; omega) h2
  have HV := Lib.hid hv
  have HF := Lib.hid hf
  have HB := Lib.hid hb
  have HT := Lib.hid htab
  have HN := Lib.hid hn
  have HLB := Lib.hid hl
  have HBL := Lib.hid hbl
  have HBOX := (u8s blk).toArray
  obtain ⟨Z, hZ⟩ : ∃ Z, Z = u8s blk := ⟨_, rfl⟩
  have HZ := Lib.hid hZ
  rw [← hZ]
  clear hL hLz hv hf hb htab hn hl hbl hZ HBOX
  go_enter Tryd.func14, Tryd.ntmps14
  repeat (first | (refine wpList_box_agg rfl 34 (.tmp 0) rfl Z.toArray rfl ?_) | (refine wpList_alloc_zero rfl 25 rfl (u8s (List.replicate 32 0)) (by kernel_rfl) ?_; refine wpList_name ?_; intro W1 hW1; have HA1 := Lib.hid (show Arr W1 w.heap.size 34 (u8s (turnB x blk 0)) by rw [hW1.out]; have h := (arr_new w 34 Z).alloc (.cells (u8s (List.replicate 32 0)).toArray 25); rw [HZ.out] at h ⊢; exact h); have HR1 := Lib.hid (show Arr W1 (w.heap.size + 1) 25 (u8s (List.replicate 32 0)) by rw [hW1.out]; have h := arr_new (w.alloc (.cells Z.toArray 34)) 25 (u8s (List.replicate 32 0)); simpa using h); have HB1 := Lib.hid (show Below w.heap.size w W1 by rw [hW1.out]; exact ((Below.refl _ _).alloc (Nat.le_refl _) _).alloc (by simp) _); clear hW1) | go_values | go_skip | go_guarded | go_step | go_upon)
  go_loopw [9] (fun c wr => ∃ i : Nat, i ≤ 64 ∧ c = .int .i64 i ∧ Arr wr w.heap.size 34 (u8s (turnB x blk i)) ∧ Only (fun k => k = w.heap.size) W1 wr) (fun c _ => 64 - (intOf c).toNat)
  case atStart => exact ⟨0, by omega, rfl, HA1.out, Only.refl _ _⟩
  case round =>
    obtain ⟨i, hi, rfl, ha, ho⟩ := hrel
    have HAi := Lib.hid ha
    have HO := Lib.hid ho
    clear ha ho HA1
    by_cases hlt : i < 64
    · have t3 : decide ((i : Int) < 64) = true := by simp only [decide_eq_true_eq]; omega
      have hti : (i : Int) < 64 := by omega
      obtain ⟨y, hy⟩ : ∃ y, y = blk.getD i 0 := ⟨_, rfl⟩
      have hy256 : y < 256 := by rw [hy]; exact getD_byte HBL.out i
      have d1 := HAi.out.cell (u8s_some (turnB_at (x := x) (l := blk) (i := i) (by rw [HLB.out]; exact hlt)))
      have q1 := HAi.out.free i
      rw [← hy] at d1
      obtain ⟨z, hz⟩ : ∃ z, z = y ^^^ x := ⟨_, rfl⟩
      have x1 : bits .xor .u8 (y : Int) (x : Int) = (z : Int) := by rw [u8_xor_nat y x hy256 hx, hz]
      have HST : Hid ((u8s (turnB x blk i)).set i (.int .u8 (z : Int)) = u8s (turnB x blk (i + 1))) := Lib.hid (by rw [u8s_set, hz, hy, turnB_step (by rw [HLB.out]; exact hlt)])
      clear hy hz
      repeat (first | go_values | go_skip | go_guarded | go_step | go_upon)
      go_roundw
      case rel => exact ⟨i + 1, by omega, by go_num, by rw [← HST.out]; exact HAi.out.set i _, HO.out.trans (Only.setCell (S := fun k => k = w.heap.size) wr (p := ⟨w.heap.size, i, none⟩) rfl _) (fun _ _ h => h)⟩
      case measure => simp [intOf]; omega
    · have t3 : decide ((i : Int) < 64) = false := by simp only [decide_eq_false_iff_not]; omega
      have hi64 : i = 64 := by omega
      have HA2 := Lib.hid (show Arr wr w.heap.size 34 (u8s (xorB x blk)) by rw [← turnB_all (i := i) (by rw [HLB.out]; omega)]; exact HAi.out)
      have HR2 := Lib.hid (HR1.out.only HO.out (by omega))
      have HB2 := Lib.hid (HB1.out.trans (HO.out.below HB1.out.size (fun k hk => by omega)))
      clear HAi HO HR1 HB1
      repeat (first | go_values | go_skip | go_guarded | go_step | go_upon)
      refine (new_any wr (HT.out.keep HB2.out)).mono ?_
      rintro e W3 ⟨rfl, hst, hb3⟩
      obtain ⟨P, hP⟩ : ∃ P, P = wr.heap.size := ⟨_, rfl⟩
      rw [← hP] at hst ⊢
      have hPw : w.heap.size + 1 < P := by have := HR2.out.lt; omega
      have HS3 := Lib.hid hst
      have HA3 := Lib.hid (HA2.out.only (only_beyond (S := fun _ => False) hb3) (fun h => h))
      have HR3 := Lib.hid (HR2.out.only (only_beyond (S := fun _ => False) hb3) (fun h => h))
      have HB3 : Hid (Below w.heap.size w W3) := Lib.hid (HB2.out.trans (hb3.mono HB2.out.size))
      have HP0 : Hid (P ≠ 0 ∧ P ≠ 2) := Lib.hid ⟨by have := HT.out.lt0; omega, by have := HT.out.lt1; omega⟩
      clear hst hb3 HA2 HR2 HB2 hP
      dsimp only
      repeat (first | go_values | go_skip | go_guarded | go_step | go_upon)
      refine (write_any HS3.out (cs := xorB x blk) (.inr ⟨w.heap.size, 0, 64, by rw [xorB_len, HLB.out], arr_bytes HA3.out, by omega, fun h => by have := congrArg List.length h; rw [xorB_len, HLB.out] at this; simp at this, by rw [xorB_len, HLB.out]; exact Nat.le_refl _⟩) (xorB_lt hx HBL.out) (by rw [xorB_len, HLB.out]; simp) (HT.out.keep HB3.out) HP0.out.1 HP0.out.2).mono ?_
      rintro e W4 ⟨rfl, hst, ho⟩
      rw [List.nil_append] at hst
      have HS4 := Lib.hid hst
      have HR4 := Lib.hid (HR3.out.only ho (by omega))
      have HB4 : Hid (Below w.heap.size w W4) := Lib.hid (HB3.out.trans (ho.below HB3.out.size (fun k hk => by omega)))
      clear hst ho HA3 HR3 HB3 HS3
      dsimp only
      repeat (first | go_values | go_skip | go_guarded | go_step | go_upon)
      refine (write_any HS4.out (off_of HV.out HF.out HB4.out (by omega)) HB.out (by rw [xorB_len, HLB.out]; have := HN.out; omega) (HT.out.keep HB4.out) HP0.out.1 HP0.out.2).mono ?_
      rintro e W5 ⟨rfl, hst, ho⟩
      have HS5 := Lib.hid hst
      have HR5 := Lib.hid (HR4.out.only ho (by omega))
      have HB5 : Hid (Below w.heap.size w W5) := Lib.hid (HB4.out.trans (ho.below HB4.out.size (fun k hk => by omega)))
      clear hst ho HR4 HB4 HS4
      dsimp only
      repeat (first | go_values | go_skip | go_guarded | go_step | go_upon)
      refine (HSUM.out _ _ HS5.out (HT.out.keep HB5.out)).mono ?_
      rintro e W6 ⟨rfl, hb6⟩
      have HR6 := Lib.hid (HR5.out.only (only_beyond (S := fun _ => False) hb6) (fun h => h))
      have HB6 : Hid (Below w.heap.size w W6) := Lib.hid (HB5.out.trans (hb6.mono HB5.out.size))
      clear hb6 HR5 HB5 HS5
      dsimp only
      repeat (first | (refine wpList_store_row rfl 25 (.tmp 6) (.tmp 27) rfl (w.heap.size + 1) L.toArray rfl rfl 25 (u8s (List.replicate 32 0)).toArray HR6.out HI32.out HSZ32.out HAL32.out ?_) | go_values | go_skip | go_guarded | go_step | go_upon)
      (try simp only [Exit.inBlock, Exit.then])
      refine bodyPost_ret (results_cell_row rfl _ _ (w.heap.size + 1) 25 L.toArray (0, 0) _ rfl (setRow_heap W6 (w.heap.size + 1) _ L.toArray _ _ HR6.out) Tryd.underlying25 rfl HI32.out) rfl ?_
      exact ⟨rfl, below_setRow HB6.out (by omega) _⟩
end Go.Proofs.YtfbnnhailnbmiaaDoor
