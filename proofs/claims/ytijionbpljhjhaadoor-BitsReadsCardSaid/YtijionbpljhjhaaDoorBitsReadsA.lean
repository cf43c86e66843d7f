/- BitsReads at at most 60 bytes and 60 asks, walked. -/
import Derived.Test.YtijionbpljhjhaaDoorBitsReadsM
import Derived.Test.YtijionbpljhjhaaDoorRegMono
namespace Go.Proofs.YtijionbpljhjhaaDoor
open Go.RowKit

set_option maxHeartbeats 1000000 in
theorem read_some {w : World} {v : Value} {bs : List Nat} (h : Lies w v bs ∨ ∃ a cap, v = .slice (some a) 0 cap ∧ bs = []) (hbig : bs.length ≤ 1000000000) :
    Calls Tryd.prog 14 #[v] w fun e w' => ∃ R, e = .returned (.pointer (some ⟨R, 0, none⟩)) ∧ ReaderAt w.heap.size w' R bs 0 ∧ Below w.heap.size w w' := by
  rcases h with h | ⟨a, cap, rfl, rfl⟩
  · exact read_any h hbig
  · have q25 : ∀ (w : World) (a : Option Addr) (n c n' c' : Nat), (binOp .eql 25 (.slice a n c) (.slice none n' c')).run Tryd.prog w = .ok (.bool a.isNone) w := fun w a n c n' c' => Lib.run_eql_slice_nil w _ _ a n c n' c' Tryd.underlying25
    obtain ⟨i0, hi, hz0, hz1, hz2⟩ := info_parts infoU8
    have hclone : ∀ w, Calls Tryd.prog 22 #[.slice (some a) 0 cap] w fun e w' => ∃ v', e = .returned v' ∧ w'.ownsRow w.heap.size 5 1 v' 0 [] ∧ Below w.heap.size w w' := by
      intro w
      go_enter Tryd.func22, Tryd.ntmps22
      go_wp2_with (at_builtin; refine wpList_append_own _ rfl _ _ 25 rfl w.heap.size 5 i0 (.int .u8 0) 1 1 Tryd.underlying25 hi hz0 hz1 hz2 rfl (by decide) _ _ _ rfl (World.ownsRow_made w #[] 0 (Nat.le_refl _) (Nat.zero_le _) rfl) a 0 cap [] rfl rfl (fun j u hj => by simp at hj) (fun u hu => by simp at hu) (by unfold maxLen; omega) (by omega) (by simp) ?_; intro v' w1 hown hgrow _)
      go_ret
      refine ⟨v', rfl, by simpa using hown, ?_⟩
      exact ((Below.refl _ w).alloc (Nat.le_refl _) _).grown hgrow (by simp) (by intro k hk; have h1 : some w.heap.size = some k := hk; have h2 := Option.some.inj h1; omega)
    have HC := Lib.hid hclone
    clear hclone q25 hi hz0 hz1 hz2
    go_enter Tryd.func14, Tryd.ntmps14
    go_wp2_with (go_at_call 22; refine (HC.out _).mono ?_; rintro e w' ⟨v', rfl, hown', hbel⟩; obtain ⟨a', c', rfl⟩ := own_slice hown')
    go_ret
    exact ⟨_, rfl, ⟨hbel.size, _, heap_alloc_new _ _, hown'.alloc _⟩, hbel.alloc hbel.size _⟩

theorem cell0_of {w : World} {b : Nat} {v u : Value} {t : TypeId} (h : w.heap[b]? = some (.cells #[v, u] t (0, 0))) : w.cell? ⟨b, 0, none⟩ = some v := (cells2 h).1

/-- the bytes, as they lie -/
def BytesAt (w : World) (b off : Nat) (bs : List Nat) : Prop := ∀ j, j < bs.length → w.cell? ⟨b, off + j, none⟩ = some (.int .u8 ((bs.getD j 0 : Nat) : Int))
theorem BytesAt.below {B : Nat} {w w' : World} {b off : Nat} {bs : List Nat} (h : BytesAt w b off bs) (hb : Below B w w') (hB : b < B) : BytesAt w' b off bs := fun j hj => by
  rw [← h j hj]; exact hb.cell (p := ⟨b, _, none⟩) hB

set_option maxHeartbeats 8000000 in
set_option maxRecDepth 100000 in
theorem bitsReads_some {ab a : Option Addr} {bb offb capb b off cap : Nat} {bs : List Nat} {l : List Ak} (hadrb : bs ≠ [] → ab = some ⟨bb, offb, none⟩) (hnil : bs = [] → ab = none → capb = 0) (hadr : l ≠ [] → a = some ⟨b, off, none⟩)
    (hx : ∀ t ∈ l, -9223372036854775808 ≤ t.n ∧ t.n ≤ 9223372036854775807) (hsm : ∀ x ∈ bs, x < 256) (hb60 : bs.length ≤ 60) (hl60 : l.length ≤ 60) (w : World) (hc : AsksAt w b off l) (hbc : BytesAt w bb offb bs) (hbw : b < w.heap.size) (hbbw : bb < w.heap.size) (hl : StepsLaid w) :
    Calls Tryd.prog 4 #[.slice ab bs.length capb, .slice a l.length cap] w fun e w' => e = .returned (.bool true) ∧ Below w.heap.size w w' := by
  have HADR := Lib.hid hadr
  have HADB := Lib.hid hadrb
  have HNIL := Lib.hid hnil
  have hL := Lib.hid hl
  have HC := Lib.hid hc
  have HBC := Lib.hid hbc
  have HX := Lib.hid hx
  have HSM := Lib.hid hsm
  have hd60 : decide ((60 : Int) < bs.length) = false := by simp; omega
  have hd61 : decide ((60 : Int) < l.length) = false := by simp; omega
  have hblen : bs.length ≤ 60 := hb60
  have hlen : l.length ≤ 60 := hl60
  clear hadr hadrb hnil hl hc hbc hx hsm hb60 hl60
  go_enter Tryd.func4, Tryd.ntmps4
  go_wp2_with fail
  refine (lives02 _ hL.out).mono ?_
  rintro e W1 ⟨rfl, hb1⟩
  have hz1 := hb1.size
  have HB1 := Lib.hid hb1
  clear hb1
  go_wp2
  go_loopw [5, 33] (fun s c wr => ∃ k : Nat, k ≤ bs.length ∧ c = .int .i64 k ∧ s = .string (signsOf (rowOf (bs.take k))) ∧ Below w.heap.size w wr) (fun _ c _ => bs.length - (intOf c).toNat)
  case atStart => exact ⟨0, by omega, rfl, rfl, HB1.out⟩
  case round =>
    obtain ⟨k, hk, rfl, rfl, hbel⟩ := hrel
    by_cases hlt : k < bs.length
    · have ea := HADB.out (by intro h; simp [h] at hlt)
      subst ea
      have hcell := HBC.out.below hbel hbbw k hlt
      have hrt := rowOf_take hlt
      have hxm : bs.getD k 0 < 256 := by
        simp [List.getD, List.getElem?_eq_getElem hlt]; exact HSM.out _ (List.getElem_mem hlt)
      have hzr := hbel.size
      generalize bs.getD k 0 = x at *
      have HRT := Lib.hid hrt
      have HBEL := Lib.hid hbel
      have hsz1 : (signsOf (rowOf (bs.take k))).size ≤ 1000000 := by rw [signsOf_size, rowOf_length, List.length_take]; omega
      have hsz2 : (signsOf (numBits x 8)).size ≤ 1000000 := by rw [signsOf_size, numBits_length]; omega
      clear hrt hbel
      go_wp2_with fail
      refine (signs_any (k := 8) (by omega) (by omega) _).mono ?_
      rintro e w2 ⟨rfl, hb2⟩
      have HB2 := Lib.hid hb2
      clear hb2
      go_wp2
      go_roundw
      case rel => exact ⟨k + 1, by omega, by go_num, by rw [HRT.out, signsOf_append], HBEL.out.trans (HB2.out.mono hzr)⟩
      case measure => simp [intOf]; omega
    · obtain rfl : k = bs.length := by omega
      have htk : bs.take bs.length = bs := List.take_of_length_le (Nat.le_refl _)
      rw [htk]
      obtain ⟨wq, hwq⟩ : ∃ wq, wq = wr := ⟨_, rfl⟩
      subst hwq
      have hlies : Lies wq (.slice ab bs.length capb) bs ∨ ∃ a cap, (Value.slice ab bs.length capb) = .slice (some a) 0 cap ∧ bs = [] := by
        by_cases h : bs = []
        · cases hab : ab with
          | none => exact .inl (.inl ⟨by rw [HNIL.out h hab, h]; rfl, h⟩)
          | some ad => exact .inr ⟨ad, capb, by rw [h]; rfl, h⟩
        · exact .inl (.inr ⟨bb, offb, capb, by rw [HADB.out h], fun j hj => HBC.out.below hbel hbbw j hj⟩)
      have HLI := Lib.hid hlies
      have HBEL := Lib.hid hbel
      have hzq := hbel.size
      clear hlies hbel htk
      go_wp2_with fail
      refine (read_some HLI.out (by omega)).mono ?_
      rintro e W2 ⟨R, rfl, hr, hb2⟩
      have hRd : Hid (ReaderAt w.heap.size W2 R bs 0) := by
        obtain ⟨hR, v, hh, ho⟩ := hr
        refine ⟨by omega, v, hh, ho.1, ?_⟩
        rcases ho.2 with h | ⟨g, c, cur, h1, h2, h3⟩
        · exact .inl h
        · exact .inr ⟨g, c, cur, h1, by omega, h3⟩
      have HB2 : Hid (Below w.heap.size w W2) := HBEL.out.trans (hb2.mono hzq)
      clear hr hb2
      have hrow0 : Hid (signsOf (rowOf bs) = signsOf (restAt bs 0)) := by rw [restAt_zero]; rfl
      go_wp2
      go_loopw [5, 47] (fun s c wr => ∃ q p : Nat, q ≤ l.length ∧ p ≤ 8 * bs.length ∧ c = .int .i64 q ∧ s = .string (signsOf (restAt bs p)) ∧ ReaderAt w.heap.size wr R bs p ∧ Below w.heap.size w wr) (fun _ c _ => l.length - (intOf c).toNat)
      case atStart => exact ⟨0, 0, by omega, by omega, rfl, by rw [hrow0.out], hRd.out, HB2.out⟩
      case round =>
        obtain ⟨q, p, hq, hp, rfl, rfl, hrd, hbel⟩ := hrel
        have hLs := restAt_length bs p
        by_cases hlt : q < l.length
        · have ea := HADR.out (by intro h; simp [h] at hlt)
          subst ea
          obtain ⟨t, ht⟩ : ∃ t, l[q]? = some t := ⟨l[q], List.getElem?_eq_getElem hlt⟩
          obtain ⟨a1, a2⟩ := (HC.out.below hbel hbw) q t ht
          obtain ⟨x2, x3⟩ := HX.out t (List.mem_of_getElem? ht)
          have hzr := hbel.size
          have hRlt : R < wr.heap.size := lt_of_block hrd.2.choose_spec.1
          have hrR : Hid (w.heap.size ≤ R) := hrd.1
          obtain ⟨n, u⟩ := t
          simp only at a1 a2 x2 x3
          have HRD := Lib.hid (hrd.beyond ((Below.refl wr.heap.size wr).alloc (Nat.le_refl _) (.cells #[.int .i64 n, .bool u] 48)))
          have HBW : Hid (Below w.heap.size w (wr.alloc (.cells #[.int .i64 n, .bool u] 48))) := hbel.alloc hzr _
          have HNB : Hid ((wr.alloc (.cells #[.int .i64 n, .bool u] 48)).heap[wr.heap.size]? = some (.cells #[.int .i64 n, .bool u] 48 (0, 0))) := heap_alloc_new wr _
          have hss : (signsOf (restAt bs p)).size = (restAt bs p).length := signsOf_size _
          have hat : ∀ j (h : j < (restAt bs p).length) (h' : j < (signsOf (restAt bs p)).size), ((signsOf (restAt bs p))[j]'h').toNat = 48 + ((restAt bs p)[j]).toNat := fun j h h' => signsOf_at h h'
          have HAT := Lib.hid hat
          have HSS := Lib.hid hss
          have hsL : (signsOf (restAt bs p)).size = 8 * bs.length - p := by omega
          have HSL := Lib.hid hsL
          have hsm5 : (signsOf (restAt bs p)).size ≤ 480 := by omega
          have hdrop : ∀ k, (signsOf (restAt bs p)).extract k (signsOf (restAt bs p)).size = signsOf (restAt bs (p + k)) := fun k => by rw [signsOf_drop, restAt_drop]
          have HDR := Lib.hid hdrop
          clear hat hss hsL hdrop ht hrd hbel hLs
          have hval : ∀ k, k ≤ 8 * bs.length - p → signsOf (numBits (valOf bs p k) k) = (signsOf (restAt bs p)).extract 0 k := fun k hk => by rw [numBits_val hk, signsOf_take]
          have HVAL := Lib.hid hval
          clear hval
          generalize hs0 : signsOf (restAt bs p) = s at *
          have HS := Lib.hid hs0
          clear hs0
          cases u
          · by_cases hbad : n < 0 ∨ 64 < n
            · rcases hbad with hneg | hbig
              · have t1 : decide (n < 0) = true := by simp; omega
                go_wp2_with fail
                refine (left_any HRD.out (by omega) hp).mono ?_
                rintro e w3 ⟨rfl, m, rfl⟩
                rw [← HSL.out]
                go_wp2_with fail
                refine (get_arg (.inl hneg)).mono ?_
                rintro e w4 ⟨rfl, rfl⟩
                go_wp2
                go_roundw
                case rel => exact ⟨q + 1, p, by omega, hp, by go_num, by rw [HS.out], HRD.out.drewN _, HBW.out.trans ((only_drewN (fun _ => False) _ _).below HBW.out.size (fun k hk => hk.elim))⟩
                case measure => simp [intOf]; omega
              · have t1 : decide (n < 0) = false := by simp; omega
                have t2 : decide (64 < n) = true := by simp; omega
                go_wp2_with fail
                refine (left_any HRD.out (by omega) hp).mono ?_
                rintro e w3 ⟨rfl, m, rfl⟩
                rw [← HSL.out]
                go_wp2_with fail
                refine (get_arg (.inr hbig)).mono ?_
                rintro e w4 ⟨rfl, rfl⟩
                go_wp2
                go_roundw
                case rel => exact ⟨q + 1, p, by omega, hp, by go_num, by rw [HS.out], HRD.out.drewN _, HBW.out.trans ((only_drewN (fun _ => False) _ _).below HBW.out.size (fun k hk => hk.elim))⟩
                case measure => simp [intOf]; omega
            · obtain ⟨n, rfl⟩ := Int.eq_ofNat_of_zero_le (show 0 ≤ n by omega)
              have hn64 : n ≤ 64 := by omega
              have t1 : decide ((n : Int) < 0) = false := by simp
              have t2 : decide ((64 : Int) < n) = false := by simp; omega
              clear hbad
              by_cases hsh : s.size < n
              · go_wp2_with fail
                refine (left_any HRD.out (by omega) hp).mono ?_
                rintro e w3 ⟨rfl, m, rfl⟩
                rw [← HSL.out]
                go_wp2_with fail
                have hsh2 : 8 * bs.length - p < n := by rw [← HSL.out]; exact hsh
                refine (get_short (HRD.out.drewN m) (by omega) hp hn64 hsh2).mono ?_
                rintro e w4 ⟨rfl, m4, rfl⟩
                clear hsh2
                go_wp2
                go_roundw
                case rel => exact ⟨q + 1, p, by omega, hp, by go_num, by rw [HS.out], HRD.out.drewN _, HBW.out.trans ((only_drewN (fun _ => False) _ _).below HBW.out.size (fun k hk => hk.elim))⟩
                case measure => simp [intOf]; omega
              · have hle : n ≤ 8 * bs.length - p := by have := HSL.out; omega
                have hpn : p + n ≤ 8 * bs.length := by omega
                have hle2 : n ≤ s.size := by omega
                go_wp2_with fail
                refine (left_any HRD.out (by omega) hp).mono ?_
                rintro e w3 ⟨rfl, m, rfl⟩
                rw [← HSL.out]
                go_wp2_with fail
                refine (get_ok (k := n) (HRD.out.drewN m) HSM.out (by omega) hp hn64 hle).mono ?_
                rintro e w4 ⟨rfl, hr4, ho4⟩
                have hst : w4.heap[wr.heap.size]? = some (.cells #[.int .i64 (n : Int), .bool false] 48 (0, 0)) := (ho4.block _ (by simp) (by omega)).trans HNB.out
                have d1 : w4.cell? ⟨wr.heap.size, 0, none⟩ = some (.int .i64 (n : Int)) := by simp [World.cell?, hst]
                have HST := Lib.hid hst
                have HR4 := Lib.hid hr4
                have HB4 : Hid (Below w.heap.size w w4) := HBW.out.trans (((only_drewN (fun _ => False) (wr.alloc (.cells #[.int .i64 (n : Int), .bool false] 48)) m).below HBW.out.size (fun k hk => hk.elim)).trans (ho4.below HBW.out.size (fun k hk => by have := hrR.out; omega)))
                have hyl := valOf_lt bs p n
                have HYL := Lib.hid hyl
                have hxlt : wr.heap.size < w4.heap.size := lt_of_block hst
                have hy64 : valOf bs p n < 18446744073709551616 := Nat.lt_of_lt_of_le hyl (Nat.le_trans (Nat.pow_le_pow_right (by omega) hn64) (by decide))
                have HVN := Lib.hid (HVAL.out n hle)
                clear hst hr4 ho4 hyl hle
                generalize valOf bs p n = y at *
                go_wp2_with fail
                have t4 : decide ((0 : Int) < (y : Int) / 2 ^ n) = false := by
                  have h1 : ((y : Int) / 2 ^ n) = ((y / 2 ^ n : Nat) : Int) := by simp
                  rw [h1, Nat.div_eq_of_lt HYL.out]; rfl
                have t3 : decide ((n : Int) < 64) = true ∨ decide ((n : Int) < 64) = false := by cases decide ((n : Int) < 64) <;> simp
                rcases t3 with t3 | t3
                · go_region_held3 (fun w' => w'.cell? ⟨wr.heap.size, 0, none⟩ = some (.int .i64 (n : Int))) (first | (rw [hb9.cell (p := ⟨wr.heap.size, 0, none⟩) hxlt]; exact d1) | go_keep) ((go_at_call 10; refine (signs_any (k := n) hy64 (by omega) _).mono ?_; rintro e w9 ⟨rfl, hb9⟩; rw [HVN.out]))
                  have d9 : w9.cell? ⟨wr.heap.size, 0, none⟩ = some (.int .i64 (n : Int)) := (hb9.cell (p := ⟨wr.heap.size, 0, none⟩) hxlt).trans d1
                  have hb9' : Below w4.heap.size w4 w9 := ⟨hb9.os, hb9.tape, hb9.output, hb9.size, hb9.block⟩
                  have HB9 := Lib.hid hb9'
                  clear hb9 hb9'
                  go_wp2
                  go_roundw
                  case rel => exact ⟨q + 1, p + n, by omega, hpn, by go_num, by rw [HDR.out], HR4.out.beyond HB9.out, HB4.out.trans (HB9.out.mono HB4.out.size)⟩
                  case measure => simp [intOf]; omega
                · have hS4 : w4.drew.cell? ⟨wr.heap.size, 0, none⟩ = some (.int .i64 (n : Int)) := d1
                  refine wp_region_held_drew (S := (fun w' => w'.cell? ⟨wr.heap.size, 0, none⟩ = some (.int .i64 (n : Int)))) (by kernel_rfl) hS4 (fun _ => ?_)
                  refine anyH_take (i := 0) (some 118) (v := _) rfl rfl (by kernel_rfl) (by kernel_rfl) (by kernel_rfl) (fun _ _ _ h => h) (by rfl) (hS4) (by intro w hSw; go_simp; try with_reducible rfl) ?_
                  (try simp only [Act.put, List.setIfInBounds_toArray, List.set_cons_zero, List.set_cons_succ])
                  refine anyH_take (i := 1) (some 119) (v := _) rfl rfl (by kernel_rfl) (by kernel_rfl) (by kernel_rfl) (fun _ _ _ h => h) (by rfl) (hS4) (by intro w hSw; go_simp; try with_reducible rfl) ?_
                  (try simp only [Act.put, List.setIfInBounds_toArray, List.set_cons_zero, List.set_cons_succ])
                  refine anyH_take (i := 2) (some 120) (v := _) rfl rfl (by kernel_rfl) (by kernel_rfl) (by kernel_rfl) (fun _ _ _ h => h) (by rfl) (hS4) (by intro w hSw; go_simp; try with_reducible rfl) ?_
                  (try simp only [Act.put, List.setIfInBounds_toArray, List.set_cons_zero, List.set_cons_succ])
                  refine anyH_take (i := 3) (some 121) (v := _) rfl rfl (by kernel_rfl) (by kernel_rfl) (by kernel_rfl) (fun _ _ _ h => h) (by rfl) (hS4) (by intro w hSw; go_simp; try with_reducible rfl) ?_
                  (try simp only [Act.put, List.setIfInBounds_toArray, List.set_cons_zero, List.set_cons_succ])
                  refine anyH_take (i := 4) (some 122) (v := _) rfl rfl (by kernel_rfl) (by kernel_rfl) (by kernel_rfl) (fun _ _ _ h => h) (by rfl) (hS4) (by intro w hSw; go_simp; try with_reducible rfl) ?_
                  (try simp only [Act.put, List.setIfInBounds_toArray, List.set_cons_zero, List.set_cons_succ])
                  refine anyH_take (i := 5) (some 123) (v := _) rfl rfl (by kernel_rfl) (by kernel_rfl) (by kernel_rfl) (fun _ _ _ h => h) (by rfl) (hS4) (by intro w hSw; go_simp; try with_reducible rfl) ?_
                  (try simp only [Act.put, List.setIfInBounds_toArray, List.set_cons_zero, List.set_cons_succ])
                  refine anyH_take (i := 7) (some 125) (v := _) rfl rfl (by kernel_rfl) (by kernel_rfl) (by kernel_rfl) (fun _ _ _ h => h) (by rfl) (hS4) (by intro w hSw; go_simp; try with_reducible rfl) ?_
                  (try simp only [Act.put, List.setIfInBounds_toArray, List.set_cons_zero, List.set_cons_succ])
                  refine anyH_take (i := 8) (some 126) (v := _) rfl rfl (by kernel_rfl) (by kernel_rfl) (by kernel_rfl) (fun _ _ _ h => h) (by rfl) (hS4) (by intro w hSw; go_simp; try with_reducible rfl) ?_
                  (try simp only [Act.put, List.setIfInBounds_toArray, List.set_cons_zero, List.set_cons_succ])
                  refine anyH_take (i := 9) (some 127) (v := _) rfl rfl (by kernel_rfl) (by kernel_rfl) (by kernel_rfl) (fun _ _ _ h => h) (by rfl) (hS4) (by intro w hSw; go_simp; try with_reducible rfl) ?_
                  (try simp only [Act.put, List.setIfInBounds_toArray, List.set_cons_zero, List.set_cons_succ])
                  refine anyH_take (i := 10) (some 128) (v := _) rfl rfl (by kernel_rfl) (by kernel_rfl) (by kernel_rfl) (fun _ _ _ h => h) (by rfl) (hS4) (by intro w hSw; go_simp; try with_reducible rfl) ?_
                  (try simp only [Act.put, List.setIfInBounds_toArray, List.set_cons_zero, List.set_cons_succ])
                  refine wpAnyH_ready (rs := [6]) (by kernel_rfl) (by simp) (AllReadyH.cons rfl (fun K hK => ?_) AllReadyH.nil)
                  go_simp
                  (refine (signs_any (k := n) hy64 (by omega) _).mono ?_; rintro e w9 ⟨rfl, hb9⟩; rw [HVN.out])
                  go_wp2_with fail
                  refine hK.out _ _ ((by rw [hb9.cell (p := ⟨wr.heap.size, 0, none⟩) hxlt]; exact d1)) (fun _ => ?_)
                  clear hK K
                  (try simp only [Act.put, List.setIfInBounds_toArray, List.set_cons_zero, List.set_cons_succ])
                  refine anyH_take (i := 11) (some 129) (v := _) rfl rfl (by kernel_rfl) (by kernel_rfl) (by kernel_rfl) (fun _ _ _ h => h) (by rfl) (hb9.cell (p := ⟨wr.heap.size, 0, none⟩) hxlt |>.trans d1) (by intro w hSw; go_simp; try with_reducible rfl) ?_
                  (try simp only [Act.put, List.setIfInBounds_toArray, List.set_cons_zero, List.set_cons_succ])
                  refine anyH_take (i := 12) (some 130) (v := _) rfl rfl (by kernel_rfl) (by kernel_rfl) (by kernel_rfl) (fun _ _ _ h => h) (by rfl) (hb9.cell (p := ⟨wr.heap.size, 0, none⟩) hxlt |>.trans d1) (by intro w hSw; go_simp; try with_reducible rfl) ?_
                  (try simp only [Act.put, List.setIfInBounds_toArray, List.set_cons_zero, List.set_cons_succ])
                  refine anyH_take (i := 13) (some 131) (v := _) rfl rfl (by kernel_rfl) (by kernel_rfl) (by kernel_rfl) (fun _ _ _ h => h) (by rfl) (hb9.cell (p := ⟨wr.heap.size, 0, none⟩) hxlt |>.trans d1) (by intro w hSw; go_simp; try with_reducible rfl) ?_
                  (try simp only [Act.put, List.setIfInBounds_toArray, List.set_cons_zero, List.set_cons_succ])
                  refine anyH_take (i := 14) (some 132) (v := _) rfl rfl (by kernel_rfl) (by kernel_rfl) (by kernel_rfl) (fun _ _ _ h => h) (by rfl) (hb9.cell (p := ⟨wr.heap.size, 0, none⟩) hxlt |>.trans d1) (by intro w hSw; go_simp; try with_reducible rfl) ?_
                  (try simp only [Act.put, List.setIfInBounds_toArray, List.set_cons_zero, List.set_cons_succ])
                  refine anyH_take (i := 15) (some 133) (v := _) rfl rfl (by kernel_rfl) (by kernel_rfl) (by kernel_rfl) (fun _ _ _ h => h) (by rfl) (hb9.cell (p := ⟨wr.heap.size, 0, none⟩) hxlt |>.trans d1) (by intro w hSw; go_simp; try with_reducible rfl) ?_
                  (try simp only [Act.put, List.setIfInBounds_toArray, List.set_cons_zero, List.set_cons_succ])
                  refine anyH_take (i := 16) (some 134) (v := _) rfl rfl (by kernel_rfl) (by kernel_rfl) (by kernel_rfl) (fun _ _ _ h => h) (by rfl) (hb9.cell (p := ⟨wr.heap.size, 0, none⟩) hxlt |>.trans d1) (by intro w hSw; go_simp; try with_reducible rfl) ?_
                  (try simp only [Act.put, List.setIfInBounds_toArray, List.set_cons_zero, List.set_cons_succ])
                  refine anyH_take (i := 17) (some 135) (v := _) rfl rfl (by kernel_rfl) (by kernel_rfl) (by kernel_rfl) (fun _ _ _ h => h) (by rfl) (hb9.cell (p := ⟨wr.heap.size, 0, none⟩) hxlt |>.trans d1) (by intro w hSw; go_simp; try with_reducible rfl) ?_
                  (try simp only [Act.put, List.setIfInBounds_toArray, List.set_cons_zero, List.set_cons_succ])
                  refine anyH_skip (i := 18) (some 136) rfl rfl (by kernel_rfl) (by kernel_rfl) (by kernel_rfl) (fun _ _ _ h => h) (by rfl) (hb9.cell (p := ⟨wr.heap.size, 0, none⟩) hxlt |>.trans d1) ?_
                  (try simp only [Act.put, List.setIfInBounds_toArray, List.set_cons_zero, List.set_cons_succ])
                  refine anyH_skip (i := 19) (some 137) rfl rfl (by kernel_rfl) (by kernel_rfl) (by kernel_rfl) (fun _ _ _ h => h) (by rfl) (hb9.cell (p := ⟨wr.heap.size, 0, none⟩) hxlt |>.trans d1) ?_
                  (try simp only [Act.put, List.setIfInBounds_toArray, List.set_cons_zero, List.set_cons_succ])
                  refine anyH_skip (i := 20) (some 138) rfl rfl (by kernel_rfl) (by kernel_rfl) (by kernel_rfl) (fun _ _ _ h => h) (by rfl) (hb9.cell (p := ⟨wr.heap.size, 0, none⟩) hxlt |>.trans d1) ?_
                  (try simp only [Act.put, List.setIfInBounds_toArray, List.set_cons_zero, List.set_cons_succ])
                  refine anyH_skip (i := 21) (some 139) rfl rfl (by kernel_rfl) (by kernel_rfl) (by kernel_rfl) (fun _ _ _ h => h) (by rfl) (hb9.cell (p := ⟨wr.heap.size, 0, none⟩) hxlt |>.trans d1) ?_
                  (try simp only [Act.put, List.setIfInBounds_toArray, List.set_cons_zero, List.set_cons_succ])
                  refine anyH_skip (i := 22) (some 140) rfl rfl (by kernel_rfl) (by kernel_rfl) (by kernel_rfl) (fun _ _ _ h => h) (by rfl) (hb9.cell (p := ⟨wr.heap.size, 0, none⟩) hxlt |>.trans d1) ?_
                  (try simp only [Act.put, List.setIfInBounds_toArray, List.set_cons_zero, List.set_cons_succ])
                  refine anyH_take (i := 23) (some 141) (v := _) rfl rfl (by kernel_rfl) (by kernel_rfl) (by kernel_rfl) (fun _ _ _ h => h) (by rfl) (hb9.cell (p := ⟨wr.heap.size, 0, none⟩) hxlt |>.trans d1) (by intro w hSw; go_simp; try with_reducible rfl) ?_
                  (try simp only [Act.put, List.setIfInBounds_toArray, List.set_cons_zero, List.set_cons_succ])
                  refine anyH_take (i := 24) (some 142) (v := _) rfl rfl (by kernel_rfl) (by kernel_rfl) (by kernel_rfl) (fun _ _ _ h => h) (by rfl) (hb9.cell (p := ⟨wr.heap.size, 0, none⟩) hxlt |>.trans d1) (by intro w hSw; go_simp; try with_reducible rfl) ?_
                  (try simp only [Act.put, List.setIfInBounds_toArray, List.set_cons_zero, List.set_cons_succ])
                  refine wpAnyH_done (by kernel_rfl) ?_ _
                  have d9 : w9.cell? ⟨wr.heap.size, 0, none⟩ = some (.int .i64 (n : Int)) := (hb9.cell (p := ⟨wr.heap.size, 0, none⟩) hxlt).trans d1
                  have hb9' : Below w4.heap.size w4 w9 := ⟨hb9.os, hb9.tape, hb9.output, hb9.size, hb9.block⟩
                  have HB9 := Lib.hid hb9'
                  clear hb9 hb9'
                  go_wp2
                  go_roundw
                  case rel => exact ⟨q + 1, p + n, by omega, hpn, by go_num, by rw [HDR.out], HR4.out.beyond HB9.out, HB4.out.trans (HB9.out.mono HB4.out.size)⟩
                  case measure => simp [intOf]; omega
          · go_wp2_with fail
            refine (left_any HRD.out (by omega) hp).mono ?_
            rintro e w3 ⟨rfl, m, rfl⟩
            rw [← HSL.out]
            have htle : ones (restAt bs p) ≤ s.size := by rw [HSS.out]; exact ones_le _
            have hb1 : ∀ j, j < ones (restAt bs p) → bitIn bs (p + j) = 1 := fun j hj => by
              have hl : j < (restAt bs p).length := Nat.lt_of_lt_of_le hj (ones_le _)
              rw [restAt_bit (by rw [← restAt_length]; exact hl) hl, ones_one hj hl]; rfl
            have hb0 : ones (restAt bs p) < s.size → bitIn bs (p + ones (restAt bs p)) = 0 := fun hj => by
              have hl : ones (restAt bs p) < (restAt bs p).length := by rw [← HSS.out]; exact hj
              rw [restAt_bit (by rw [← restAt_length]; exact hl) hl, ones_zero hl]; rfl
            have hc1 : ∀ j (h' : j < s.size), j < ones (restAt bs p) → (((s[j]'h').toNat : Int) == 49) = true := fun j h' hj => by
              have hl : j < (restAt bs p).length := by rw [← HSS.out]; exact h'
              rw [HAT.out j hl h', ones_one hj hl]; rfl
            have hc0 : ∀ (h' : ones (restAt bs p) < s.size), (((s[ones (restAt bs p)]'h').toNat : Int) == 49) = false := fun h' => by
              have hl : ones (restAt bs p) < (restAt bs p).length := by rw [← HSS.out]; exact h'
              rw [HAT.out _ hl h', ones_zero hl]; rfl
            generalize ones (restAt bs p) = t at *
            have B1 := Lib.hid hb1
            have B0 := Lib.hid hb0
            have C1 := Lib.hid hc1
            have C0 := Lib.hid hc0
            clear hb1 hb0 hc1 hc0
            go_wp2
            go_loop [11] (fun c => ∃ j : Nat, j ≤ t ∧ c = .int .i64 j) (fun c => t - (intOf c).toNat)
            case atStart => exact ⟨0, by omega, rfl⟩
            case round =>
              obtain ⟨j, hj, rfl⟩ := hrel
              by_cases hjt : j < t
              · have hjs : j < s.size := by omega
                have hc := C1.out j hjs hjt
                go_wp2
                go_round
                case rel => exact ⟨j + 1, by omega, by go_num⟩
                case measure => simp [intOf]; omega
              · obtain rfl : t = j := by omega
                obtain ⟨M, hM⟩ : ∃ M : Nat, n = M ∨ n < 0 ∧ M = 0 := by
                  by_cases h : n < 0
                  · exact ⟨0, .inr ⟨h, rfl⟩⟩
                  · exact ⟨n.toNat, .inl (by omega)⟩
                clear hj hjt
                by_cases hMt : M < t
                · have hlong : Hid (M < 8 * bs.length - p ∧ ∀ j, j ≤ M → bitIn bs (p + j) = 1) := ⟨by have := HSL.out; omega, fun j hj => B1.out j (by omega)⟩
                  have hdM : decide (M < t) = true := by simpa using hMt
                  by_cases hts : t < s.size
                  · have hc := C0.out hts
                    rcases hM with rfl | ⟨hneg, rfl⟩
                    · go_wp2_with fail
                      refine (runary_long (M := M) (.inl rfl) (HRD.out.drewN m) HSM.out (by omega) hp hlong.out.1 hlong.out.2).mono ?_
                      rintro e w4 ⟨rfl, m4, rfl⟩
                      go_wp2
                      go_roundw
                      case rel => exact ⟨q + 1, p, by omega, hp, by go_num, by rw [HS.out], HRD.out.drewN _, HBW.out.trans ((only_drewN (fun _ => False) _ _).below HBW.out.size (fun k hk => hk.elim))⟩
                      case measure => simp [intOf]; omega
                    · go_wp2_with fail
                      refine (runary_long (M := 0) (.inr ⟨hneg, rfl⟩) (HRD.out.drewN m) HSM.out (by omega) hp hlong.out.1 hlong.out.2).mono ?_
                      rintro e w4 ⟨rfl, m4, rfl⟩
                      go_wp2
                      go_roundw
                      case rel => exact ⟨q + 1, p, by omega, hp, by go_num, by rw [HS.out], HRD.out.drewN _, HBW.out.trans ((only_drewN (fun _ => False) _ _).below HBW.out.size (fun k hk => hk.elim))⟩
                      case measure => simp [intOf]; omega
                  · have hds : decide (t < s.size) = false := by simpa using hts
                    rcases hM with rfl | ⟨hneg, rfl⟩
                    · go_wp2_with fail
                      refine (runary_long (M := M) (.inl rfl) (HRD.out.drewN m) HSM.out (by omega) hp hlong.out.1 hlong.out.2).mono ?_
                      rintro e w4 ⟨rfl, m4, rfl⟩
                      go_wp2
                      go_roundw
                      case rel => exact ⟨q + 1, p, by omega, hp, by go_num, by rw [HS.out], HRD.out.drewN _, HBW.out.trans ((only_drewN (fun _ => False) _ _).below HBW.out.size (fun k hk => hk.elim))⟩
                      case measure => simp [intOf]; omega
                    · go_wp2_with fail
                      refine (runary_long (M := 0) (.inr ⟨hneg, rfl⟩) (HRD.out.drewN m) HSM.out (by omega) hp hlong.out.1 hlong.out.2).mono ?_
                      rintro e w4 ⟨rfl, m4, rfl⟩
                      go_wp2
                      go_roundw
                      case rel => exact ⟨q + 1, p, by omega, hp, by go_num, by rw [HS.out], HRD.out.drewN _, HBW.out.trans ((only_drewN (fun _ => False) _ _).below HBW.out.size (fun k hk => hk.elim))⟩
                      case measure => simp [intOf]; omega
                · have hdM : decide (M < t) = false := by simpa using hMt
                  by_cases hts : t < s.size
                  · have hc := C0.out hts
                    have heq : ((t : Int) == s.size) = false := by simp; omega
                    have heq2 : (t == s.size) = false := by simp; omega
                    have hpt : p + (t + 1) ≤ 8 * bs.length := by have := HSL.out; omega
                    have htL : t < 8 * bs.length - p := by rw [← HSL.out]; exact hts
                    rcases hM with rfl | ⟨hneg, rfl⟩
                    · go_wp2_with fail
                      refine (runary_ok (t := t) (M := M) (.inl rfl) (HRD.out.drewN m) HSM.out (by omega) hp htL (by omega) B1.out (B0.out hts)).mono ?_
                      rintro e w4 ⟨rfl, hr4, ho4⟩
                      have hst : w4.heap[wr.heap.size]? = some (.cells #[.int .i64 _, .bool true] 48 (0, 0)) := (ho4.block _ (by simp) (by omega)).trans HNB.out
                      have d1 := cell0_of hst
                      have HR4 := Lib.hid hr4
                      have HB4 : Hid (Below w.heap.size w w4) := (HBW.out.trans ((only_drewN (fun _ => False) _ m).below HBW.out.size (fun k hk => hk.elim))).trans (ho4.below HBW.out.size (fun k hk => by have := hrR.out; omega))
                      clear hst hr4 ho4
                      go_wp2
                      go_roundw
                      case rel => exact ⟨q + 1, p + (t + 1), by omega, hpt, by go_num, by rw [HDR.out], HR4.out, HB4.out⟩
                      case measure => simp [intOf]; omega
                    · go_wp2_with fail
                      refine (runary_ok (t := t) (M := 0) (.inr ⟨hneg, rfl⟩) (HRD.out.drewN m) HSM.out (by omega) hp htL (by omega) B1.out (B0.out hts)).mono ?_
                      rintro e w4 ⟨rfl, hr4, ho4⟩
                      have hst : w4.heap[wr.heap.size]? = some (.cells #[.int .i64 _, .bool true] 48 (0, 0)) := (ho4.block _ (by simp) (by omega)).trans HNB.out
                      have d1 := cell0_of hst
                      have HR4 := Lib.hid hr4
                      have HB4 : Hid (Below w.heap.size w w4) := (HBW.out.trans ((only_drewN (fun _ => False) _ m).below HBW.out.size (fun k hk => hk.elim))).trans (ho4.below HBW.out.size (fun k hk => by have := hrR.out; omega))
                      clear hst hr4 ho4
                      go_wp2
                      go_roundw
                      case rel => exact ⟨q + 1, p + (t + 1), by omega, hpt, by go_num, by rw [HDR.out], HR4.out, HB4.out⟩
                      case measure => simp [intOf]; omega
                  · have hds : decide (t < s.size) = false := by simpa using hts
                    have heq : ((t : Int) == s.size) = true := by simp; omega
                    have heq2 : (t == s.size) = true := by simp; omega
                    have hshort : Hid (8 * bs.length - p ≤ M ∧ ∀ j, j < 8 * bs.length - p → bitIn bs (p + j) = 1) := ⟨by have := HSL.out; omega, fun j hj => B1.out j (by have := HSL.out; omega)⟩
                    rcases hM with rfl | ⟨hneg, rfl⟩
                    · go_wp2_with fail
                      refine (runary_short (M := M) (.inl rfl) (HRD.out.drewN m) HSM.out (by omega) hp hshort.out.1 hshort.out.2).mono ?_
                      rintro e w4 ⟨rfl, m4, rfl⟩
                      go_wp2
                      go_roundw
                      case rel => exact ⟨q + 1, p, by omega, hp, by go_num, by rw [HS.out], HRD.out.drewN _, HBW.out.trans ((only_drewN (fun _ => False) _ _).below HBW.out.size (fun k hk => hk.elim))⟩
                      case measure => simp [intOf]; omega
                    · go_wp2_with fail
                      refine (runary_short (M := 0) (.inr ⟨hneg, rfl⟩) (HRD.out.drewN m) HSM.out (by omega) hp hshort.out.1 hshort.out.2).mono ?_
                      rintro e w4 ⟨rfl, m4, rfl⟩
                      go_wp2
                      go_roundw
                      case rel => exact ⟨q + 1, p, by omega, hp, by go_num, by rw [HS.out], HRD.out.drewN _, HBW.out.trans ((only_drewN (fun _ => False) _ _).below HBW.out.size (fun k hk => hk.elim))⟩
                      case measure => simp [intOf]; omega
        · obtain rfl : q = l.length := by omega
          have hat : ∀ j (h : j < (restAt bs p).length) (h' : j < (signsOf (restAt bs p)).size), (((signsOf (restAt bs p))[j]'h').toNat : Int) = 48 + ((restAt bs p)[j]).toNat := fun j h h' => by rw [signsOf_at h h']; omega
          have hss : (signsOf (restAt bs p)).size = (restAt bs p).length := signsOf_size _
          have HAT := Lib.hid hat
          have HSS := Lib.hid hss
          have HRD := Lib.hid hrd
          have HBW := Lib.hid hbel
          have hc0 : decide ((((signsOf (restAt bs p)).size : Nat) : Int) < 8) = clB bs p 0 := by rw [clB_zero, ← hss, Bool.eq_iff_iff]; simp; omega
          have hs480 : (signsOf (restAt bs p)).size ≤ 480 := by omega
          have HC0 := Lib.hid hc0
          clear hat hss hrd hbel hc0
          generalize signsOf (restAt bs p) = s at *
          go_wp2
          rw [HC0.out]
          go_loop [16, 180] (fun v c => ∃ j : Nat, j ≤ s.size ∧ c = .int .i64 j ∧ v = .bool (clB bs p j)) (fun _ c => s.size - (intOf c).toNat)
          case atStart => exact ⟨0, by omega, rfl, rfl⟩
          case round =>
            obtain ⟨j, hj, rfl, rfl⟩ := hrel
            by_cases hjs : j < s.size
            · have hl : j < (restAt bs p).length := by rw [← HSS.out]; exact hjs
              have hsu := clB_succ bs p j hl
              have hbt := HAT.out j hl hjs
              have hcb : (((s[j]'hjs).toNat : Int) == 48) = !(restAt bs p)[j] := by rw [hbt]; cases (restAt bs p)[j] <;> rfl
              generalize (restAt bs p)[j] = bit at *
              generalize clB bs p j = c at *
              have HSU := Lib.hid hsu
              clear hsu hbt hl
              cases c <;> cases bit
              all_goals
                go_wp2
                go_round
                case rel => exact ⟨j + 1, by omega, by go_num, by rw [HSU.out]; rfl⟩
                case measure => simp [intOf]; omega
            · obtain rfl : j = s.size := by omega
              have hyes : clB bs p s.size = true → 8 * bs.length - p < 8 ∧ ∀ j, j < 8 * bs.length - p → bitIn bs (p + j) = 0 := fun h => clB_yes (by rw [← HSS.out]; exact h)
              have hno : clB bs p s.size = false → ¬ clean bs p := fun h => clB_no (by rw [← HSS.out]; exact h)
              have HY := Lib.hid hyes
              have HN := Lib.hid hno
              clear hyes hno
              generalize clB bs p s.size = c at *
              cases c
              · go_wp2_with fail
                refine (rest_no HRD.out HSM.out (by omega) hp (HN.out trivial)).mono ?_
                rintro e w2 ⟨rfl, m, rfl⟩
                go_wp2
                go_ret
                exact ⟨rfl, HBW.out.trans ((only_drewN (fun _ => False) _ _).below HBW.out.size (fun k hk => hk.elim))⟩
              · go_wp2_with fail
                refine (rest_yes HRD.out HSM.out (by omega) hp (HY.out trivial).1 (HY.out trivial).2).mono ?_
                rintro e w2 ⟨rfl, m, rfl⟩
                go_wp2
                go_ret
                exact ⟨rfl, HBW.out.trans ((only_drewN (fun _ => False) _ _).below HBW.out.size (fun k hk => hk.elim))⟩

set_option maxHeartbeats 2000000 in
set_option maxRecDepth 100000 in
theorem bitsReads_many {ab a : Option Addr} {nb n capb cap : Nat} (hn : 60 < nb ∨ 60 < n) (hb' : nb ≤ 9223372036854775807) (hn' : n ≤ 9223372036854775807) (w : World) (hl : StepsLaid w) :
    Calls Tryd.prog 4 #[.slice ab nb capb, .slice a n cap] w fun e w' => e = .returned (.bool true) ∧ Below w.heap.size w w' := by
  have hL := Lib.hid hl
  clear hl
  rcases (show decide ((60 : Int) < nb) = true ∨ decide ((60 : Int) < nb) = false ∧ decide ((60 : Int) < n) = true by
    rcases hn with h | h
    · exact .inl (by simp; omega)
    · rcases Nat.lt_or_ge 60 nb with h2 | h2
      · exact .inl (by simp; omega)
      · exact .inr ⟨by simp; omega, by simp; omega⟩) with h1 | ⟨h1, h2⟩
  all_goals
    clear hn
    go_enter Tryd.func4, Tryd.ntmps4
    go_wp2_with fail
    refine (lives02 _ hL.out).mono ?_
    rintro e W1 ⟨rfl, hb1⟩
    have HB1 := Lib.hid hb1
    have HL1 := Lib.hid (hL.out.keep hb1 hL.out.lt)
    clear hb1
    go_wp2_with fail
    refine (lives02 _ HL1.out).mono ?_
    rintro e W2 ⟨rfl, hb2⟩
    have HB2 := Lib.hid hb2
    clear hb2
    go_wp2
    go_ret
    exact ⟨rfl, HB1.out.trans (HB2.out.mono HB1.out.size)⟩
end Go.Proofs.YtijionbpljhjhaaDoor
