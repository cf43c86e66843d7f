/- BitsWrites at a slice of at most 60 items, walked. -/
import Derived.Test.YtijionbpljhjhaaDoorBitRows
import Derived.Test.YtijionbpljhjhaaDoorRegMono
import Derived.Deep.LoopGhost
import Derived.Deep.Light
namespace Go.Proofs.YtijionbpljhjhaaDoor
open Go.RowKit

theorem infoIt : (Tryd.prog.info? 30).map (fun i => (i.zero, i.size, i.bytes)) = some (some (.agg #[.int .u64 0, .int .i64 0, .bool false]), 3, 24) := by kernel_rfl

/-- what holds behind k rounds -/
def WRel (W1 : World) (P b off : Nat) (l : List It) (k : Nat) (v : Value) (wr : World) : Prop :=
  (∃ g, WriterAt P wr P g (allBits (l.take k))) ∧ wr.ownsRow P 30 3 v (kept (l.take k)).length (allCells (l.take k)) ∧ Below P W1 wr ∧ StepsLaid wr ∧ ItemsAt wr b off l ∧ P ≤ wr.heap.size

theorem WRel.of_below {W1 w w' : World} {P b off : Nat} {l : List It} {k k' : Nat} {v v' : Value} (h : WRel W1 P b off l k v w) (hb : Below P w w') (hs : 0 < P) (hbP : b < P)
    (h1 : ∃ g, WriterAt P w' P g (allBits (l.take k'))) (h2 : w'.ownsRow P 30 3 v' (kept (l.take k')).length (allCells (l.take k'))) : WRel W1 P b off l k' v' w' := by
  obtain ⟨_, _, h3, h4, h5, h6⟩ := h
  exact ⟨h1, h2, h3.trans hb, h4.keep hb hs, h5.below hb hbP, Nat.le_trans h6 hb.size⟩
theorem WRel.beyond {W1 w w' : World} {P b off : Nat} {l : List It} {k : Nat} {v : Value} (h : WRel W1 P b off l k v w) (hb : Below w.heap.size w w') (hs : 0 < P) (hbP : b < P) : WRel W1 P b off l k v w' := by
  obtain ⟨⟨g, hw⟩, hown, _, _, _, h6⟩ := id h
  exact h.of_below (hb.mono h6) hs hbP ⟨g, by obtain ⟨g', hg'⟩ := WriterAt.of ((Wrote.start hw).beyond hb); exact (hw.only (only_beyond (S := fun _ => False) hb) (fun h => h) (fun _ _ h => h))⟩ (ownsRow_beyond hown hb)
theorem WRel.bad {W1 w : World} {P b off : Nat} {l : List It} {k : Nat} {v : Value} {t : It} (h : WRel W1 P b off l k v w) (ht : l[k]? = some t) (hg : t.good = false) :
    signsOf (allBits (l.take k)) = signsOf (allBits (l.take (k + 1))) ∧ WRel W1 P b off l (k + 1) v w := by
  have e := kept_bad ht hg
  unfold WRel allBits allCells at *
  rw [e]
  exact ⟨rfl, h⟩
/-- a block made behind the writer stays as it is while the writer is written to -/
theorem new_stays {wr wa w2 : World} {P : Nat} {g : Option Nat} {bs bs' : List Bool} {cs : Array Value} {t : TypeId} {fr : Nat × Nat} (hw : WriterAt P wr P g bs) (h2 : Wrote P wa P g bs' w2) (h : wa.heap[wr.heap.size]? = some (.cells cs t fr)) (hlt : wr.heap.size < wa.heap.size) : w2.heap[wr.heap.size]? = some (.cells cs t fr) := by
  obtain ⟨_, v, hv, hh, hown⟩ := hw
  refine (h2.2.2.1.block _ hlt (fun hs => ?_)).trans h
  rcases hs with hs | hs
  · have := lt_of_block hh; omega
  · have := (hown.lt _ (hv.trans hs)).2; omega

/-- a good item is written: the writer has its bits, it is kept -/
theorem WRel.good {W1 wr wa w2 w3 w4 : World} {P b off : Nat} {l : List It} {k : Nat} {v v' : Value} {t : It} {g : Option Nat} (h : WRel W1 P b off l k v wr) (ht : l[k]? = some t) (hg : t.good = true)
    (hs : 0 < P) (hbP : b < P) (ha : Below wr.heap.size wr wa) (hwa : WriterAt P wa P g (allBits (l.take k))) (h2 : Wrote P wa P g (allBits (l.take k) ++ t.bits) w2) (h3 : Below w2.heap.size w2 w3) {o : Obj} (hgrow : (w3.alloc o).grownBy w4 v.ownBlock)
    (hown' : w4.ownsRow P 30 3 v' ((kept (l.take k)).length + 1) (allCells (l.take k) ++ t.cells)) : WRel W1 P b off l (k + 1) v' w4 := by
  obtain ⟨_, hown, _, _, _, h6⟩ := id h
  have hPa : P ≤ wa.heap.size := Nat.le_trans h6 ha.size
  have hb2 := h2.below hPa
  have hk2 := kept_wrote (ownsRow_beyond hown ha) (by decide) (by decide) hwa h2
  have hk3 := ownsRow_beyond (ownsRow_beyond hk2 h3) ((Below.refl w3.heap.size w3).alloc (Nat.le_refl _) o)
  obtain ⟨g2, hw2⟩ := WriterAt.of h2
  have hw3 := (hw2.only (only_beyond (S := fun _ => False) h3) (fun h => h) (fun _ _ h => h)).only (Only.alloc (fun _ => False) w3 o) (fun h => h) (fun _ _ h => h)
  have hP3' : P ≤ w3.heap.size := by have := hb2.size; have := h3.size; omega
  have hP3 : P ≤ (w3.alloc o).heap.size := by simp; omega
  have hb4 : Below P w3 w4 := ((Below.refl P w3).alloc hP3' o).grown hgrow hP3 (fun k hk => (hk3.lt k hk).1)
  have e := kept_good ht hg
  refine h.of_below (((ha.mono h6).trans hb2).trans ((h3.mono (by have := hb2.size; omega)).trans hb4)) hs hbP ⟨g2, ?_⟩ ?_
  · obtain ⟨_, vb, hvb, hh, howb⟩ := id hw3
    have h5 : allBits (l.take (k + 1)) = allBits (l.take k) ++ t.bits := by unfold allBits; rw [e, List.flatMap_append]; simp
    rw [h5]
    refine hw3.only (Only.grown hgrow) ?_ (fun j hj => ?_)
    · exact row_ne hh hk3 (by decide)
    · intro hv
      exact rows_apart hk3 howb (by decide) j hv (hvb.trans hj)
  · have h5 : allCells (l.take (k + 1)) = allCells (l.take k) ++ t.cells := by unfold allCells; rw [e, List.flatMap_append]; simp
    rw [h5, e, List.length_append]
    exact hown'

set_option maxHeartbeats 8000000 in
set_option maxRecDepth 100000 in
theorem bitsWrites_some {a : Option Addr} {b off cap : Nat} {l : List It} (hadr : l ≠ [] → a = some ⟨b, off, none⟩) (hx : ∀ t ∈ l, t.x < 18446744073709551616 ∧ -9223372036854775808 ≤ t.n ∧ t.n ≤ 9223372036854775807) (hl60 : l.length ≤ 60) (w : World) (hc : ItemsAt w b off l) (hbw : b < w.heap.size) (hl : StepsLaid w) :
    Calls Tryd.prog 3 #[.slice a l.length cap] w fun e w' => e = .returned (.bool true) ∧ Below w.heap.size w w' := by
  obtain ⟨i0, hi, hz0, hz1, hz2⟩ := info_parts infoIt
  have HADR := Lib.hid hadr
  clear hadr
  have hL := Lib.hid hl
  have HC := Lib.hid hc
  have HX := Lib.hid hx
  clear hl hc hx
  go_enter Tryd.func3, Tryd.ntmps3
  go_wp2_with fail
  refine (lives02 _ hL.out).mono ?_
  rintro e W1 ⟨rfl, hb1⟩
  have hs0 := hL.out.lt
  have hz1' := hb1.size
  have HB1 := Lib.hid hb1
  have HL1 := Lib.hid ((hL.out.keep hb1 hs0).alloc (.cells #[.slice none 0 0, .int .i64 0] 27))
  have HC1 := Lib.hid (HC.out.below (hb1.trans (((Below.refl w.heap.size W1).alloc hz1' (.cells #[.slice none 0 0, .int .i64 0] 27)))) hbw)
  have HW1 := Lib.hid (writer_new W1)
  clear hb1
  have hd60 : decide ((60 : Int) < l.length) = false := by simp; omega
  have hlen : l.length ≤ 60 := hl60
  clear hl60
  go_wp2_with fail
  have hR0 : Hid (WRel W1 W1.heap.size b off l 0 (.slice none 0 0) (W1.alloc (.cells #[.slice none 0 0, .int .i64 0] 27))) :=
    ⟨⟨none, HW1.out⟩, by simpa [kept, allCells] using World.ownsRow_nil _ _ _ _, (Below.refl _ _).alloc (Nat.le_refl _) _, HL1.out, HC1.out, by simp⟩
  have hsP : 0 < W1.heap.size := by omega
  have hbP : b < W1.heap.size := by omega
  have HZ : Hid (w.heap.size ≤ W1.heap.size ∧ W1.heap.size ≤ W1.heap.size) := ⟨hz1', Nat.le_refl _⟩
  clear hd60 HW1 HL1 HC1 HC hL hs0 hz1'
  generalize W1.heap.size = P at *
  go_loopw [4, 5, 29] (fun s v c wr => ∃ k : Nat, k ≤ l.length ∧ c = .int .i64 k ∧ s = .string (signsOf (allBits (l.take k))) ∧ WRel W1 P b off l k v wr) (fun _ _ c _ => l.length - (intOf c).toNat)
  case atStart => exact ⟨0, by omega, rfl, rfl, hR0.out⟩
  case round =>
    obtain ⟨k, hk, rfl, rfl, hR⟩ := hrel
    clear hR0
    by_cases hlt : k < l.length
    · have ea := HADR.out (by intro h; simp [h] at hlt)
      subst ea
      obtain ⟨⟨g, hw⟩, hown, hbel, hsl, hit, hPs⟩ := id hR
      obtain ⟨t, ht⟩ : ∃ t, l[k]? = some t := ⟨l[k], List.getElem?_eq_getElem hlt⟩
      obtain ⟨a1, a2, a3⟩ := hit k t ht
      have HT := Lib.hid ht
      obtain ⟨x1, x2, x3⟩ := HX.out t (List.mem_of_getElem? ht)
      have HW := Lib.hid hw
      have HO := Lib.hid hown
      have HBL := Lib.hid hbel
      have HS := Lib.hid hsl
      have HI := Lib.hid hit
      clear ht hw hown hbel hsl hit
      obtain ⟨x, n, u⟩ := t
      simp only at a1 a2 a3 x1 x2 x3
      have HR := Lib.hid hR
      have ha : Below wr.heap.size wr (wr.alloc (.cells #[.int .u64 (x : Int), .int .i64 n, .bool u] 30)) := (Below.refl _ _).alloc (Nat.le_refl _) _
      have HA := Lib.hid ha
      have HRa := Lib.hid (hR.beyond ha hsP hbP)
      clear ha hR
      cases u
      · by_cases hbad : n < 0 ∨ 64 < n
        · have hg : It.good ⟨x, n, false⟩ = false := by simp [It.good]; omega
          obtain ⟨e1, e2⟩ := HRa.out.bad HT.out hg
          have E1 := Lib.hid e1
          have E2 := Lib.hid e2
          clear e1 e2 hg
          rcases hbad with hneg | hbig
          · have t1 : decide (n < 0) = true := by simp; omega
            go_wp2_with fail
            refine (put_arg (.inl hneg)).mono ?_
            rintro e w' ⟨rfl, rfl⟩
            go_wp2
            go_roundw
            case rel => exact ⟨k + 1, by omega, by go_num, by rw [E1.out], E2.out⟩
            case measure => simp [intOf]; omega
          · have t1 : decide (n < 0) = false := by simp; omega
            have t2 : decide (64 < n) = true := by simp; omega
            go_wp2_with fail
            refine (put_arg (.inr hbig)).mono ?_
            rintro e w' ⟨rfl, rfl⟩
            go_wp2
            go_roundw
            case rel => exact ⟨k + 1, by omega, by go_num, by rw [E1.out], E2.out⟩
            case measure => simp [intOf]; omega
        · obtain ⟨n, rfl⟩ := Int.eq_ofNat_of_zero_le (show 0 ≤ n by omega)
          have hn64 : n ≤ 64 := by omega
          have t1 : decide ((n : Int) < 0) = false := by simp
          have t2 : decide ((64 : Int) < n) = false := by simp; omega
          clear hbad
          by_cases hrng : n < wid x
          · have hg : It.good ⟨x, n, false⟩ = false := by simp [It.good]; omega
            obtain ⟨e1, e2⟩ := HRa.out.bad HT.out hg
            have E1 := Lib.hid e1
            have E2 := Lib.hid e2
            have hn' : n < 64 := by
              rcases Nat.lt_or_ge n 64 with h | h
              · exact h
              · have := wid_le 64 (x := x) x1; omega
            have t3 : decide ((n : Int) < 64) = true := by simp; omega
            have t4 : decide ((0 : Int) < (x : Int) / 2 ^ n) = true := by
              have h1 : ((x : Int) / 2 ^ n) = ((x / 2 ^ n : Nat) : Int) := by simp
              rw [h1]
              rcases Nat.eq_zero_or_pos (x / 2 ^ n) with h | h
              · have := wid_small h; omega
              · simp; omega
            clear e1 e2 hg
            go_wp2_with fail
            refine (put_range x1 hn64 hrng HRa.out.2.2.2.1).mono ?_
            rintro e w' ⟨rfl, rfl⟩
            go_wp2
            go_roundw
            case rel => exact ⟨k + 1, by omega, by go_num, by rw [E1.out], E2.out⟩
            case measure => simp [intOf]; omega
          · have hg : It.good ⟨x, n, false⟩ = true := by simp [It.good]; omega
            obtain ⟨hbl, hkl⟩ := take_bounds (l := l) (k := k) hlen
            have t34 : decide ((n : Int) < 64) = false ∨ (decide ((n : Int) < 64) = true ∧ decide ((0 : Int) < (x : Int) / 2 ^ n) = false) := by
              have h1 : ((x : Int) / 2 ^ n) = ((x / 2 ^ n : Nat) : Int) := by simp
              rw [h1, wid_div hrng]
              rcases Nat.lt_or_ge n 64 with h | h
              · exact .inr ⟨by simp; omega, by simp⟩
              · exact .inl (by simp; omega)
            have HG := Lib.hid hg
            have hwa := HW.out.only (only_beyond (S := fun _ => False) HA.out) (fun h => h) (fun _ _ h => h)
            have HWA := Lib.hid hwa
            have hzk : wr.heap.size < (wr.alloc (.cells #[.int .u64 (x : Int), .int .i64 (n : Int), .bool false] 30)).heap.size := by simp
            have HNI : Hid ((wr.alloc (.cells #[.int .u64 (x : Int), .int .i64 (n : Int), .bool false] 30)).heap[wr.heap.size]? = some (.cells #[.int .u64 (x : Int), .int .i64 (n : Int), .bool false] 30 (0, 0))) := heap_alloc_new wr _
            have HSa := Lib.hid HRa.out.2.2.2.1
            clear hg hwa HRa
            rcases t34 with t3 | ⟨t3, t4⟩
            all_goals
              go_wp2_with fail
              have hPa : P ≤ (wr.alloc (.cells #[.int .u64 (x : Int), .int .i64 (n : Int), .bool false] 30)).heap.size := Nat.le_trans hPs HA.out.size
              refine (put_ok x1 hn64 (by omega) HSa.out hPa (by omega) (Wrote.start HWA.out)).mono ?_
              rintro e W2 ⟨rfl, h2⟩
              have H2 := Lib.hid h2
              have hb2 := Lib.hid (h2.below hPa)
              have HI2 : Hid (W2.heap[wr.heap.size]? = some (.cells #[.int .u64 (x : Int), .int .i64 (n : Int), .bool false] 30 (0, 0))) := new_stays HW.out h2 HNI.out hzk
              have q1 : W2.cell? ⟨wr.heap.size, 0, none⟩ = some (.int .u64 (x : Int)) := by simp [World.cell?, HI2.out]
              have q2 : W2.cell? ⟨wr.heap.size, 1, none⟩ = some (.int .i64 (n : Int)) := by simp [World.cell?, HI2.out]
              have q3 : W2.cell? ⟨wr.heap.size, 2, none⟩ = some (.bool false) := by simp [World.cell?, HI2.out]
              clear h2
              go_wp2_with fail
              refine (signs_any (k := n) x1 (by omega) W2).mono ?_
              rintro e W3 ⟨rfl, h3⟩
              have H3 := Lib.hid h3
              have hI3 : W3.heap[wr.heap.size]? = some (.cells #[.int .u64 (x : Int), .int .i64 (n : Int), .bool false] 30 (0, 0)) := (h3.block _ (lt_of_block HI2.out)).trans HI2.out
              have d1 : W3.cell? ⟨wr.heap.size, 0, none⟩ = some (.int .u64 (x : Int)) := by simp [World.cell?, hI3]
              have d2 : W3.cell? ⟨wr.heap.size, 1, none⟩ = some (.int .i64 (n : Int)) := by simp [World.cell?, hI3]
              have d3 : W3.cell? ⟨wr.heap.size, 2, none⟩ = some (.bool false) := by simp [World.cell?, hI3]
              have HK3 : Hid (W3.ownsRow P 30 3 u5 (kept (l.take k)).length (allCells (l.take k))) := ownsRow_beyond (kept_wrote (ownsRow_beyond HO.out HA.out) (by decide) (by decide) HWA.out H2.out) h3
              have hP3 : P ≤ W3.heap.size := by have := hb2.out.size; have := h3.size; omega
              have hsz1 : (signsOf (allBits (l.take k))).size ≤ 1000000 := by rw [signsOf_size]; omega
              have hsz2 : (signsOf (numBits x n)).size ≤ 1000000 := by rw [signsOf_size, numBits_length]; omega
              clear h3 hI3 q1 q2 q3
              go_wp2_with (at_builtin; refine wpList_append_own _ rfl (.tmp 87) (.tmp 89) 22 rfl P 30 i0 (.agg #[.int .u64 0, .int .i64 0, .bool false]) 3 24 Tryd.underlying22 hi hz0 hz1 hz2 rfl (by decide) _ _ _ rfl (HK3.out.alloc _) ⟨W3.heap.size, 0, none⟩ 1 1 [.int .u64 (x : Int), .int .i64 n, .bool false] rfl rfl (World.news_of_block (heap_alloc_new W3 _)) (by simp [Value.oneCell']) (by unfold maxLen; omega) (by omega) (by simp; omega) ?_; intro v4 W4 hown4 hgrow4 _; have HO4 := Lib.hid hown4; have HG4 := Lib.hid hgrow4; clear hown4 hgrow4)
              go_roundw
              case rel => exact ⟨k + 1, by omega, by go_num, by rw [bits_good HT.out HG.out, signsOf_append]; rfl, HR.out.good HT.out HG.out hsP hbP HA.out HWA.out H2.out H3.out HG4.out HO4.out⟩
              case measure => simp [intOf]; omega
      · by_cases hret : 100 < n ∧ n ≤ 4096
        · have t1 : decide (100 < n) = true := by simp; omega
          have t2 : decide (n ≤ 4096) = true := by simp; omega
          go_wp2_with fail
          go_ret
          exact ⟨rfl, HB1.out.trans ((HBL.out.trans (HA.out.mono hPs)).mono HZ.out.1)⟩
        · by_cases hbad : n < 0 ∨ 4096 < n
          · have hg : It.good ⟨x, n, true⟩ = false := by simp [It.good]; omega
            obtain ⟨e1, e2⟩ := HRa.out.bad HT.out hg
            have E1 := Lib.hid e1
            have E2 := Lib.hid e2
            clear e1 e2 hg
            rcases hbad with hneg | hbig
            · have t0 : decide (100 < n) = false := by simp; omega
              have t1 : decide (n < 0) = true := by simp; omega
              clear hret
              go_wp2_with fail
              refine (unary_arg (.inl hneg)).mono ?_
              rintro e w' ⟨rfl, rfl⟩
              go_wp2
              go_roundw
              case rel => exact ⟨k + 1, by omega, by go_num, by rw [E1.out], E2.out⟩
              case measure => simp [intOf]; omega
            · have t0 : decide (100 < n) = true := by simp; omega
              have t3 : decide (n ≤ 4096) = false := by simp; omega
              have t1 : decide (n < 0) = false := by simp; omega
              have t2 : decide (4096 < n) = true := by simp; omega
              clear hret
              go_wp2_with fail
              refine (unary_arg (.inr hbig)).mono ?_
              rintro e w' ⟨rfl, rfl⟩
              go_wp2
              go_roundw
              case rel => exact ⟨k + 1, by omega, by go_num, by rw [E1.out], E2.out⟩
              case measure => simp [intOf]; omega
          · obtain ⟨n, rfl⟩ := Int.eq_ofNat_of_zero_le (show 0 ≤ n by omega)
            have hn100 : n ≤ 100 := by omega
            have t0 : decide ((100 : Int) < n) = false := by simp; omega
            have t1 : decide ((n : Int) < 0) = false := by simp
            have t2 : decide ((4096 : Int) < n) = false := by simp; omega
            have hg : It.good ⟨x, n, true⟩ = true := by simp [It.good]; omega
            clear hbad hret
            obtain ⟨hbl, hkl⟩ := take_bounds (l := l) (k := k) hlen
            have HG := Lib.hid hg
            have HWA := Lib.hid (HW.out.only (only_beyond (S := fun _ => False) HA.out) (fun h => h) (fun _ _ h => h))
            have hzk : wr.heap.size < (wr.alloc (.cells #[.int .u64 (x : Int), .int .i64 (n : Int), .bool true] 30)).heap.size := by simp
            have HNI : Hid ((wr.alloc (.cells #[.int .u64 (x : Int), .int .i64 (n : Int), .bool true] 30)).heap[wr.heap.size]? = some (.cells #[.int .u64 (x : Int), .int .i64 (n : Int), .bool true] 30 (0, 0))) := heap_alloc_new wr _
            have HSa := Lib.hid HRa.out.2.2.2.1
            clear hg HRa
            go_wp2_with fail
            have hPa : P ≤ (wr.alloc (.cells #[.int .u64 (x : Int), .int .i64 (n : Int), .bool true] 30)).heap.size := Nat.le_trans hPs HA.out.size
            refine (unary_ok (n := n) (by omega) hPa (by omega) (Wrote.start HWA.out)).mono ?_
            rintro e W3 ⟨rfl, h2⟩
            have H2 := Lib.hid h2
            have hb2 := Lib.hid (h2.below hPa)
            have HI2 : Hid (W3.heap[wr.heap.size]? = some (.cells #[.int .u64 (x : Int), .int .i64 (n : Int), .bool true] 30 (0, 0))) := new_stays HW.out h2 HNI.out hzk
            have d1 : W3.cell? ⟨wr.heap.size, 0, none⟩ = some (.int .u64 (x : Int)) := by simp [World.cell?, HI2.out]
            have d2 : W3.cell? ⟨wr.heap.size, 1, none⟩ = some (.int .i64 (n : Int)) := by simp [World.cell?, HI2.out]
            have d3 : W3.cell? ⟨wr.heap.size, 2, none⟩ = some (.bool true) := by simp [World.cell?, HI2.out]
            have HK3 : Hid (W3.ownsRow P 30 3 u5 (kept (l.take k)).length (allCells (l.take k))) := kept_wrote (ownsRow_beyond HO.out HA.out) (by decide) (by decide) HWA.out H2.out
            have hP3 : P ≤ W3.heap.size := by have := hb2.out.size; omega
            have hsz1 : (signsOf (allBits (l.take k))).size ≤ 1000000 := by rw [signsOf_size]; omega
            clear h2
            go_wp2
            have hS : Hid (signsOf (List.replicate 0 true) = ⟨#[]⟩) := rfl
            have hcat0 : Hid (∀ q, signsOf (List.replicate (q + 1) true) = signsOf (List.replicate q true) ++ ⟨#[49]⟩) := fun q => by rw [List.replicate_succ', signsOf_append]; rfl
            go_loop [4, 59] (fun s c => ∃ q : Nat, q ≤ n ∧ c = .int .i64 q ∧ s = .string (signsOf (allBits (l.take k)) ++ signsOf (List.replicate q true))) (fun _ c => n - (intOf c).toNat)
            case atStart => exact ⟨0, by omega, rfl, by rw [hS.out]; congr 1; apply ByteArray.ext; simp⟩
            case round =>
              obtain ⟨q, hq, rfl, rfl⟩ := hrel
              have hsz2 : (signsOf (List.replicate q true)).size ≤ 1000000 := by rw [signsOf_size, List.length_replicate]; omega
              by_cases hqn : q < n
              · go_wp2
                go_round
                case rel => exact ⟨q + 1, by omega, by go_num, by rw [hcat0.out, ByteArray.append_assoc]⟩
                case measure => simp [intOf]; omega
              · obtain rfl : n = q := by omega
                go_wp2_with (at_builtin; refine wpList_append_own _ rfl (.tmp 68) (.tmp 70) 22 rfl P 30 i0 (.agg #[.int .u64 0, .int .i64 0, .bool false]) 3 24 Tryd.underlying22 hi hz0 hz1 hz2 rfl (by decide) _ _ _ rfl (HK3.out.alloc _) ⟨W3.heap.size, 0, none⟩ 1 1 [.int .u64 (x : Int), .int .i64 n, .bool true] rfl rfl (World.news_of_block (heap_alloc_new W3 _)) (by simp [Value.oneCell']) (by unfold maxLen; omega) (by omega) (by simp; omega) ?_; intro v4 W4 hown4 hgrow4 _; have HO4 := Lib.hid hown4; have HG4 := Lib.hid hgrow4; clear hown4 hgrow4)
                go_roundw
                case rel => exact ⟨k + 1, by omega, by go_num, by rw [bits_good HT.out HG.out, signsOf_append, It.bits, if_pos rfl, signsOf_append, ← ByteArray.append_assoc]; rfl, HR.out.good HT.out HG.out hsP hbP HA.out HWA.out H2.out (Below.refl _ _) HG4.out HO4.out⟩
                case measure => simp [intOf]; omega
    · obtain rfl : k = l.length := by omega
      obtain ⟨wq, hwq⟩ : ∃ wq, wq = wr := ⟨_, rfl⟩
      subst hwq
      obtain ⟨⟨g, hw⟩, hown, hbel, _, _, hPs⟩ := hR
      obtain ⟨hbl, hkl⟩ := take_bounds (l := l) (k := l.length) hlen
      have htk : l.take l.length = l := List.take_of_length_le (Nat.le_refl _)
      rw [htk] at hw hown hbl hkl
      rw [htk]
      have HW := Lib.hid hw
      have HO := Lib.hid hown
      have HBL := Lib.hid hbel
      have GB := Lib.hid (gives_of hw (by omega))
      have LB := Lib.hid (tells_of hw)
      have HPK := Lib.hid (pack_any (allBits l) hbl)
      have hsg : (signsOf (allBits l)).size = (allBits l).length := signsOf_size _
      obtain ⟨ak, ck, rfl⟩ := own_slice3 hown
      clear hw hown hbel htk
      go_wp2_with fail
      refine wp_region_held_drew (S := fun _ => True) (by kernel_rfl) trivial (fun _ => ?_)
      refine anyH_take (i := 0) (some 117) (v := _) rfl rfl (by kernel_rfl) (by kernel_rfl) (by kernel_rfl) (fun _ _ _ h => h) (by rfl) (trivial) (by intro w hSw; go_simp; try with_reducible rfl) ?_
      (try simp only [Act.put, List.setIfInBounds_toArray, List.set_cons_zero, List.set_cons_succ])
      refine anyH_take (i := 2) (some 119) (v := _) rfl rfl (by kernel_rfl) (by kernel_rfl) (by kernel_rfl) (fun _ _ _ h => h) (by rfl) (trivial) (by intro w hSw; go_simp; try with_reducible rfl) ?_
      (try simp only [Act.put, List.setIfInBounds_toArray, List.set_cons_zero, List.set_cons_succ])
      refine anyH_take (i := 3) (some 120) (v := _) rfl rfl (by kernel_rfl) (by kernel_rfl) (by kernel_rfl) (fun _ _ _ h => h) (by rfl) (trivial) (by intro w hSw; go_simp; try with_reducible rfl) ?_
      (try simp only [Act.put, List.setIfInBounds_toArray, List.set_cons_zero, List.set_cons_succ])
      refine wpAnyH_ready (rs := [1]) (by kernel_rfl) (by simp) (AllReadyH.cons rfl (fun K hK => ?_) AllReadyH.nil)
      go_simp
      (refine (LB.out _ (Below.refl _ _).drew).mono ?_; rintro e w' ⟨rfl, rfl⟩)
      go_wp2_with fail
      refine hK.out _ _ (trivial) (fun _ => ?_)
      clear hK K
      (try simp only [Act.put, List.setIfInBounds_toArray, List.set_cons_zero, List.set_cons_succ])
      refine anyH_take (i := 4) (some 121) (v := _) rfl rfl (by kernel_rfl) (by kernel_rfl) (by kernel_rfl) (fun _ _ _ h => h) (by rfl) (trivial) (by intro w hSw; go_simp; try with_reducible rfl) ?_
      (try simp only [Act.put, List.setIfInBounds_toArray, List.set_cons_zero, List.set_cons_succ])
      refine anyH_take (i := 5) (some 122) (v := _) rfl rfl (by kernel_rfl) (by kernel_rfl) (by kernel_rfl) (fun _ _ _ h => h) (by rfl) (trivial) (by intro w hSw; go_simp; try with_reducible rfl) ?_
      (try simp only [Act.put, List.setIfInBounds_toArray, List.set_cons_zero, List.set_cons_succ])
      refine anyH_take (i := 6) (some 123) (v := _) rfl rfl (by kernel_rfl) (by kernel_rfl) (by kernel_rfl) (fun _ _ _ h => h) (by rfl) (trivial) (by intro w hSw; go_simp; try with_reducible rfl) ?_
      (try simp only [Act.put, List.setIfInBounds_toArray, List.set_cons_zero, List.set_cons_succ])
      refine anyH_take (i := 9) (some 126) (v := _) rfl rfl (by kernel_rfl) (by kernel_rfl) (by kernel_rfl) (fun _ _ _ h => h) (by rfl) (trivial) (by intro w hSw; go_simp; try with_reducible rfl) ?_
      (try simp only [Act.put, List.setIfInBounds_toArray, List.set_cons_zero, List.set_cons_succ])
      refine wpAnyH_ready (rs := [7]) (by kernel_rfl) (by simp) (AllReadyH.cons rfl (fun K hK => ?_) AllReadyH.nil)
      go_simp
      (refine (GB.out _ (Below.refl _ _).drew).mono ?_; rintro e w5 ⟨v5, rfl, hb5, _, hc5⟩; have HB5 := Lib.hid hb5; have hq5 := hc5; clear hb5 hc5)
      go_wp2_with fail
      refine hK.out _ _ (trivial) (fun _ => ?_)
      clear hK K
      (try simp only [Act.put, List.setIfInBounds_toArray, List.set_cons_zero, List.set_cons_succ])
      refine anyH_mono (S' := fun w => Below w5.heap.size w5 w) (fun _ _ => trivial) ?_
      refine anyH_take (i := 8) (some 125) (v := _) rfl rfl (by kernel_rfl) (by kernel_rfl) (by kernel_rfl) (fun _ _ _ h => h) (by rfl) (Below.refl _ _) (by intro w hSw; go_simp; try with_reducible rfl) ?_
      (try simp only [Act.put, List.setIfInBounds_toArray, List.set_cons_zero, List.set_cons_succ])
      refine wpAnyH_ready (rs := [10]) (by kernel_rfl) (by simp) (AllReadyH.cons rfl (fun K hK => ?_) AllReadyH.nil)
      go_simp
      (refine (HPK.out _).mono ?_; rintro e w6 ⟨rfl, hb6⟩; have HB6 := Lib.hid hb6; clear hb6)
      go_wp2_with fail
      refine hK.out _ _ (HB6.out) (fun _ => ?_)
      clear hK K
      (try simp only [Act.put, List.setIfInBounds_toArray, List.set_cons_zero, List.set_cons_succ])
      refine anyH_take (i := 11) (some 128) (v := _) rfl rfl (by kernel_rfl) (by kernel_rfl) (by kernel_rfl) (fun _ _ _ h => h) (by rfl) (HB6.out) (by intro w hSw; go_simp; try with_reducible rfl) ?_
      (try simp only [Act.put, List.setIfInBounds_toArray, List.set_cons_zero, List.set_cons_succ])
      refine anyH_take (i := 12) (some 129) (v := _) rfl rfl (by kernel_rfl) (by kernel_rfl) (by kernel_rfl) (fun _ _ _ h => h) (by rfl) (HB6.out) (by intro w hSw; go_simp; try with_reducible rfl) ?_
      (try simp only [Act.put, List.setIfInBounds_toArray, List.set_cons_zero, List.set_cons_succ])
      refine wpAnyH_done (by kernel_rfl) ?_ _
      have HB56 : Hid (Below wq.heap.size wq w6) := HB5.out.trans (HB6.out.mono HB5.out.size)
      clear hq5 hsg
      go_wp2_with fail
      refine (bytesW P ((Wrote.start HW.out).beyond HB56.out) (by omega)).mono ?_
      rintro e W7 ⟨v7, rfl, ho7, hb7⟩
      have HL7 := Lib.hid (ownsRow_lies ho7)
      have HB7 : Hid (Below wq.heap.size wq W7) := HB56.out.trans (hb7.mono HB56.out.size)
      clear ho7 hb7
      have hpl : (packB (allBits l)).length ≤ 1000000 := by rw [packB_length]; omega
      go_wp2_with fail
      refine (read_any HL7.out (by omega)).mono ?_
      rintro e W8 ⟨R, rfl, hr8, hb8⟩
      have HR8 := Lib.hid hr8
      have hRs : wq.heap.size ≤ R := Nat.le_trans HB7.out.size hr8.1
      have HB8 : Hid (Below wq.heap.size wq W8) := HB7.out.trans (hb8.mono HB7.out.size)
      have hz7 : wq.heap.size ≤ W7.heap.size := HB7.out.size
      clear hr8 hb8
      go_wp2
      generalize W7.heap.size = B7 at *
      go_loopw [135] (fun c w2 => ∃ j : Nat, j ≤ (kept l).length ∧ c = .int .i64 j ∧ ReaderAt B7 w2 R (packB (allBits l)) (((kept l).take j).flatMap It.bits).length ∧ Below wq.heap.size wq w2) (fun c _ => (kept l).length - (intOf c).toNat)
      case atStart => exact ⟨0, by omega, rfl, HR8.out, HB8.out⟩
      case round =>
        obtain ⟨j, hj, rfl, hrd, hbw2⟩ := hrel
        by_cases hlt2 : j < (kept l).length
        · obtain ⟨t, ht⟩ : ∃ t, (kept l)[j]? = some t := ⟨(kept l)[j], List.getElem?_eq_getElem hlt2⟩
          obtain ⟨gk, ck', eK, _, hgk⟩ := HO.out.form (by omega)
          simp only [Value.slice.injEq, true_and] at eK
          obtain ⟨rfl, rfl⟩ := eK
          have hcell : ∀ i u, i < 3 → t.cells[i]? = some u → wr.cell? ⟨gk, j * 3 + i, none⟩ = some u := fun i u hi' hu => by
            rw [hbw2.cell (p := ⟨gk, j * 3 + i, none⟩) hgk, HO.out.cellAt (j * 3 + i) (by omega), ← hu]
            exact cells_at ht i hi'
          obtain ⟨hm1, hm2⟩ := kept_mem (List.mem_of_getElem? ht)
          obtain ⟨x1, x2, x3⟩ := HX.out t hm1
          obtain ⟨post, hs1, hs2⟩ := flat_split ht
          have hs1' : allBits l = ((kept l).take j).flatMap It.bits ++ t.bits ++ post := hs1
          have hzr : wq.heap.size ≤ wr.heap.size := hbw2.size
          have hpos : (((kept l).take j).flatMap It.bits).length + t.bits.length ≤ 8 * (packB (allBits l)).length := by
            rw [packB_length, hs1']; simp only [List.length_append]; omega
          have hnew : (((kept l).take (j + 1)).flatMap It.bits).length = (((kept l).take j).flatMap It.bits).length + t.bits.length := by rw [hs2, List.length_append]
          have HNEW := Lib.hid hnew
          have HBW := Lib.hid hbw2
          obtain ⟨x, n, u⟩ := t
          have a1 := hcell 0 _ (by omega) rfl
          have a2 := hcell 1 _ (by omega) rfl
          have a3 := hcell 2 _ (by omega) rfl
          simp only [Nat.add_zero] at a1 a2 a3
          have HRD := Lib.hid (hrd.beyond ((Below.refl wr.heap.size wr).alloc (Nat.le_refl _) (.cells #[.int .u64 (x : Int), .int .i64 n, .bool u] 30)))
          have HS1 := Lib.hid hs1'
          have hRlt : R < wr.heap.size := lt_of_block hrd.2.choose_spec.1
          clear hcell ht hm1 hs1 hs2 hs1' hnew hbw2 hrd
          simp only at x1 x2 x3
          generalize (((kept l).take j).flatMap It.bits) = pre at *
          cases u
          · have hn : 0 ≤ n ∧ n ≤ 64 ∧ wid x ≤ n.toNat := by simpa [It.good] using hm2
            obtain ⟨n, rfl⟩ := Int.eq_ofNat_of_zero_le hn.1
            have hval : valOf (packB (allBits l)) pre.length n = x := by rw [HS1.out]; exact read_num (by simpa using hn.2.2)
            have hbn : (It.bits ⟨x, (n : Int), false⟩).length = n := by simp [It.bits, numBits_length]
            have hn64 : n ≤ 64 := by omega
            rw [hbn] at hpos HNEW
            have HV := Lib.hid hval
            clear hm2 hn hval hbn
            go_wp2_with fail
            refine (get_ok (k := n) HRD.out (packB_small _) (by omega) (by omega) hn64 (by omega)).mono ?_
            rintro e w2 ⟨rfl, hr, ho⟩
            rw [HV.out]
            have HR2 := Lib.hid hr
            have hit2 : w2.heap[wr.heap.size]? = some (.cells #[.int .u64 (x : Int), .int .i64 (n : Int), .bool false] 30 (0, 0)) := (ho.block _ (by simp) (by omega)).trans (heap_alloc_new wr _)
            have d1 : w2.cell? ⟨wr.heap.size, 0, none⟩ = some (.int .u64 (x : Int)) := by simp [World.cell?, hit2]
            have d2 : w2.cell? ⟨wr.heap.size, 1, none⟩ = some (.int .i64 (n : Int)) := by simp [World.cell?, hit2]
            have d3 : w2.cell? ⟨wr.heap.size, 2, none⟩ = some (.bool false) := by simp [World.cell?, hit2]
            have HO2 := Lib.hid (ho.below (B := wq.heap.size) (by simp; omega) (fun k hk => by omega))
            clear hr ho hit2
            go_wp2
            go_roundw
            case rel => exact ⟨j + 1, by omega, by go_num, by rw [HNEW.out]; exact HR2.out, HBW.out.trans (((Below.refl wr.heap.size wr).alloc (Nat.le_refl _) _).mono hzr |>.trans HO2.out)⟩
            case measure => simp [intOf]; omega
          · have hn : 0 ≤ n ∧ n ≤ 4096 := by simpa [It.good] using hm2
            obtain ⟨n, rfl⟩ := Int.eq_ofNat_of_zero_le hn.1
            have hbe : It.bits ⟨x, (n : Int), true⟩ = List.replicate n true ++ [false] := by simp [It.bits]
            have hbn : (It.bits ⟨x, (n : Int), true⟩).length = n + 1 := by rw [hbe]; simp
            have hone : (∀ q, q < n → bitIn (packB (allBits l)) (pre.length + q) = 1) ∧ bitIn (packB (allBits l)) (pre.length + n) = 0 := by rw [HS1.out, hbe]; exact read_ones
            have hn64 : n ≤ 4096 := by omega
            rw [hbn] at hpos HNEW
            have HV := Lib.hid hone
            clear hm2 hn hone hbn hbe
            go_wp2_with fail
            refine (runary_ok (t := n) (M := n) (.inl rfl) HRD.out (packB_small _) (by omega) (by omega) (by omega) (Nat.le_refl _) HV.out.1 HV.out.2).mono ?_
            rintro e w2 ⟨rfl, hr, ho⟩
            have HR2 := Lib.hid hr
            have hit2 : w2.heap[wr.heap.size]? = some (.cells #[.int .u64 (x : Int), .int .i64 (n : Int), .bool true] 30 (0, 0)) := (ho.block _ (by simp) (by omega)).trans (heap_alloc_new wr _)
            have d1 : w2.cell? ⟨wr.heap.size, 0, none⟩ = some (.int .u64 (x : Int)) := by simp [World.cell?, hit2]
            have d2 : w2.cell? ⟨wr.heap.size, 1, none⟩ = some (.int .i64 (n : Int)) := by simp [World.cell?, hit2]
            have d3 : w2.cell? ⟨wr.heap.size, 2, none⟩ = some (.bool true) := by simp [World.cell?, hit2]
            have HO2 := Lib.hid (ho.below (B := wq.heap.size) (by simp; omega) (fun k hk => by omega))
            clear hr ho hit2
            go_wp2
            go_roundw
            case rel => exact ⟨j + 1, by omega, by go_num, by rw [HNEW.out]; exact HR2.out, HBW.out.trans (((Below.refl wr.heap.size wr).alloc (Nat.le_refl _) _).mono hzr |>.trans HO2.out)⟩
            case measure => simp [intOf]; omega
        · obtain rfl : j = (kept l).length := by omega
          have htk2 : (kept l).take (kept l).length = kept l := List.take_of_length_le (Nat.le_refl _)
          rw [htk2] at hrd
          have hrd' : ReaderAt B7 wr R (packB (allBits l)) (allBits l).length := hrd
          have hcl := rest_clean (allBits l)
          have hlb : (allBits l).length ≤ 8 * (packB (allBits l)).length := by rw [packB_length]; omega
          have HRD := Lib.hid hrd'
          have HC2 := Lib.hid hcl
          have HBW := Lib.hid hbw2
          have h8 : 8 * (packB (allBits l)).length - (allBits l).length < 8 := hcl.1
          clear hrd hrd' hcl hbw2 htk2
          go_wp2_with fail
          refine (rest_yes HRD.out (packB_small _) (by omega) hlb h8 HC2.out.2).mono ?_
          rintro e w2 ⟨rfl, m, rfl⟩
          go_wp2_with fail
          refine (left_any (HRD.out.drewN m) (by omega) hlb).mono ?_
          rintro e w3 ⟨rfl, m3, rfl⟩
          have hd8 : decide (((8 * (packB (allBits l)).length - (allBits l).length : Nat) : Int) < 8) = true := by simp; omega
          go_wp2
          go_ret
          refine ⟨rfl, HB1.out.trans ((HBL.out.trans ((HBW.out.trans ((only_drewN (fun _ => False) wr _).below (B := wq.heap.size) HBW.out.size (fun k hk => hk.elim))).mono hPs)).mono HZ.out.1)⟩

set_option maxHeartbeats 2000000 in
set_option maxRecDepth 100000 in
theorem bitsWrites_many {a : Option Addr} {n cap : Nat} (hn : 60 < n) (hn' : n ≤ 9223372036854775807) (w : World) (hl : StepsLaid w) :
    Calls Tryd.prog 3 #[.slice a n cap] w fun e w' => e = .returned (.bool true) ∧ Below w.heap.size w w' := by
  have hL := Lib.hid hl
  have hd60 : decide ((60 : Int) < n) = true := by simp; omega
  clear hl
  go_enter Tryd.func3, Tryd.ntmps3
  go_wp2_with fail
  refine (lives02 _ hL.out).mono ?_
  rintro e W1 ⟨rfl, hb1⟩
  have HB1 := Lib.hid hb1
  have HL1 := Lib.hid (hL.out.keep hb1 hL.out.lt)
  clear hb1
  go_wp2_with fail
  refine (lives02 _ HL1.out).mono ?_
  rintro e W2 ⟨rfl, hb2⟩
  have HB2 := Lib.hid hb2
  clear hb2
  go_wp2
  go_ret
  exact ⟨rfl, HB1.out.trans (HB2.out.mono HB1.out.size)⟩
end Go.Proofs.YtijionbpljhjhaaDoor
