/- Package series: a series as it lies; New, held, Len, Put. -/
import Derived.Test.YtpgbeebpeldjdaaSeWith
import Derived.Test.YtpgbeebpeldjdaaSeIdx
import Derived.Deep.DeepCutAuto
namespace Go.Proofs.Ytpgbeebpeldjdaa
open Go.RowKit

/-- what a series may have -/
structure GoodS (l : List Pt) : Prop where
  srt : Srt l
  tick : ∀ p ∈ l, 0 ≤ p.a ∧ p.a ≤ 1099511627776
  fits : ∀ p ∈ l, p.fits
  len : l.length ≤ 256
/-- a series at s: its slice is v, its points are l -/
structure SerV (w : World) (s : Nat) (v : Value) (l : List Pt) : Prop where
  at_ : w.heap[s]? = some (.cells #[v] 48 (0, 0))
  row : PtRowB 0 w v l
  good : GoodS l
theorem GoodS.nil : GoodS [] := ⟨srt_nil, fun _ h => by simp at h, fun _ h => by simp at h, by simp⟩
theorem SerV.lt {w : World} {s : Nat} {v : Value} {l : List Pt} (h : SerV w s v l) : s < w.heap.size := lt_of_block h.at_
theorem SerV.cell {w : World} {s : Nat} {v : Value} {l : List Pt} (h : SerV w s v l) : w.cell? ⟨s, 0, none⟩ = some v ∧ w.frozen? ⟨s, 0, none⟩ = false := cells1 h.at_
theorem SerV.ne {w : World} {s : Nat} {v : Value} {l : List Pt} (h : SerV w s v l) : v.ownBlock ≠ some s := row_ne h.at_ h.row (by decide)
/-- the blocks of a series -/
def SBlk (s : Nat) (v : Value) (k : Nat) : Prop := k = s ∨ v.ownBlock = some k
theorem SBlk.lt {w : World} {s : Nat} {v : Value} {l : List Pt} (h : SerV w s v l) {k : Nat} (hk : SBlk s v k) : k < w.heap.size := by
  rcases hk with rfl | hk
  · exact h.lt
  · exact (h.row.lt _ hk).2
theorem SerV.only {S : Nat → Prop} {w w' : World} {s : Nat} {v : Value} {l : List Pt} (h : SerV w s v l) (ho : Only S w w') (hS : ∀ k, SBlk s v k → ¬ S k) : SerV w' s v l :=
  ⟨(ho.block s h.lt (hS s (.inl rfl))).trans h.at_, row_only h.row ho (fun k hk => hS k (.inr hk)), h.good⟩
theorem SerV.keep {w w' : World} {s : Nat} {v : Value} {l : List Pt} (h : SerV w s v l) (hb : Below w.heap.size w w') : SerV w' s v l := h.only (only_beyond (S := fun _ => False) hb) (fun _ _ h => h)
theorem SerV.drew {w : World} {s : Nat} {v : Value} {l : List Pt} (h : SerV w s v l) : SerV w.drew s v l := h.keep ((Below.refl _ w).drew)
theorem SerV.plies {w : World} {s : Nat} {v : Value} {l : List Pt} (h : SerV w s v l) : PLies w v l := h.row.plies
theorem senew_any (w : World) : Calls Try.prog 7 #[] w fun e w' => e = .returned (.pointer (some ⟨w.heap.size, 0, none⟩)) ∧ SerV w' w.heap.size (.slice none 0 0) [] ∧ Below w.heap.size w w' := by
  go_enter Try.func7, Try.ntmps7
  go_wp2
  go_ret
  exact ⟨rfl, ⟨heap_alloc_new w _, PtRowB.nil _ _, GoodS.nil⟩, (Below.refl _ _).alloc (Nat.le_refl _) _⟩
theorem seheld_any {w : World} {s : Nat} {v : Value} {l : List Pt} (h : SerV w s v l) : Calls Try.prog 23 #[.pointer (some ⟨s, 0, none⟩)] w fun e w' => e = .returned v ∧ w' = w := by
  have c0 := h.cell.1
  clear h
  go_enter Try.func23, Try.ntmps23
  go_wp2
  go_ret
  exact ⟨rfl, rfl⟩
theorem seheld_none (w : World) : Calls Try.prog 23 #[.pointer none] w fun e w' => e = .returned (.slice none 0 0) ∧ w' = w := by
  go_enter Try.func23, Try.ntmps23
  go_wp2
  go_ret
  exact ⟨rfl, rfl⟩
theorem selen_any {w : World} {s : Nat} {v : Value} {l : List Pt} (h : SerV w s v l) : Calls Try.prog 12 #[.pointer (some ⟨s, 0, none⟩)] w fun e w' => e = .returned (.int .i64 (l.length : Nat)) ∧ w' = w := by
  have H := Lib.hid (seheld_any h)
  obtain ⟨a, c, rfl⟩ := own_slice h.row
  clear h
  go_enter Try.func12, Try.ntmps12
  go_wp2_with fail
  refine H.out.mono ?_
  rintro e w2 ⟨rfl, hw⟩
  replace hw := hw.symm
  subst hw
  go_wp2
  go_ret
  exact ⟨rfl, rfl⟩
theorem selen_none (w : World) : Calls Try.prog 12 #[.pointer none] w fun e w' => e = .returned (.int .i64 0) ∧ w' = w := by
  have H := Lib.hid (seheld_none w)
  go_enter Try.func12, Try.ntmps12
  go_wp2_with fail
  refine H.out.mono ?_
  rintro e w2 ⟨rfl, hw⟩
  replace hw := hw.symm
  subst hw
  go_wp2
  go_ret
  exact ⟨rfl, rfl⟩
/-- what Put tells, and what is there behind it -/
def putE (l k : List Pt) : Int × Int × List Pt := if k.any outP = true then (0, 3, l) else if 256 < (putL l k).length then (0, 6, l) else (((putL l k).length : Int) - l.length, 0, putL l k)
theorem seput_none (w : World) (x : Value) : Calls Try.prog 8 #[.pointer none, x] w fun e w' => e = .returned (.tuple #[.int .i64 0, .int .i64 1]) ∧ w' = w := by
  go_enter Try.func8, Try.ntmps8
  go_wp2
  go_ret2
  exact ⟨rfl, rfl⟩
theorem any_out {k : List Pt} (h : k.any outP = false) : ∀ p ∈ k, 0 ≤ p.a ∧ p.a ≤ 1099511627776 := by
  intro p hp
  have := List.any_eq_false.1 h p hp
  unfold outP at this
  simp at this
  exact this
theorem GoodS.put {l k : List Pt} (h : GoodS l) (hk : k.any outP = false) (hf : ∀ p ∈ k, p.fits) (hn : (putL l k).length ≤ 256) : GoodS (putL l k) :=
  ⟨putL_srt h.srt k, putL_all h.tick (any_out hk), putL_all h.fits hf, hn⟩
theorem putL_take_len {l : List Pt} (hs : Srt l) (k : List Pt) (j : Nat) : (putL l (k.take j)).length ≤ (putL l k).length := by
  have h := (putL_le (putL_srt hs (k.take j)) (k.drop j)).1
  rwa [← putL_append, List.take_append_drop] at h
theorem putL_snoc {l k : List Pt} {j : Nat} {p : Pt} (h : k[j]? = some p) : putL l (k.take (j + 1)) = putP (putL l (k.take j)) p := by
  rw [List.take_add_one, h, putL_append]; rfl
theorem PLies.get {w : World} {a : Option Addr} {n c : Nat} {l : List Pt} (h : PLies w (.slice a n c) l) {i : Nat} {p : Pt} (hp : l[i]? = some p) : ∃ b off, a = some ⟨b, off, none⟩ ∧ w.cell? ⟨b, off + i * 2, none⟩ = some (.int .i64 p.a) ∧ w.cell? ⟨b, off + i * 2 + 1, none⟩ = some (.int .i64 p.v) := by
  obtain ⟨a', b, off, cap, e, hadr, hpts⟩ := h
  injection e with e1 e2 e3
  have hne : l ≠ [] := by rintro rfl; simp at hp
  obtain ⟨h1, h2⟩ := hpts i p hp
  exact ⟨b, off, by rw [e1]; exact hadr hne, h1, h2⟩
set_option maxHeartbeats 8000000 in
set_option maxRecDepth 100000 in
theorem seput_any {w : World} {s : Nat} {v : Value} {l : List Pt} (h : SerV w s v l) {x : Value} {k : List Pt} (hx : PLies w x k) (hf : ∀ p ∈ k, p.fits) (hn : k.length ≤ maxLen) :
    Calls Try.prog 8 #[.pointer (some ⟨s, 0, none⟩), x] w fun e w' => e = .returned (.tuple #[.int .i64 (putE l k).1, .int .i64 (putE l k).2.1]) ∧ (∃ v', SerV w' s v' (putE l k).2.2 ∧ (v' = v ∨ PtRowB w.heap.size w' v' (putE l k).2.2)) ∧ Only (fun b => b = s) w w' := by
  have HC := Lib.hid (secont_any hx hn)
  have HS := Lib.hid h
  have HX := Lib.hid hx
  have HF := Lib.hid hf
  have HN := Lib.hid hn
  obtain ⟨a, c, rfl⟩ := hx.len
  cases ho : k.any outP with
  | true =>
    have HE : Hid (putE l k = (0, 3, l)) := Lib.hid (by unfold putE; rw [if_pos ho])
    rw [ho] at HC
    clear h hx hf hn ho
    go_enter Try.func8, Try.ntmps8
    go_wp2_with fail
    refine HC.out.mono ?_
    rintro e W1 ⟨rfl, hb⟩
    have HB := Lib.hid hb
    clear hb
    go_wp2
    go_ret2
    refine ⟨by rw [HE.out]; rfl, ⟨v, ?_, .inl rfl⟩, only_beyond HB.out⟩
    rw [HE.out]
    exact HS.out.keep HB.out
  | false =>
    rw [ho] at HC
    have HO := Lib.hid ho
    have HSR := Lib.hid h.good.srt
    have HL := Lib.hid h.good.len
    clear h hx hf hn ho
    go_enter Try.func8, Try.ntmps8
    go_wp2_with fail
    refine HC.out.mono ?_
    rintro e W1 ⟨rfl, hb⟩
    have HS1 := Lib.hid (HS.out.keep hb)
    have HX1 := Lib.hid (HX.out.beyond hb)
    have HB1 := Lib.hid hb
    clear hb HC
    obtain ⟨c0, -⟩ := HS1.out.cell
    dsimp only
    go_wp2_with fail
    refine (seclo_any HS1.out.plies (by have := HL.out; omega)).mono ?_
    rintro e W2 ⟨v2, rfl, hr2, hb⟩
    have HS2 := Lib.hid (HS1.out.keep hb)
    have HX2 := Lib.hid (HX1.out.beyond hb)
    have HB2 := Lib.hid (HB1.out.trans (hb.mono HB1.out.size))
    have HR2 : Hid (PtRowB w.heap.size W2 v2 l) := Lib.hid (hr2.base HB1.out.size)
    clear hb hr2 HS1 HX1 HB1 c0
    dsimp only
    go_wp2_with fail
    go_loopw [6, 20] (fun u z wr => ∃ j : Nat, z = .int .i64 j ∧ j ≤ k.length ∧ PtRowB w.heap.size wr u (putL l (k.take j)) ∧ (putL l (k.take j)).length ≤ 256 ∧ Below w.heap.size w wr) (fun _ z _ => k.length - (intOf z).toNat)
    case atStart => exact ⟨0, rfl, Nat.zero_le _, by rw [List.take_zero]; exact HR2.out, by rw [List.take_zero]; exact HL.out, HB2.out⟩
    case round =>
      obtain ⟨j, rfl, hj, hrow, hlen, hb⟩ := hrel
      obtain ⟨W3, hW3⟩ : ∃ W3, W3 = wr := ⟨_, rfl⟩
      subst hW3
      have HR3 := Lib.hid hrow
      have HLN := Lib.hid hlen
      have HB3 := Lib.hid hb
      have HS3 := Lib.hid (HS.out.keep hb)
      have HX3 := Lib.hid (HX.out.beyond hb)
      clear hrow hlen hb
      by_cases hlt : j < k.length
      · obtain ⟨p, hp⟩ : ∃ p, k[j]? = some p := ⟨k[j], List.getElem?_eq_getElem hlt⟩
        obtain ⟨b, off, ea, c0, c1⟩ := HX3.out.get hp
        subst ea
        have HPK := Lib.hid hp
        have hNN := HN.out
        have hmax : j < 9223372036854775807 := by unfold maxLen at hNN; omega
        clear hp hNN
        go_upto_region 9 with fail
        refine wp_name fun W4 hW4 => ?_
        obtain ⟨P, hP⟩ : ∃ P, P = W3.heap.size := ⟨_, rfl⟩
        have hb4 : Below W3.heap.size W3 W4 := by rw [hW4.out]; exact (Below.refl _ W3).alloc (Nat.le_refl _) _
        have HT4 : Hid (PtAt W4 P p) := Lib.hid (by rw [hW4.out, hP]; exact PtAt.new W3 p)
        have HR4 := Lib.hid (HR3.out.keep hb4)
        have HB4 := Lib.hid (HB3.out.trans (hb4.mono HB3.out.size))
        rw [← hP]
        clear hW4 hb4 hP c0 c1 HR3 HB3 HS3 HX3
        obtain ⟨c0, c1, -, -⟩ := HT4.out.cells
        repeat (first | go_values | go_skip | go_guarded | go_step)
        refine (sewith_any p HR4.out HB4.out.size (putL_srt HSR.out _) (by have := HLN.out; omega)).mono ?_
        rintro e W5 ⟨v5, rfl, hr5, hb5⟩
        have hr6 : PtRowB w.heap.size W5 v5 (putL l (k.take (j + 1))) := by rw [putL_snoc HPK.out]; exact hr5
        have HB5 := Lib.hid (HB4.out.trans hb5)
        clear hr5 hb5 c0 c1 HR4 HT4 HB4
        have HLT := Lib.hid (putL_take_len HSR.out k (j + 1))
        have HR6 := Lib.hid hr6
        obtain ⟨a6, c6, rfl⟩ := own_slice hr6
        obtain ⟨m, hm⟩ : ∃ m, m = (putL l (k.take (j + 1))).length := ⟨_, rfl⟩
        have HM := Lib.hid hm
        rw [← hm]
        clear hr6 hm
        dsimp only
        by_cases hbig : 256 < m
        · have HE : Hid (putE l k = (0, 6, l)) := Lib.hid (by
            unfold putE
            have h1 := HLT.out
            have h2 := HM.out
            rw [if_neg (by rw [HO.out]; simp), if_pos (by omega)])
          have tb : decide ((256 : Int) < (m : Int)) = true := decide_eq_true (by omega)
          go_wp2_with fail
          go_ret2
          refine ⟨by rw [HE.out]; rfl, ⟨v, ?_, .inl rfl⟩, only_beyond HB5.out⟩
          rw [HE.out]
          exact HS.out.keep HB5.out
        · have tb : decide ((256 : Int) < (m : Int)) = false := decide_eq_false (by omega)
          have HML : Hid ((putL l (k.take (j + 1))).length ≤ 256) := Lib.hid (by rw [← HM.out]; omega)
          go_wp2_with fail
          go_roundw
          case rel => exact ⟨j + 1, by go_num, by omega, by rw [HM.out]; exact HR6.out, HML.out, HB5.out⟩
          case measure => simp [intOf]; omega
      · have e0 : k.take j = k := List.take_of_length_le (by omega)
        rw [e0] at HR3 HLN
        have HE : Hid (putE l k = (((putL l k).length : Int) - l.length, 0, putL l k)) := Lib.hid (by
          unfold putE
          have h1 := HLN.out
          rw [if_neg (by rw [HO.out]; simp), if_neg (by omega)])
        obtain ⟨c0, f0⟩ := HS3.out.cell
        obtain ⟨a6, c6, e6⟩ := own_slice HR3.out
        obtain ⟨a7, c7, e7⟩ := own_slice HS3.out.row
        subst e6
        rw [e7] at c0
        have HGS : Hid (GoodS (putL l k)) := Lib.hid (HS.out.good.put HO.out HF.out HLN.out)
        obtain ⟨T, hT⟩ : ∃ T, T = putL l k := ⟨_, rfl⟩
        rw [← hT] at HE HR3 HGS ⊢
        obtain ⟨m, hm⟩ : ∃ m, m = T.length := ⟨_, rfl⟩
        obtain ⟨n, hn⟩ : ∃ n, n = l.length := ⟨_, rfl⟩
        have hmb : m ≤ 256 := by rw [hm, hT]; exact HLN.out
        have hnb : n ≤ 256 := by rw [hn]; exact HL.out
        have HM := Lib.hid hm
        rw [← hm] at HE HR3 ⊢
        rw [← hn] at HE c0
        have hw : IntKind.i64.wrap ((m : Int) - (n : Int)) = (m : Int) - (n : Int) := by rw [IntKind.wrap_i64]; omega
        have HSL : Hid (s < w.heap.size) := Lib.hid HS.out.lt
        clear e0 e7 hT hm hn HX HX2 HX3 HS2
        go_wp2_with fail
        go_ret2
        refine ⟨by rw [HE.out]; rfl, ⟨.slice a6 m c6, ?_, .inr ?_⟩, (only_beyond HB3.out).trans (Only.setCell (S := fun b => b = s) W3 rfl _) (fun _ _ h => h)⟩
        · rw [HE.out]
          refine ⟨?_, ?_, HGS.out⟩
          · have h1 := heap_setCell_same W3 s 0 _ _ (.slice a6 m c6) HS3.out.at_
            rw [h1]; simp
          · have h2 : PtRowB 0 W3 (.slice a6 m c6) T := HR3.out.base (Nat.zero_le _)
            exact row_only h2 (Only.setCell (S := fun b => b = s) W3 rfl _) (fun b hb e => by have := (HR3.out.lt _ hb).1; have := HSL.out; omega)
        · rw [HE.out]
          have h2 : PtRowB w.heap.size W3 (.slice a6 m c6) T := HR3.out
          exact row_only h2 (Only.setCell (S := fun b => b = s) W3 rfl _) (fun b hb e => by have := (HR3.out.lt _ hb).1; have := HSL.out; omega)
end Go.Proofs.Ytpgbeebpeldjdaa
