/- JournalOver, walked. -/
import Derived.Test.YtngeilhdambgfaaDoorJoKept
namespace Go.Proofs.YtngeilhdambgfaaDoor
open Go.RowKit

/-- a beginning of rows that came in, and the rest -/
theorem rows_take {w : World} {a : Option Addr} {n c cap k : Nat} {A : List (List Nat)} (h : RowsAt w (.slice a n c) A) (hk : k ≤ A.length) : RowsAt w (.slice a k cap) (A.take k) := by
  obtain ⟨a', c', hv, hr⟩ := h
  cases hv
  refine ⟨a, cap, by rw [List.length_take, Nat.min_eq_left hk], fun hne => ?_⟩
  obtain ⟨b, off, ha, hc⟩ := hr (fun e => hne (by rw [e]; simp))
  refine ⟨b, off, ha, fun i bs hi => hc i bs ?_⟩
  have hik : i < k := by have := (List.getElem?_eq_some_iff.1 hi).1; rw [List.length_take] at this; omega
  rwa [List.getElem?_take_of_lt hik] at hi
theorem rows_drop {w : World} {b off n c cap k : Nat} {A : List (List Nat)} (h : RowsAt w (.slice (some ⟨b, off, none⟩) n c) A) : RowsAt w (.slice (some ⟨b, off + k, none⟩) (n - k) cap) (A.drop k) := by
  obtain ⟨a', c', hv, hr⟩ := h
  cases hv
  refine ⟨some ⟨b, off + k, none⟩, cap, by rw [List.length_drop], fun hne => ⟨b, off + k, rfl, fun i bs hi => ?_⟩⟩
  obtain ⟨b', off', ha, hc⟩ := hr (fun e => hne (by rw [e]; simp))
  cases ha
  rw [List.getElem?_drop] at hi
  have := hc (k + i) bs hi
  rwa [show off + (k + i) = off + k + i by omega] at this
theorem rows_none (w : World) (a : Option Addr) (c : Nat) : RowsAt w (.slice a 0 c) [] := ⟨a, c, rfl, fun h => absurd rfl h⟩
theorem used_hundred {R : List (List Nat)} (h : ∀ b ∈ R, b.length ≤ 100) : usedJ R ≤ 3 * R.length := by
  induction R with
  | nil => simp [usedJ]
  | cons b R ih =>
    have h1 := ih (fun x hx => h x (List.mem_cons_of_mem _ hx))
    have h2 := h b List.mem_cons_self
    have h3 : pieces b.length ≤ 3 := by unfold pieces; omega
    have h4 : usedJ (b :: R) = pieces b.length + usedJ R := by simp [usedJ]
    rw [h4, List.length_cons]; omega
theorem take_next {A : List (List Nat)} {i : Nat} {bs : List Nat} (h : A[i]? = some bs) : A.take (i + 1) = A.take i ++ [bs] := take_more h
/-- another journal on the same device -/
structure Other (B : Nat) (w : World) (J J2 P frm n t : Nat) : Prop where
  jo : JAt w J2 P frm n t 0
  jn : ¬ DBlk w P J2
  jb : B ≤ J2
  ne : J2 ≠ J
theorem Other.kept {B : Nat} {w w' : World} {J J2 P frm n t : Nat} (h : Other B w J J2 P frm n t) (hk : JKept J P w w') : Other B w' J J2 P frm n t :=
  ⟨h.jo.only hk.only (fun hh => hh.elim h.ne h.jn), fun hh => (hk.own J2 hh).elim h.jn (fun h1 => by have := Arr.lt h.jo; omega), h.jb, h.ne⟩
theorem Other.sess {B : Nat} {w : World} {J J2 P frm n t t2 : Nat} {R : List (List Nat)} {d : Dev} (h : Other B w J J2 P frm n t2) (hs : Sess B w J P true t frm n R R.length d) (ht : t2 ≠ 0 ∧ t2 < 4294967296) (hne : t ≠ t2) : Sess B w J2 P false t2 frm n [] 0 d :=
  ⟨hs.dev, h.jo, hs.jk.over hs.dev.ok rfl ht hne, hs.sm, h.jn, h.jb⟩

set_option maxRecDepth 1000000 in
set_option maxHeartbeats 16000000 in
theorem journalOver_walk {w : World} {v0 v1 : Value} {A Bs : List (List Nat)} {kp torn bytes : Int} (hv0 : RowsAt w v0 A) (_hf0 : Fits v0) (hb0 : ∀ bs ∈ A, ∀ x ∈ bs, x < 256) (_hm0 : A.length ≤ maxLen) (hv1 : RowsAt w v1 Bs) (hf1 : Fits v1) (hb1 : ∀ bs ∈ Bs, ∀ x ∈ bs, x < 256) (_hm1 : Bs.length ≤ maxLen)
    (hk1 : 0 ≤ kp) (hk2 : kp ≤ 18446744073709551615) (_ht1 : -9223372036854775808 ≤ torn) (_ht2 : torn ≤ 9223372036854775807) (_hy1 : -9223372036854775808 ≤ bytes) (_hy2 : bytes ≤ 9223372036854775807) (hl : StepsLaid w) :
    Calls Tryd.prog 4 #[v0, v1, .int .u64 kp, .int .i64 torn, .int .i64 bytes] w fun e w' => e = .returned (.bool true) ∧ Below w.heap.size w w' := by
  have hrow1 := hv1
  obtain ⟨a0, c0, rfl, hr0⟩ := hv0
  obtain ⟨a1, c1, rfl, hr1⟩ := hv1
  obtain ⟨keep, rfl⟩ : ∃ q : Nat, kp = q := ⟨kp.toNat, by omega⟩
  have hc1 : Bs.length ≤ c1 := hf1 _ _ _ rfl
  obtain ⟨la, hla⟩ : ∃ n, n = A.length := ⟨_, rfl⟩
  obtain ⟨lb, hlb⟩ : ∃ n, n = Bs.length := ⟨_, rfl⟩
  have HLV : Hid (∀ w1, Below w.heap.size w w1 → Calls Tryd.prog 7 #[] w1 fun e w' => e = .returned (.bool true) ∧ Below w1.heap.size w1 w') := Lib.hid (fun w1 h => lives10_any w1 (hl.below h))
  have HBw0 : Hid (Below w.heap.size w w) := Lib.hid (Below.refl _ _)
  have HL := Lib.hid hl
  have HR0 := Lib.hid hr0
  have HR1 := Lib.hid hr1
  have HROW := Lib.hid hrow1
  have HLA := Lib.hid hla
  have HLB := Lib.hid hlb
  have HBA := Lib.hid hb0
  have HBB := Lib.hid hb1
  have HKP : Hid (keep < 18446744073709551616) := Lib.hid (by omega)
  rw [← hla, ← hlb]
  rw [← hlb] at hc1 HROW
  clear hl hr0 hr1 hla hlb hb0 hb1 hrow1 hf1 hk1 hk2
  have big : ∀ (x : Int), decide ((20 : Int) < (la : Int)) = true ∨ (decide ((20 : Int) < (la : Int)) = false ∧ decide ((20 : Int) < (lb : Int)) = true) ∨ (la ≤ 20 ∧ lb ≤ 20) := fun _ => by simp; omega
  go_enter Tryd.func4, Tryd.ntmps4
  rcases big 0 with t1 | ⟨t1, t2⟩ | ⟨hA20, hB20⟩
  · clear big
    go_wp2_with (go_at_call 7; first | (with_reducible refine (HLV.out _ HBw0.out).mono ?_; rintro e w1 ⟨rfl, hb1⟩; have HB1 := Lib.hid hb1; clear hb1; dsimp only) | (with_reducible refine (HLV.out _ HB1.out).mono ?_; rintro e w2 ⟨rfl, hb2⟩; have HB2 := Lib.hid hb2; clear hb2; dsimp only))
    go_ret
    exact ⟨rfl, HB1.out.trans (HB2.out.mono HB1.out.size)⟩
  · clear big
    go_wp2_with (go_at_call 7; first | (with_reducible refine (HLV.out _ HBw0.out).mono ?_; rintro e w1 ⟨rfl, hb1⟩; have HB1 := Lib.hid hb1; clear hb1; dsimp only) | (with_reducible refine (HLV.out _ HB1.out).mono ?_; rintro e w2 ⟨rfl, hb2⟩; have HB2 := Lib.hid hb2; clear hb2; dsimp only))
    go_ret
    exact ⟨rfl, HB1.out.trans (HB2.out.mono HB1.out.size)⟩
  · clear big
    have t1 : decide ((20 : Int) < (la : Int)) = false := by simp; omega
    have t2 : decide ((20 : Int) < (lb : Int)) = false := by simp; omega
    go_wp2_with (first | (go_at_call 7; refine (HLV.out _ HBw0.out).mono ?_; rintro e w1 ⟨rfl, hb1⟩; have HB1 := Lib.hid hb1; clear hb1; dsimp only) | (go_at_call 8; refine (new_ok (n := 80) (by omega) (by omega) w1).mono ?_; rintro e w2 ⟨P, rfl, hd2, hb2⟩; have HD2 := Lib.hid hd2; have HB2 := Lib.hid hb2; clear hd2 hb2; dsimp only))
    have hw1 := HB1.out.size
    have hgB : 0 < w1.heap.size := Nat.lt_of_lt_of_le HL.out.lt hw1
    have HN3 : Hid (Calls Tryd.prog 9 #[.pointer (some ⟨P, 0, none⟩), .int .i64 0, .int .i64 80, .int .u32 3] w2 fun e w' => ∃ J, e = .returned (.tuple #[.pointer (some ⟨J, 0, none⟩), .int .i64 0]) ∧ JAt w' J P 0 80 3 0 ∧ J = w2.heap.size ∧ Below w2.heap.size w2 w') := Lib.hid (jonew_ok (frm := 0) (n := 80) (t := 3) HD2.out (by omega) (by simp [Dev.fresh]) (by omega))
    have HN4 : Hid (∀ w3, Below w2.heap.size w2 w3 → Calls Tryd.prog 9 #[.pointer (some ⟨P, 0, none⟩), .int .i64 0, .int .i64 80, .int .u32 4] w3 fun e w' => ∃ J, e = .returned (.tuple #[.pointer (some ⟨J, 0, none⟩), .int .i64 0]) ∧ JAt w' J P 0 80 4 0 ∧ J = w3.heap.size ∧ Below w3.heap.size w3 w') := Lib.hid (fun w3 (h : Below w2.heap.size w2 w3) => jonew_ok (frm := 0) (n := 80) (t := 4) (HD2.out.beyond h) (by omega) (by simp [Dev.fresh]) (by omega))
    go_wp2_with (go_at_call 9; first | (with_reducible refine (HN3.out).mono ?_; rintro e w3 ⟨J, rfl, hj3, hJ, hb3⟩; have HS3 := Lib.hid (sess_start HD2.out HB2.out.size hj3 hJ hb3 (by omega) (by omega)); have HB3 : Hid (Below w1.heap.size w1 w3) := Lib.hid (HB2.out.trans (hb3.mono HB2.out.size)); have HB3' := Lib.hid hb3; clear hj3 hJ hb3; dsimp only) | (with_reducible refine (HN4.out _ HB3'.out).mono ?_; rintro e w4 ⟨J2, rfl, hj4, hJ2, hb4⟩; have HS4 := Lib.hid (HS3.out.on hb4); have HO4 : Hid (Other w1.heap.size w4 J J2 P 0 80 4) := Lib.hid ⟨hj4, fun hh => by have h1 := HS3.out.dev.lt (dblk_on HS3.out.dev hb4 hh); omega, by rw [hJ2]; exact HB3.out.size, by have h1 := HS3.out.jlt; omega⟩; have HB4 : Hid (Below w1.heap.size w1 w4) := Lib.hid (HB3.out.trans (hb4.mono HB3.out.size)); clear hj4 hJ2 hb4; dsimp only))
    obtain ⟨B, hB⟩ : ∃ B, B = w1.heap.size := ⟨_, rfl⟩
    rw [← hB] at HS4 HB4 HO4 hgB
    have hwB : w.heap.size ≤ B := by rw [hB]; exact hw1
    have HBw : Hid (∀ w', Below B w1 w' → Below w.heap.size w w' ∧ B ≤ w'.heap.size) := Lib.hid (fun w' h => ⟨HB1.out.trans (h.mono hwB), by rw [hB]; exact h.size⟩)
    clear hB hw1 HB2 HB3 HB3' HS3 HN3 HN4
    go_loopw [54] (fun x wr => ∃ (i : Nat) (d : Dev), i ≤ la ∧ x = .int .i64 (i : Int) ∧ Sess B wr J P true 3 0 80 (A.take i) i d ∧ Other B wr J J2 P 0 80 4 ∧ (∀ b ∈ A.take i, b.length ≤ 100) ∧ Below B w1 wr) (fun x _ => la - (intOf x).toNat)
    case atStart => exact ⟨0, Dev.fresh 80, Nat.zero_le _, rfl, HS4.out, HO4.out, fun b h => by simp at h, HB4.out⟩
    case round =>
      obtain ⟨i, d, hi, rfl, hs, ho, hlen, hb⟩ := hrel
      have HS := Lib.hid hs
      have HO := Lib.hid ho
      have HLN := Lib.hid hlen
      have HB := Lib.hid hb
      have hti : (A.take i).length = i := by rw [List.length_take, ← HLA.out]; omega
      have HTI := Lib.hid hti
      clear hs ho hlen hb hti
      by_cases hlt : i < la
      · obtain ⟨bs, hbs⟩ : ∃ bs, A[i]? = some bs := ⟨_, List.getElem?_eq_getElem (by rw [← HLA.out]; exact hlt)⟩
        obtain ⟨b, off, ar, cr, rfl, cc, hli⟩ := rows_get HR0.out hbs
        have hsm := HBA.out bs (List.mem_of_getElem? hbs)
        have hfar := lies_far hli hwB
        have d1 : wr.cell? ⟨b, off + i, none⟩ = some (.slice ar bs.length cr) := ((HBw.out wr HB.out).1.cell (p := ⟨b, off + i, none⟩) (cell_lt cc)).trans cc
        have hlr := lies_keep hli (HBw.out wr HB.out).1
        obtain ⟨l, hl⟩ : ∃ l, l = bs.length := ⟨_, rfl⟩
        rw [← hl] at d1
        have HLR : Hid (Lies wr (.slice ar l cr) bs) := Lib.hid (by rw [hl]; exact hlr)
        have HSM := Lib.hid hsm
        have HLL := Lib.hid hl
        have HBSS := Lib.hid hbs
        clear hbs cc hli hsm hfar hlr hl
        by_cases h100 : l ≤ 100
        · have t3 : decide ((100 : Int) < (l : Int)) = false := by simp; omega
          have hBr := (HBw.out wr HB.out).2
          have HC := Lib.hid (sess_commit HS.out hBr hgB (HL.out.below (HBw.out wr HB.out).1) HLR.out HSM.out (by
            have h1 := used_hundred HLN.out
            rw [HTI.out] at h1
            have h2 : pieces bs.length ≤ 3 := by rw [← HLL.out]; unfold pieces; omega
            omega))
          go_wp2_with (go_at_call 11; refine (HC.out).mono ?_; rintro e w5 ⟨rfl, ⟨d5, hs5⟩, hk5⟩; have HS5 := Lib.hid hs5; have HO5 := Lib.hid (HO.out.kept hk5); have HB5 : Hid (Below B w1 w5) := Lib.hid (HB.out.trans (HS.out.below hBr hk5)); clear hs5 hk5; dsimp only)
          go_roundw
          case rel => exact ⟨i + 1, d5, by omega, by simp, by rw [take_next HBSS.out]; have := HS5.out; rw [HTI.out] at this; exact this, HO5.out, fun x hx => by
            rw [take_next HBSS.out] at hx
            rcases List.mem_append.1 hx with h1 | h1
            · exact HLN.out x h1
            · rw [List.mem_singleton.1 h1, ← HLL.out]; exact h100, HB5.out⟩
          case measure => simp [intOf]; omega
        · have t3 : decide ((100 : Int) < (l : Int)) = true := by simp; omega
          go_wp2
          go_ret
          exact ⟨rfl, (HBw.out wr HB.out).1⟩
      · obtain rfl : i = la := by omega
        have hAi : A.take i = A := by rw [HLA.out]; exact List.take_length
        have HSY : Hid (Sess B wr J2 P false 4 0 80 [] 0 d) := Lib.hid (HO.out.sess (by have h1 := HS.out; rw [hAi, HLA.out] at h1; exact h1) (by omega) (by omega))
        have HBY := Lib.hid HB.out
        clear HS HO HLN HTI HB hAi hlt hi
        go_wp2_with fail
        go_loopw [19, 78] (fun vd x wr => ∃ (i c : Nat) (d : Dev), i ≤ lb ∧ x = .int .i64 (i : Int) ∧ c ≤ i ∧ ((vd = .slice none 0 0 ∧ c = 0) ∨ (vd = .slice a1 c c1 ∧ 1 ≤ c)) ∧ Sess B wr J2 P false 4 0 80 (Bs.take i) c d ∧ (∀ b ∈ Bs.take i, b.length ≤ 100) ∧ Below B w1 wr) (fun _ x _ => lb - (intOf x).toNat)
        case atStart => exact ⟨0, 0, d, Nat.zero_le _, rfl, Nat.le_refl _, .inl ⟨rfl, rfl⟩, HSY.out, fun b h => by simp at h, HBY.out⟩
        case round =>
          obtain ⟨i, c, d, hi, rfl, hci, hvd, hs, hlen, hb⟩ := hrel
          have HS := Lib.hid hs
          have HVD := Lib.hid hvd
          have HLN := Lib.hid hlen
          have HB := Lib.hid hb
          have hti : (Bs.take i).length = i := by rw [List.length_take, ← HLB.out]; omega
          have HTI := Lib.hid hti
          clear hs hvd hlen hb hti HSY HBY
          by_cases hlt : i < lb
          · obtain ⟨bs, hbs⟩ : ∃ bs, Bs[i]? = some bs := ⟨_, List.getElem?_eq_getElem (by rw [← HLB.out]; exact hlt)⟩
            obtain ⟨b, off, ar, cr, rfl, cc, hli⟩ := rows_get HR1.out hbs
            have hsm := HBB.out bs (List.mem_of_getElem? hbs)
            have hfar := lies_far hli hwB
            have d1 : wr.cell? ⟨b, off + i, none⟩ = some (.slice ar bs.length cr) := ((HBw.out wr HB.out).1.cell (p := ⟨b, off + i, none⟩) (cell_lt cc)).trans cc
            have hlr := lies_keep hli (HBw.out wr HB.out).1
            obtain ⟨l, hl⟩ : ∃ l, l = bs.length := ⟨_, rfl⟩
            rw [← hl] at d1
            have HLR : Hid (Lies wr (.slice ar l cr) bs) := Lib.hid (by rw [hl]; exact hlr)
            have HSM := Lib.hid hsm
            have HLL := Lib.hid hl
            have HBSS := Lib.hid hbs
            clear hbs cc hli hsm hfar hlr hl
            by_cases h100 : l ≤ 100
            · have t3 : decide ((100 : Int) < (l : Int)) = false := by simp; omega
              have hBr := (HBw.out wr HB.out).2
              have hfit : usedJ (Bs.take i) + pieces bs.length ≤ 80 := by
                have h1 := used_hundred HLN.out
                rw [HTI.out] at h1
                have h2 : pieces bs.length ≤ 3 := by rw [← HLL.out]; unfold pieces; omega
                omega
              have HC := Lib.hid (sess_commit HS.out hBr hgB (HL.out.below (HBw.out wr HB.out).1) HLR.out HSM.out hfit)
              have HW := Lib.hid (sess_write HS.out hBr hgB (HL.out.below (HBw.out wr HB.out).1) HLR.out HSM.out hfit)
              have HNL : Hid (∀ x ∈ Bs.take (i + 1), x.length ≤ 100) := Lib.hid (fun x hx => by
                rw [take_next HBSS.out] at hx
                rcases List.mem_append.1 hx with h1 | h1
                · exact HLN.out x h1
                · rw [List.mem_singleton.1 h1, ← HLL.out]; exact h100)
              have e1 : IntKind.i64.wrap ((i : Int) + 1) = ((i + 1 : Nat) : Int) := by rw [IntKind.wrap_i64]; omega
              clear hfit
              have hic : i + 1 ≤ c1 := by omega
              by_cases he : i % 2 = 0
              · have t4 : (((i : Int) % 2) == 0) = true := by simp; omega
                by_cases hn : i + 1 < lb
                · have t5 : decide (((i + 1 : Nat) : Int) < (lb : Int)) = true := by simp; omega
                  have t5n : decide ((i : Int) + 1 < (lb : Int)) = true := by simp; omega
                  clear he hn
                  go_wp2_with (go_at_call 11; refine (HC.out).mono ?_; rintro e w5 ⟨rfl, ⟨d5, hs5⟩, hk5⟩; have HS5 := Lib.hid hs5; have HB5 : Hid (Below B w1 w5) := Lib.hid (HB.out.trans (HS.out.below hBr hk5)); clear hs5 hk5; dsimp only)
                  go_roundw
                  case rel => exact ⟨i + 1, i + 1, d5, by omega, by simp, Nat.le_refl _, .inr ⟨by simp, by omega⟩, by rw [take_next HBSS.out]; have := HS5.out; rw [HTI.out] at this; exact this, HNL.out, HB5.out⟩
                  case measure => simp [intOf]; omega
                · have t5 : decide (((i + 1 : Nat) : Int) < (lb : Int)) = false := by simp; omega
                  have t5n : decide ((i : Int) + 1 < (lb : Int)) = false := by simp; omega
                  clear he hn
                  go_wp2_with (go_at_call 12; refine (HW.out).mono ?_; rintro e w5 ⟨rfl, ⟨d5, hs5⟩, hk5⟩; have HS5 := Lib.hid hs5; have HB5 : Hid (Below B w1 w5) := Lib.hid (HB.out.trans (HS.out.below hBr hk5)); clear hs5 hk5; dsimp only)
                  go_roundw
                  case rel => exact ⟨i + 1, c, d5, by omega, by simp, by omega, HVD.out, by rw [take_next HBSS.out]; exact HS5.out, HNL.out, HB5.out⟩
                  case measure => simp [intOf]; omega
              · have t4 : (((i : Int) % 2) == 0) = false := by simp; omega
                clear he
                go_wp2_with (go_at_call 12; refine (HW.out).mono ?_; rintro e w5 ⟨rfl, ⟨d5, hs5⟩, hk5⟩; have HS5 := Lib.hid hs5; have HB5 : Hid (Below B w1 w5) := Lib.hid (HB.out.trans (HS.out.below hBr hk5)); clear hs5 hk5; dsimp only)
                go_roundw
                case rel => exact ⟨i + 1, c, d5, by omega, by simp, by omega, HVD.out, by rw [take_next HBSS.out]; exact HS5.out, HNL.out, HB5.out⟩
                case measure => simp [intOf]; omega
            · have t3 : decide ((100 : Int) < (l : Int)) = true := by simp; omega
              go_wp2
              go_ret
              exact ⟨rfl, (HBw.out wr HB.out).1⟩
          · obtain rfl : i = lb := by omega
            have hBi : Bs.take i = Bs := by rw [HLB.out]; exact List.take_length
            have HS' : Hid (Sess B wr J2 P false 4 0 80 Bs c d) := Lib.hid (by have h1 := HS.out; rwa [hBi] at h1)
            rcases HVD.out with ⟨rfl, rfl⟩ | ⟨rfl, hc1'⟩
            · clear HS HLN HTI hBi hlt hi
              go_wp2
              go_ret
              exact ⟨rfl, (HBw.out wr HB.out).1⟩
            · have hcl : c ≤ Bs.length := by rw [← HLB.out]; exact hci
              have t6 : ((c : Int) == 0) = false := by simp; omega
              have hBr := (HBw.out wr HB.out).2
              have hok := HS'.out.dev.ok
              have HCR := Lib.hid (crash_any (keep := keep) (torn := torn) (bytes := bytes) HS'.out.dev HKP.out)
              obtain ⟨j, hj1, hj2, hrd, htn⟩ := HS'.out.jk.crash hok keep torn bytes (by omega) (.inr (by omega))
              have htn := htn (by omega)
              have hlies : 0 + 80 ≤ ((d.crash keep torn bytes).up).lies.length := by
                show 0 + 80 ≤ (crashed _ _ _ _ _).length
                rw [crashed_length]; exact HS'.out.jk.range
              have HRD : Hid (∀ w6, DevAt w6 B P (d.crash keep torn bytes).up → _) := Lib.hid (fun w6 (hd : DevAt w6 B P (d.crash keep torn bytes).up) => joread_ok (frm := 0) (n := 80) hd (by omega) hlies rfl ((HS'.out.sm.crash keep torn bytes).up))
              rw [hrd, htn] at HRD
              have HSB : Hid (∀ b ∈ Bs, ∀ x ∈ b, x < 256) := Lib.hid HS'.out.jk.small
              have HLB2 : Hid (Bs.length ≤ 1000000000) := Lib.hid (by rw [← HLB.out]; omega)
              have hne : Bs ≠ [] := fun e => by rw [e] at hcl; simp at hcl; omega
              obtain ⟨b, off, rfl, _⟩ := HR1.out hne
              have HBG : Hid (∀ w' v us' ub, RowsO B w' v us' (Bs.take j) → Below w.heap.size w w' → RowsAt w' ub (Bs.drop c) → Calls Tryd.prog 19 #[v, .slice (some ⟨b, off, none⟩) c c1, ub] w' fun e w'' => e = .returned (.bool true) ∧ w'' = w') := Lib.hid (fun w' v us' ub hr hb hub => by
                have hrow := HROW.out.on hb
                have h := begins_any hr.at (rows_take (cap := c1) hrow hcl) hub (fun b hb => HSB.out b (List.mem_of_mem_take hb)) (fun b hb => HSB.out b (List.mem_of_mem_take hb)) (fun b hb => HSB.out b (List.mem_of_mem_drop hb)) (by rw [List.length_take]; have := HLB2.out; omega) (by rw [List.length_take]; have := HLB2.out; omega) (by rw [List.length_drop]; have := HLB2.out; omega)
                have h2 := begins_take (done := Bs.take c) (behind := Bs.drop c) (j := j) (by rw [List.length_take]; omega) (by rw [List.take_append_drop]; exact hj2)
                rw [List.take_append_drop] at h2
                rwa [h2] at h)
              have hcc : c ≤ c1 := by omega
              have hci' : c ≤ i := hci
              clear HS HLN HTI hBi hlt hi hok hrd htn hj1 hj2 hlies hne hcl
              go_wp2_with (go_at_call 16; refine (HCR.out).mono ?_; rintro e w5 ⟨rfl, hd5, hk5⟩; have HD5 := Lib.hid hd5; have HB5 : Hid (Below B w1 w5) := Lib.hid (HB.out.trans (HS'.out.dev.below hBr hk5)); clear hd5 hk5; dsimp only)
              go_wp2_with (go_at_call 17; refine (up_any HD5.out).mono ?_; rintro e w6 ⟨rfl, hd6, hk6⟩; have HD6 := Lib.hid hd6; have HB6 : Hid (Below B w1 w6) := Lib.hid (HB5.out.trans (HD5.out.below (HBw.out _ HB5.out).2 hk6)); clear hd6 hk6; dsimp only)
              have hrd0 := HRD.out w6 HD6.out
              have HRD0 : Hid (Calls Tryd.prog 18 #[.pointer (some ⟨P, 0, none⟩), .int .i64 0, .int .i64 80] w6 fun e w' => ∃ v us, e = .returned (.tuple #[v, .int .u32 4, .int .i64 0]) ∧ RowsO w6.heap.size w' v us (Bs.take j) ∧ Below w6.heap.size w6 w') := Lib.hid hrd0
              clear hrd0
              have HCB : Hid (c ≤ Bs.length ∧ i = Bs.length) := Lib.hid ⟨by rw [← HLB.out]; exact hci', HLB.out⟩
              by_cases hcs : c < c1
              · go_wp2_with (first | (go_at_call 18; with_reducible refine (HRD0.out).mono ?_; rintro e w7 ⟨v, us', rfl, hro7, hb7⟩; have HB7 : Hid (Below B w1 w7) := Lib.hid (HB6.out.trans (hb7.mono (HBw.out _ HB6.out).2)); have HRO7 : Hid (RowsO B w7 v us' (Bs.take j)) := Lib.hid ⟨ownsRow_less hro7.row (HBw.out _ HB6.out).2, hro7.len, hro7.data⟩; clear hro7 hb7; dsimp only) | (go_at_call 19; with_reducible refine (HBG.out _ _ _ _ HRO7.out (HBw.out _ HB7.out).1 (rows_drop (k := c) (cap := c1 - c) (HROW.out.on (HBw.out _ HB7.out).1))).mono ?_; rintro e w8 ⟨rfl, rfl⟩; dsimp only))
                go_ret
                exact ⟨rfl, (HBw.out _ HB7.out).1⟩
              · obtain rfl : c1 = c := by omega
                have hi0 : i - c1 = 0 := by omega
                go_wp2_with (first | (go_at_call 18; with_reducible refine (HRD0.out).mono ?_; rintro e w7 ⟨v, us', rfl, hro7, hb7⟩; have HB7 : Hid (Below B w1 w7) := Lib.hid (HB6.out.trans (hb7.mono (HBw.out _ HB6.out).2)); have HRO7 : Hid (RowsO B w7 v us' (Bs.take j)) := Lib.hid ⟨ownsRow_less hro7.row (HBw.out _ HB6.out).2, hro7.len, hro7.data⟩; clear hro7 hb7; dsimp only) | (go_at_call 19; with_reducible refine (HBG.out _ _ _ _ HRO7.out (HBw.out _ HB7.out).1 (by rw [List.drop_of_length_le (show Bs.length ≤ c1 by have := HCB.out; omega)]; exact rows_none w7 _ _)).mono ?_; rintro e w8 ⟨rfl, rfl⟩; dsimp only))
                go_ret
                exact ⟨rfl, (HBw.out _ HB7.out).1⟩
end Go.Proofs.YtngeilhdambgfaaDoor
