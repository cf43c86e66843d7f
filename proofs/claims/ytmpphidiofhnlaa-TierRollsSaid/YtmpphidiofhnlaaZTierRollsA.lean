/- TierRolls, over what package tier does. Written by py/ti-rolls.py. -/
import Derived.Test.YtmpphidiofhnlaaZTiLives
import Derived.Test.YtmpphidiofhnlaaZTiSame
namespace Go.Proofs.Ytmpphidiofhnlaa
open Go.RowKit

theorem aggs_lenT {s : Stk} (h : GoodT s) (t a b : Int) : (aggsT s t a b).length ≤ 1000000 := by
  unfold aggsT
  split
  · have h1 : (s.mid.filter fun x => decide (a < b) && metA 300 a b x.at_).length ≤ s.mid.length := List.length_filter_le _ _
    have := h.mid.len; omega
  · split
    · have h1 : (s.long.filter fun x => decide (a < b) && metA 3600 a b x.at_).length ≤ s.long.length := List.length_filter_le _ _
      have := h.long.len; omega
    · simp
/-- where nothing is rolled yet, and points are few, all goes in -/
theorem rolls_plain {s : Stk} (h : GoodT s) (h40 : s.raw.length ≤ 40) (hmid : s.mid = []) (hlong : s.long = []) (hz : s.mm = 0) {x y : Int} (h0 : 0 ≤ x) (hxy : x ≤ y) (h1 : y ≤ 1099511627776) :
    ∃ n m k : Int, rollR s x = (n, 0) ∧ rollR (rollT s x) y = (m, 0) ∧ rollR s y = (k, 0) ∧ n + m = k ∧ 0 ≤ n ∧ n ≤ 1000 ∧ -1000 ≤ m ∧ m ≤ 1000 ∧ rollT (rollT s x) y = rollT s y ∧ rollR (rollT s y) y = (0, 0) ∧ rollT (rollT s y) y = rollT s y := by
  have hG : ∀ z, (midG s z).length ≤ 40 := fun z => by
    have h2 : (midG s z).length ≤ (s.raw.filter fun p => decide (s.mm ≤ p.a) && decide (p.a < upTo 300 s.mm z)).length := runs_len _ _
    have h3 : (s.raw.filter fun p => decide (s.mm ≤ p.a) && decide (p.a < upTo 300 s.mm z)).length ≤ s.raw.length := List.length_filter_le _ _
    omega
  have hM : ∀ z, rollM s z = ⟨s.raw, (midG s z).map (fun e => ofA e.1 e.2), [], upTo 300 s.mm z, s.ml⟩ := fun z => by
    rw [rollM_all (by rw [hmid]; have := hG z; simp; omega), hmid, hlong]; rfl
  have hL : ∀ z, (longG (rollM s z)).length ≤ 40 := fun z => by
    have h2 : (longG (rollM s z)).length ≤ ((rollM s z).mid.filter fun t => decide ((rollM s z).ml ≤ t.at_) && decide (t.at_ < upTo 3600 (rollM s z).ml (rollM s z).mm)).length := runs_len _ _
    have h3 : ((rollM s z).mid.filter fun t => decide ((rollM s z).ml ≤ t.at_) && decide (t.at_ < upTo 3600 (rollM s z).ml (rollM s z).mm)).length ≤ (rollM s z).mid.length := List.length_filter_le _ _
    have h4 : (rollM s z).mid.length ≤ 40 := by rw [hM z]; simp only [List.length_map]; exact hG z
    omega
  have hS : ∀ z, 0 ≤ z → rollS s z = ⟨s.raw, (midG s z).map (fun e => ofA e.1 e.2), (longG (rollM s z)).filterMap (fun e => joinA e.1 e.2), upTo 300 s.mm z, upTo 3600 s.ml (upTo 300 s.mm z)⟩ := fun z hz0 => by
    rw [rollS_low h hz0 (by omega)]
    have h2 : (longG (rollM s z)).length ≤ 256 - (rollM s z).long.length := by have := hL z; rw [hM z] at this ⊢; simp only [List.length_nil]; omega
    rw [rollL_all h2, hM z]; rfl
  have tw := roll_twice h h0 hxy h1 (by omega) (by rw [hmid]; have := hG y; simp; omega) (by rw [hlong]; have := hL y; simp; omega)
  have ex : rollT s x = rollS s x := by unfold rollT; rw [if_pos ⟨h0, by omega⟩]
  have ey : ∀ u : Stk, rollT u y = rollS u y := fun u => by unfold rollT; rw [if_pos ⟨by omega, h1⟩]
  have lx : ((longG (rollM s x)).filterMap fun e => joinA e.1 e.2).length ≤ (longG (rollM s x)).length := List.length_filterMap_le _ _
  have ly : ((longG (rollM s y)).filterMap fun e => joinA e.1 e.2).length ≤ (longG (rollM s y)).length := List.length_filterMap_le _ _
  have gx := hG x
  have gy := hG y
  have kx := hL x
  have ky := hL y
  rw [ex, ey, ey s, ey]
  have gsx := rollS_good h h0 (show x ≤ 1099511627776 by omega)
  have gsy := rollS_good h (show 0 ≤ y by omega) h1
  have msx : (rollS s x).mm ≤ y := by have := rollM_low h h0 (by omega); show (rollM s x).mm ≤ y; omega
  have msy : (rollS s y).mm ≤ y := rollM_low h (by omega) (by omega)
  have qx : longR s x = longG (rollM s x) := longR_low h h0 (by omega)
  have qy : longR s y = longG (rollM s y) := longR_low h (by omega) (by omega)
  have qxy : longR (rollS s x) y = longG (rollM (rollS s x) y) := longR_low gsx (by omega) msx
  have qyy : longR (rollS s y) y = longG (rollM (rollS s y) y) := longR_low gsy (by omega) msy
  -- a second time
  have hmm : (rollS s y).mm = upTo 300 (rollS s y).mm y := by rw [hS y (by omega)]; exact (upTo_again _ _ _).symm
  have hg0 : midG (rollS s y) y = [] := midG_again hmm
  have hm0 : rollM (rollS s y) y = rollS s y := by
    rw [rollM_all (by rw [hg0]; simp), hg0, ← hmm]
    simp
  have hml : (rollS s y).ml = upTo 3600 (rollS s y).ml (rollS s y).mm := by rw [hS y (by omega)]; exact (upTo_again _ _ _).symm
  have hl0 : longG (rollS s y) = [] := longG_again hml
  have hs0 : rollS (rollS s y) y = rollS s y := by
    rw [rollS_low gsy (by omega) msy, hm0, rollL_all (by rw [hl0]; simp), hl0, ← hml]
    simp
  have r1 : rollR s x = (((rollS s x).mid.length : Int) - s.mid.length + ((rollS s x).long.length - s.long.length), 0) := by
    unfold rollR
    rw [if_pos ⟨h0, by omega⟩, qx, if_neg (by rw [hmid, hlong]; simp; omega)]
  have r2 : rollR (rollS s x) y = (((rollS (rollS s x) y).mid.length : Int) - (rollS s x).mid.length + ((rollS (rollS s x) y).long.length - (rollS s x).long.length), 0) := by
    unfold rollR
    have l1 : (rollS s x).mid.length = (midG s x).length := by rw [hS x h0]; simp
    have l2 : (rollS s x).long.length ≤ (longG (rollM s x)).length := by rw [hS x h0]; exact lx
    rw [if_pos ⟨by omega, h1⟩, qxy, if_neg (by have := tw.2.1; have := tw.2.2; omega)]
  have r3 : rollR s y = (((rollS s y).mid.length : Int) - s.mid.length + ((rollS s y).long.length - s.long.length), 0) := by
    unfold rollR
    rw [if_pos ⟨by omega, h1⟩, qy, if_neg (by rw [hmid, hlong]; simp; omega)]
  have r4 : rollR (rollS s y) y = (0, 0) := by
    unfold rollR
    have l1 : (rollS s y).mid.length = (midG s y).length := by rw [hS y (by omega)]; simp
    have l2 : (rollS s y).long.length ≤ (longG (rollM s y)).length := by rw [hS y (by omega)]; exact ly
    rw [if_pos ⟨by omega, h1⟩, hs0, qyy, if_neg (by rw [hg0, hm0, hl0]; simp; omega)]
    simp
  have b1 : (rollS s x).mid.length ≤ 40 ∧ (rollS s x).long.length ≤ 40 := by rw [hS x h0]; simp only [List.length_map]; omega
  have b2 : (rollS s y).mid.length ≤ 40 ∧ (rollS s y).long.length ≤ 40 := by rw [hS y (by omega)]; simp only [List.length_map]; omega
  rw [tw.1] at r2
  refine ⟨_, _, _, r1, r2, r3, ?_, ?_, ?_, ?_, ?_, tw.1, r4, hs0⟩ <;> (try rw [hmid, hlong]) <;> (try simp only [List.length_nil]) <;> omega
set_option maxHeartbeats 32000000 in
set_option maxRecDepth 1000000 in
theorem tierRolls_over (D : TierD) {w : World} {v : Value} {l : List Pt} {a b : Int} (hv : PLies w v l) (_hfi : Fits v) (hf : ∀ p ∈ l, p.fits) (hm : l.length ≤ maxLen) (ha0 : 0 ≤ a) (_ha1 : a ≤ 4294967295) (hb0 : 0 ≤ b) (_hb1 : b ≤ 4294967295) :
    Calls Try.prog 5 #[v, .int .u32 a, .int .u32 b] w fun e w' => e = .returned (.bool true) ∧ Below w.heap.size w w' := by
  have HV := Lib.hid hv
  have HF := Lib.hid hf
  obtain ⟨ad, b0, off, cap, rfl, -, -⟩ := hv
  have hmx : l.length ≤ 9223372036854775807 := by unfold maxLen at hm; omega
  clear hf hm
  have HLI : Hid (∀ W, Calls Try.prog 6 #[] W fun e w' => e = .returned (.bool true) ∧ Below W.heap.size W w') := Lib.hid fun W => tilives_any D W
  by_cases h40 : 40 < l.length
  · have t60 : decide (40 < (l.length : Int)) = true := decide_eq_true (by omega)
    have t61 : decide (40 < l.length) = true := decide_eq_true h40
    clear h40
    go_enter Try.func5, Try.ntmps5
    go_wp2_with fail
    refine (HLI.out w).mono ?_
    rintro e W1 ⟨rfl, hb⟩
    have HB1 := Lib.hid hb
    clear hb
    dsimp only
    go_wp2_with fail
    refine (HLI.out W1).mono ?_
    rintro e W2 ⟨rfl, hb⟩
    have HB2 := Lib.hid (HB1.out.trans (hb.mono HB1.out.size))
    clear hb
    dsimp only
    go_wp2
    go_ret
    exact ⟨rfl, HB2.out⟩
  have t60 : decide (40 < (l.length : Int)) = false := decide_eq_false (by omega)
  have t61 : decide (40 < l.length) = false := decide_eq_false h40
  have HL40 : Hid (l.length ≤ 40) := Lib.hid (by omega)
  clear h40
  obtain ⟨x0, hx0⟩ : ∃ x0, x0 = a % 200000 := ⟨_, rfl⟩
  obtain ⟨y0, hy0⟩ : ∃ y0, y0 = b % 200000 := ⟨_, rfl⟩
  have m1 : a.tmod 200000 = x0 := by rw [hx0]; exact Int.tmod_eq_emod_of_nonneg ha0
  have m2 : b.tmod 200000 = y0 := by rw [hy0]; exact Int.tmod_eq_emod_of_nonneg hb0
  have m3 : a % 200000 = x0 := hx0.symm
  have m4 : b % 200000 = y0 := hy0.symm
  have bx : 0 ≤ x0 ∧ x0 < 200000 := by omega
  have b_y : 0 ≤ y0 ∧ y0 < 200000 := by omega
  have w1 : IntKind.u32.wrap x0 = x0 := by simp [IntKind.wrap, IntKind.bits, IntKind.signed]; omega
  have w2 : IntKind.u32.wrap y0 = y0 := by simp [IntKind.wrap, IntKind.bits, IntKind.signed]; omega
  have w3 : IntKind.i64.wrap x0 = x0 := by rw [IntKind.wrap_i64]; omega
  have w4 : IntKind.i64.wrap y0 = y0 := by rw [IntKind.wrap_i64]; omega
  have HBX := Lib.hid bx
  have HBY := Lib.hid b_y
  clear hx0 hy0
  go_enter Try.func5, Try.ntmps5
  go_wp2_with fail
  refine (HLI.out w).mono ?_
  rintro e W1 ⟨rfl, hb⟩
  have HB1 := Lib.hid hb
  clear hb
  dsimp only
  go_upto_if 38 with fail
  go_cut [7, 8] (fun s7 s8 W => (∃ x y : Int, s7 = .int .i64 x ∧ s8 = .int .i64 y ∧ 0 ≤ x ∧ x ≤ y ∧ y < 200000) ∧ W = W1)
  case first =>
    by_cases hgt : y0 < x0
    · have tg : decide (y0 < x0) = true := decide_eq_true hgt
      go_wp2_with fail
      go_meet
      exact ⟨⟨y0, x0, rfl, rfl, HBY.out.1, by omega, HBX.out.2⟩, rfl⟩
    · have tg : decide (y0 < x0) = false := decide_eq_false hgt
      go_wp2_with fail
      go_meet
      exact ⟨⟨x0, y0, rfl, rfl, HBX.out.1, by omega, HBY.out.2⟩, rfl⟩
  case rest =>
    obtain ⟨⟨x, y, rfl, rfl, hx0, hxy, hy1⟩, hwc⟩ := hcut
    subst hwc
    have HXY : Hid (0 ≤ x ∧ x ≤ y ∧ y < 200000) := Lib.hid ⟨hx0, hxy, hy1⟩
    clear hx0 hxy hy1 m1 m2 m3 m4 w1 w2 w3 w4 bx b_y
    obtain ⟨B, hB⟩ : ∃ B, B = wc.heap.size := ⟨_, rfl⟩
    have HBw : Hid (w.heap.size ≤ B) := Lib.hid (by rw [hB]; exact HB1.out.size)
    go_wp2_with fail
    refine (D.new_ wc).mono ?_
    rintro e W2 ⟨p, rfl, h1, h2, hb⟩
    have HS2 : Hid (OneS D B W2 p newS) := Lib.hid ⟨h1, fun k hk => by rw [hB]; exact h2 k hk⟩
    have HBS2 : Hid (B ≤ W2.heap.size) := Lib.hid (by rw [hB]; exact hb.size)
    have HU2 := Lib.hid (HB1.out.trans (hb.mono HB1.out.size))
    clear h1 h2 hb hB
    dsimp only
    go_wp2_with fail
    refine (D.new_ W2).mono ?_
    rintro e W3 ⟨q, rfl, h1, h2, hb⟩
    have HT3 := Lib.hid (HS2.out.two HBS2.out hb h1 h2)
    have HBS3 := Lib.hid (Nat.le_trans HBS2.out hb.size)
    have HU3 := Lib.hid (HU2.out.trans (hb.mono HU2.out.size))
    clear h1 h2 hb HS2 HBS2
    dsimp only
    have hcall : Hid (∀ (W : World) (r : Nat), D.sit W r newS → PLies W (.slice ad l.length cap) l → Calls Try.prog 14 #[.pointer (some ⟨r, 0, none⟩), .slice ad l.length cap] W fun e w' => e = .returned (.tuple #[.int .i64 (putR newS l).1, .int .i64 (putR newS l).2]) ∧ D.sit w' r (putT newS l) ∧ (∀ k, D.own w' r k → D.own W r k ∨ W.heap.size ≤ k) ∧ Only (D.own W r) W w') := Lib.hid fun W r hs hp => D.put hs hp HF.out (by have := HL40.out; omega)
    obtain ⟨pn, hpn⟩ : ∃ pn, pn = (putR newS l).1 := ⟨_, rfl⟩
    obtain ⟨pe, hpe⟩ : ∃ pe, pe = (putR newS l).2 := ⟨_, rfl⟩
    obtain ⟨s1, hs1⟩ : ∃ s1, s1 = putT newS l := ⟨_, rfl⟩
    rw [← hpn, ← hpe, ← hs1] at hcall
    have HPE := Lib.hid hpe
    have HS1 := Lib.hid hs1
    clear hpn hpe hs1
    go_wp2_with fail
    refine (hcall.out W3 p HT3.out.fst.sit (HV.out.beyond HU3.out)).mono ?_
    rintro e W4 ⟨rfl, h1, h2, h3⟩
    have hst := HT3.out.step HBS3.out h1 h2 h3
    have HT4 := Lib.hid hst.1
    have HBS4 := Lib.hid (Nat.le_trans HBS3.out hst.2.size)
    have HU4 := Lib.hid (HU3.out.trans (hst.2.mono HBw.out))
    clear h1 h2 h3 hst
    dsimp only
    go_wp2_with fail
    refine (hcall.out W4 q HT4.out.snd.sit (HV.out.beyond HU4.out)).mono ?_
    rintro e W5 ⟨rfl, h1, h2, h3⟩
    have hst := HT4.out.turn.step HBS4.out h1 h2 h3
    have HT5 := Lib.hid hst.1.turn
    have HBS5 := Lib.hid (Nat.le_trans HBS4.out hst.2.size)
    have HU5 := Lib.hid (HU4.out.trans (hst.2.mono HBw.out))
    clear h1 h2 h3 hst
    dsimp only
    have hpe0 : pe = 0 ∨ pe ≠ 0 := by omega
    rcases hpe0 with hpe0 | hpe0
    · subst hpe0
      have hplain : ∃ n m k : Int, rollR s1 x = (n, 0) ∧ rollR (rollT s1 x) y = (m, 0) ∧ rollR s1 y = (k, 0) ∧ n + m = k ∧ 0 ≤ n ∧ n ≤ 1000 ∧ -1000 ≤ m ∧ m ≤ 1000 ∧ rollT (rollT s1 x) y = rollT s1 y ∧ rollR (rollT s1 y) y = (0, 0) ∧ rollT (rollT s1 y) y = rollT s1 y := by
        have hok : putBad newS l = false := putR_ok.1 HPE.out.symm
        have he : s1 = { newS with raw := putL [] l } := by rw [HS1.out]; unfold putT; rw [if_neg (by rw [hok]; simp)]; rfl
        have hg : GoodT s1 := by rw [HS1.out]; exact putT_good GoodT.new HF.out
        have hlen : s1.raw.length ≤ 40 := by
          rw [he]
          have key : ∀ (k : List Pt) (z : List Pt), (putL z k).length ≤ z.length + k.length := by
            have one : ∀ (z : List Pt) (p : Pt), (putP z p).length ≤ z.length + 1 := by
              intro z p
              induction z with
              | nil => simp [putP]
              | cons q r ih =>
                show (if p.a < q.a then p :: q :: r else if q.a < p.a then q :: putP r p else p :: r).length ≤ _
                split
                · simp
                · split
                  · simp only [List.length_cons]; omega
                  · simp
            intro k
            induction k with
            | nil => intro z; exact Nat.le_refl _
            | cons p k ih =>
              intro z
              have h1 := ih (putP z p)
              have h2 := one z p
              show (putL (putP z p) k).length ≤ _
              simp only [List.length_cons]; omega
          have := key l []
          have := HL40.out
          simp only [List.length_nil] at *
          omega
        exact rolls_plain hg hlen (by rw [he]; rfl) (by rw [he]; rfl) (by rw [he]; rfl) HXY.out.1 HXY.out.2.1 (by have := HXY.out.2.2; omega)
      obtain ⟨n, m, k, e1, e2, e3, e4, n0, n1, m0, m1, e5, e6, e7⟩ := hplain
      have hr1 := fun (W : World) (r : Nat) (hs : D.sit W r s1) => D.roll (now := x) hs (by have := HXY.out.1; omega) (by have := HXY.out; omega)
      have hr2 := fun (W : World) (r : Nat) (hs : D.sit W r (rollT s1 x)) => D.roll (now := y) hs (by have := HXY.out; omega) (by have := HXY.out; omega)
      have hr3 := fun (W : World) (r : Nat) (hs : D.sit W r s1) => D.roll (now := y) hs (by have := HXY.out; omega) (by have := HXY.out; omega)
      have hr4 := fun (W : World) (r : Nat) (hs : D.sit W r (rollT s1 y)) => D.roll (now := y) hs (by have := HXY.out; omega) (by have := HXY.out; omega)
      simp only [e1] at hr1
      simp only [e2, e5] at hr2
      simp only [e3] at hr3
      simp only [e6, e7] at hr4
      obtain ⟨S, hS⟩ : ∃ S, S = rollT s1 y := ⟨_, rfl⟩
      obtain ⟨S1, hS1⟩ : ∃ S1, S1 = rollT s1 x := ⟨_, rfl⟩
      rw [← hS1] at hr1 hr2
      rw [← hS] at hr2 hr3 hr4
      have HR1 := Lib.hid hr1
      have HR2 := Lib.hid hr2
      have HR3 := Lib.hid hr3
      have HR4 := Lib.hid hr4
      have ek : IntKind.i64.wrap (n + m) = k := by rw [IntKind.wrap_i64]; omega
      have ek2 : wrap64 (n + m) = k := by rw [← e4]; first | (apply wrap64_id <;> omega) | (unfold wrap64; omega)
      clear e1 e2 e3 e4 e5 e6 e7 n0 n1 m0 m1 hr1 hr2 hr3 hr4 hS hS1
      go_wp2_with fail
      refine (HR1.out W5 p HT5.out.fst.sit).mono ?_
      rintro e W6 ⟨rfl, h1, h2, h3⟩
      have hst := HT5.out.step HBS5.out h1 h2 h3
      have HT6 := Lib.hid hst.1
      have HBS6 := Lib.hid (Nat.le_trans HBS5.out hst.2.size)
      have HU6 := Lib.hid (HU5.out.trans (hst.2.mono HBw.out))
      clear h1 h2 h3 hst
      dsimp only
      go_wp2_with fail
      refine (HR2.out W6 p HT6.out.fst.sit).mono ?_
      rintro e W7 ⟨rfl, h1, h2, h3⟩
      have hst := HT6.out.step HBS6.out h1 h2 h3
      have HT7 := Lib.hid hst.1
      have HBS7 := Lib.hid (Nat.le_trans HBS6.out hst.2.size)
      have HU7 := Lib.hid (HU6.out.trans (hst.2.mono HBw.out))
      clear h1 h2 h3 hst
      dsimp only
      go_wp2_with fail
      refine (HR3.out W7 q HT7.out.snd.sit).mono ?_
      rintro e W8 ⟨rfl, h1, h2, h3⟩
      have hst := HT7.out.turn.step HBS7.out h1 h2 h3
      have HT8 := Lib.hid hst.1.turn
      have HBS8 := Lib.hid (Nat.le_trans HBS7.out hst.2.size)
      have HU8 := Lib.hid (HU7.out.trans (hst.2.mono HBw.out))
      clear h1 h2 h3 hst
      dsimp only
      go_wp2_with fail
      refine (HR4.out W8 p HT8.out.fst.sit).mono ?_
      rintro e W9 ⟨rfl, h1, h2, h3⟩
      have hst := HT8.out.step HBS8.out h1 h2 h3
      have HT9 := Lib.hid hst.1
      have HBS9 := Lib.hid (Nat.le_trans HBS8.out hst.2.size)
      have HU9 := Lib.hid (HU8.out.trans (hst.2.mono HBw.out))
      clear h1 h2 h3 hst
      dsimp only
      go_upto_region 16 with fail
      refine wp_name fun W20 hW20 => ?_
      obtain ⟨PA, hPA⟩ : ∃ PA, PA = W9.heap.size := ⟨_, rfl⟩
      have hx20 := PairS.new HT9.out 0 2199023255552 hW20.out
      have hb20 : Below W9.heap.size W9 W20 := by rw [hW20.out]; exact (Below.refl _ _).alloc (Nat.le_refl _) _
      rw [← hPA] at hx20 ⊢
      have HX20 := Lib.hid hx20
      have HU20 := Lib.hid (HU9.out.trans (hb20.mono HU9.out.size))
      clear hx20 hb20 hW20 hPA HT9 HU9 HBS9
      have HX20D := Lib.hid (HX20.out.keep ((Below.refl W20.heap.size W20).drew))
      refine wp_region_held_drew (S := fun W => RgAt W PA 0 2199023255552) (by kernel_rfl) HX20D.out.all (fun _ => ?_)
      refine anyH_take (i := 0) (some 79) (v := _) rfl rfl (by kernel_rfl) (by kernel_rfl) (by kernel_rfl) (fun _ _ _ h => h) (by rfl) (HX20D.out.all) (by intro w hSw; obtain ⟨q0, q1, -, -⟩ := RgAt.cells hSw; go_simp; try with_reducible rfl) ?_
      (try simp only [Act.put, List.setIfInBounds_toArray, List.set_cons_zero, List.set_cons_succ])
      refine anyH_take (i := 1) (some 80) (v := _) rfl rfl (by kernel_rfl) (by kernel_rfl) (by kernel_rfl) (fun _ _ _ h => h) (by rfl) (HX20D.out.all) (by intro w hSw; obtain ⟨q0, q1, -, -⟩ := RgAt.cells hSw; go_simp; try with_reducible rfl) ?_
      (try simp only [Act.put, List.setIfInBounds_toArray, List.set_cons_zero, List.set_cons_succ])
      refine anyH_take (i := 2) (some 81) (v := _) rfl rfl (by kernel_rfl) (by kernel_rfl) (by kernel_rfl) (fun _ _ _ h => h) (by rfl) (HX20D.out.all) (by intro w hSw; obtain ⟨q0, q1, -, -⟩ := RgAt.cells hSw; go_simp; try with_reducible rfl) ?_
      (try simp only [Act.put, List.setIfInBounds_toArray, List.set_cons_zero, List.set_cons_succ])
      refine anyH_take (i := 3) (some 82) (v := _) rfl rfl (by kernel_rfl) (by kernel_rfl) (by kernel_rfl) (fun _ _ _ h => h) (by rfl) (HX20D.out.all) (by intro w hSw; obtain ⟨q0, q1, -, -⟩ := RgAt.cells hSw; go_simp; try with_reducible rfl) ?_
      (try simp only [Act.put, List.setIfInBounds_toArray, List.set_cons_zero, List.set_cons_succ])
      refine anyH_take (i := 4) (some 83) (v := _) rfl rfl (by kernel_rfl) (by kernel_rfl) (by kernel_rfl) (fun _ _ _ h => h) (by rfl) (HX20D.out.all) (by intro w hSw; obtain ⟨q0, q1, -, -⟩ := RgAt.cells hSw; go_simp; try with_reducible rfl) ?_
      (try simp only [Act.put, List.setIfInBounds_toArray, List.set_cons_zero, List.set_cons_succ])
      refine anyH_take (i := 5) (some 84) (v := _) rfl rfl (by kernel_rfl) (by kernel_rfl) (by kernel_rfl) (fun _ _ _ h => h) (by rfl) (HX20D.out.all) (by intro w hSw; obtain ⟨q0, q1, -, -⟩ := RgAt.cells hSw; go_simp; try with_reducible rfl) ?_
      (try simp only [Act.put, List.setIfInBounds_toArray, List.set_cons_zero, List.set_cons_succ])
      refine anyH_take (i := 6) (some 85) (v := _) rfl rfl (by kernel_rfl) (by kernel_rfl) (by kernel_rfl) (fun _ _ _ h => h) (by rfl) (HX20D.out.all) (by intro w hSw; obtain ⟨q0, q1, -, -⟩ := RgAt.cells hSw; go_simp; try with_reducible rfl) ?_
      (try simp only [Act.put, List.setIfInBounds_toArray, List.set_cons_zero, List.set_cons_succ])
      refine anyH_take (i := 7) (some 86) (v := _) rfl rfl (by kernel_rfl) (by kernel_rfl) (by kernel_rfl) (fun _ _ _ h => h) (by rfl) (HX20D.out.all) (by intro w hSw; obtain ⟨q0, q1, -, -⟩ := RgAt.cells hSw; go_simp; try with_reducible rfl) ?_
      (try simp only [Act.put, List.setIfInBounds_toArray, List.set_cons_zero, List.set_cons_succ])
      refine anyH_take (i := 8) (some 87) (v := _) rfl rfl (by kernel_rfl) (by kernel_rfl) (by kernel_rfl) (fun _ _ _ h => h) (by rfl) (HX20D.out.all) (by intro w hSw; obtain ⟨q0, q1, -, -⟩ := RgAt.cells hSw; go_simp; try with_reducible rfl) ?_
      (try simp only [Act.put, List.setIfInBounds_toArray, List.set_cons_zero, List.set_cons_succ])
      refine anyH_take (i := 9) (some 88) (v := _) rfl rfl (by kernel_rfl) (by kernel_rfl) (by kernel_rfl) (fun _ _ _ h => h) (by rfl) (HX20D.out.all) (by intro w hSw; obtain ⟨q0, q1, -, -⟩ := RgAt.cells hSw; go_simp; try with_reducible rfl) ?_
      (try simp only [Act.put, List.setIfInBounds_toArray, List.set_cons_zero, List.set_cons_succ])
      refine anyH_take (i := 10) (some 89) (v := _) rfl rfl (by kernel_rfl) (by kernel_rfl) (by kernel_rfl) (fun _ _ _ h => h) (by rfl) (HX20D.out.all) (by intro w hSw; obtain ⟨q0, q1, -, -⟩ := RgAt.cells hSw; go_simp; try with_reducible rfl) ?_
      (try simp only [Act.put, List.setIfInBounds_toArray, List.set_cons_zero, List.set_cons_succ])
      refine anyH_take (i := 11) (some 90) (v := _) rfl rfl (by kernel_rfl) (by kernel_rfl) (by kernel_rfl) (fun _ _ _ h => h) (by rfl) (HX20D.out.all) (by intro w hSw; obtain ⟨q0, q1, -, -⟩ := RgAt.cells hSw; go_simp; try with_reducible rfl) ?_
      (try simp only [Act.put, List.setIfInBounds_toArray, List.set_cons_zero, List.set_cons_succ])
      refine anyH_take (i := 12) (some 91) (v := _) rfl rfl (by kernel_rfl) (by kernel_rfl) (by kernel_rfl) (fun _ _ _ h => h) (by rfl) (HX20D.out.all) (by intro w hSw; obtain ⟨q0, q1, -, -⟩ := RgAt.cells hSw; go_simp; try with_reducible rfl) ?_
      (try simp only [Act.put, List.setIfInBounds_toArray, List.set_cons_zero, List.set_cons_succ])
      refine anyH_take (i := 13) (some 92) (v := _) rfl rfl (by kernel_rfl) (by kernel_rfl) (by kernel_rfl) (fun _ _ _ h => h) (by rfl) (HX20D.out.all) (by intro w hSw; obtain ⟨q0, q1, -, -⟩ := RgAt.cells hSw; go_simp; try with_reducible rfl) ?_
      (try simp only [Act.put, List.setIfInBounds_toArray, List.set_cons_zero, List.set_cons_succ])
      refine anyH_take (i := 14) (some 93) (v := _) rfl rfl (by kernel_rfl) (by kernel_rfl) (by kernel_rfl) (fun _ _ _ h => h) (by rfl) (HX20D.out.all) (by intro w hSw; obtain ⟨q0, q1, -, -⟩ := RgAt.cells hSw; go_simp; try with_reducible rfl) ?_
      (try simp only [Act.put, List.setIfInBounds_toArray, List.set_cons_zero, List.set_cons_succ])
      refine anyH_take (i := 15) (some 94) (v := _) rfl rfl (by kernel_rfl) (by kernel_rfl) (by kernel_rfl) (fun _ _ _ h => h) (by rfl) (HX20D.out.all) (by intro w hSw; obtain ⟨q0, q1, -, -⟩ := RgAt.cells hSw; go_simp; try with_reducible rfl) ?_
      (try simp only [Act.put, List.setIfInBounds_toArray, List.set_cons_zero, List.set_cons_succ])
      refine anyH_take (i := 16) (some 95) (v := _) rfl rfl (by kernel_rfl) (by kernel_rfl) (by kernel_rfl) (fun _ _ _ h => h) (by rfl) (HX20D.out.all) (by intro w hSw; obtain ⟨q0, q1, -, -⟩ := RgAt.cells hSw; go_simp; try with_reducible rfl) ?_
      (try simp only [Act.put, List.setIfInBounds_toArray, List.set_cons_zero, List.set_cons_succ])
      refine anyH_take (i := 17) (some 96) (v := _) rfl rfl (by kernel_rfl) (by kernel_rfl) (by kernel_rfl) (fun _ _ _ h => h) (by rfl) (HX20D.out.all) (by intro w hSw; obtain ⟨q0, q1, -, -⟩ := RgAt.cells hSw; go_simp; try with_reducible rfl) ?_
      (try simp only [Act.put, List.setIfInBounds_toArray, List.set_cons_zero, List.set_cons_succ])
      refine anyH_take (i := 18) (some 97) (v := _) rfl rfl (by kernel_rfl) (by kernel_rfl) (by kernel_rfl) (fun _ _ _ h => h) (by rfl) (HX20D.out.all) (by intro w hSw; obtain ⟨q0, q1, -, -⟩ := RgAt.cells hSw; go_simp; try with_reducible rfl) ?_
      (try simp only [Act.put, List.setIfInBounds_toArray, List.set_cons_zero, List.set_cons_succ])
      refine anyH_take (i := 19) (some 98) (v := _) rfl rfl (by kernel_rfl) (by kernel_rfl) (by kernel_rfl) (fun _ _ _ h => h) (by rfl) (HX20D.out.all) (by intro w hSw; obtain ⟨q0, q1, -, -⟩ := RgAt.cells hSw; go_simp; try with_reducible rfl) ?_
      (try simp only [Act.put, List.setIfInBounds_toArray, List.set_cons_zero, List.set_cons_succ])
      refine anyH_take (i := 20) (some 99) (v := _) rfl rfl (by kernel_rfl) (by kernel_rfl) (by kernel_rfl) (fun _ _ _ h => h) (by rfl) (HX20D.out.all) (by intro w hSw; obtain ⟨q0, q1, -, -⟩ := RgAt.cells hSw; go_simp; try with_reducible rfl) ?_
      (try simp only [Act.put, List.setIfInBounds_toArray, List.set_cons_zero, List.set_cons_succ])
      refine anyH_take (i := 21) (some 100) (v := _) rfl rfl (by kernel_rfl) (by kernel_rfl) (by kernel_rfl) (fun _ _ _ h => h) (by rfl) (HX20D.out.all) (by intro w hSw; obtain ⟨q0, q1, -, -⟩ := RgAt.cells hSw; go_simp; try with_reducible rfl) ?_
      (try simp only [Act.put, List.setIfInBounds_toArray, List.set_cons_zero, List.set_cons_succ])
      refine anyH_take (i := 22) (some 101) (v := _) rfl rfl (by kernel_rfl) (by kernel_rfl) (by kernel_rfl) (fun _ _ _ h => h) (by rfl) (HX20D.out.all) (by intro w hSw; obtain ⟨q0, q1, -, -⟩ := RgAt.cells hSw; go_simp; try with_reducible rfl) ?_
      (try simp only [Act.put, List.setIfInBounds_toArray, List.set_cons_zero, List.set_cons_succ])
      refine anyH_take (i := 23) (some 102) (v := _) rfl rfl (by kernel_rfl) (by kernel_rfl) (by kernel_rfl) (fun _ _ _ h => h) (by rfl) (HX20D.out.all) (by intro w hSw; obtain ⟨q0, q1, -, -⟩ := RgAt.cells hSw; go_simp; try with_reducible rfl) ?_
      (try simp only [Act.put, List.setIfInBounds_toArray, List.set_cons_zero, List.set_cons_succ])
      refine anyH_take (i := 24) (some 103) (v := _) rfl rfl (by kernel_rfl) (by kernel_rfl) (by kernel_rfl) (fun _ _ _ h => h) (by rfl) (HX20D.out.all) (by intro w hSw; obtain ⟨q0, q1, -, -⟩ := RgAt.cells hSw; go_simp; try with_reducible rfl) ?_
      (try simp only [Act.put, List.setIfInBounds_toArray, List.set_cons_zero, List.set_cons_succ])
      refine anyH_take (i := 25) (some 104) (v := _) rfl rfl (by kernel_rfl) (by kernel_rfl) (by kernel_rfl) (fun _ _ _ h => h) (by rfl) (HX20D.out.all) (by intro w hSw; obtain ⟨q0, q1, -, -⟩ := RgAt.cells hSw; go_simp; try with_reducible rfl) ?_
      (try simp only [Act.put, List.setIfInBounds_toArray, List.set_cons_zero, List.set_cons_succ])
      refine anyH_take (i := 26) (some 105) (v := _) rfl rfl (by kernel_rfl) (by kernel_rfl) (by kernel_rfl) (fun _ _ _ h => h) (by rfl) (HX20D.out.all) (by intro w hSw; obtain ⟨q0, q1, -, -⟩ := RgAt.cells hSw; go_simp; try with_reducible rfl) ?_
      (try simp only [Act.put, List.setIfInBounds_toArray, List.set_cons_zero, List.set_cons_succ])
      refine anyH_take (i := 27) (some 106) (v := _) rfl rfl (by kernel_rfl) (by kernel_rfl) (by kernel_rfl) (fun _ _ _ h => h) (by rfl) (HX20D.out.all) (by intro w hSw; obtain ⟨q0, q1, -, -⟩ := RgAt.cells hSw; go_simp; try with_reducible rfl) ?_
      (try simp only [Act.put, List.setIfInBounds_toArray, List.set_cons_zero, List.set_cons_succ])
      refine anyH_take (i := 29) (some 108) (v := _) rfl rfl (by kernel_rfl) (by kernel_rfl) (by kernel_rfl) (fun _ _ _ h => h) (by rfl) (HX20D.out.all) (by intro w hSw; obtain ⟨q0, q1, -, -⟩ := RgAt.cells hSw; go_simp; try with_reducible rfl) ?_
      (try simp only [Act.put, List.setIfInBounds_toArray, List.set_cons_zero, List.set_cons_succ])
      refine anyH_take (i := 30) (some 109) (v := _) rfl rfl (by kernel_rfl) (by kernel_rfl) (by kernel_rfl) (fun _ _ _ h => h) (by rfl) (HX20D.out.all) (by intro w hSw; obtain ⟨q0, q1, -, -⟩ := RgAt.cells hSw; go_simp; try with_reducible rfl) ?_
      (try simp only [Act.put, List.setIfInBounds_toArray, List.set_cons_zero, List.set_cons_succ])
      refine wpAnyH_ready (rs := [28]) (by kernel_rfl) (by simp) (AllReadyH.cons rfl (fun K hK => ?_) AllReadyH.nil)
      go_simp
      refine (D.aggs (t := 1) HX20D.out.two.fst.sit (by omega) (by omega) (by omega) (by omega) (by omega) (by omega)).mono ?_
      rintro e W21 ⟨v21, rfl, hr, hb⟩; replace hb := below_undrew hb
      have HX21 := Lib.hid (HX20.out.keep hb)
      have HU21 := Lib.hid (HU20.out.trans (hb.mono HU20.out.size))
      have HV21 := Lib.hid hr.lies
      clear hb hr
      go_wp2_with fail
      refine hK.out _ _ (HX21.out.all) (fun _ => ?_)
      clear hK K
      (try simp only [Act.put, List.setIfInBounds_toArray, List.set_cons_zero, List.set_cons_succ])
      refine wpAnyH_ready (rs := [31]) (by kernel_rfl) (by simp) (AllReadyH.cons rfl (fun K hK => ?_) AllReadyH.nil)
      go_simp
      refine (D.aggs (t := 1) HX21.out.two.snd.sit (by omega) (by omega) (by omega) (by omega) (by omega) (by omega)).mono ?_
      rintro e W22 ⟨v22, rfl, hr, hb⟩
      have HX22 := Lib.hid (HX21.out.keep hb)
      have HU22 := Lib.hid (HU21.out.trans (hb.mono HU21.out.size))
      have HV21k := Lib.hid (HV21.out.beyond hb)
      have HV22 := Lib.hid hr.lies
      clear hb hr
      go_wp2_with fail
      refine hK.out _ _ (HX22.out.all) (fun _ => ?_)
      clear hK K
      (try simp only [Act.put, List.setIfInBounds_toArray, List.set_cons_zero, List.set_cons_succ])
      refine wpAnyH_ready (rs := [32]) (by kernel_rfl) (by simp) (AllReadyH.cons rfl (fun K hK => ?_) AllReadyH.nil)
      go_simp
      refine (sameAg_yes HV21k.out HV22.out (aggs_lenT (D.good HX22.out.two.fst.sit) _ _ _)).mono ?_
      rintro e W23 ⟨rfl, hb⟩
      have HX23 := Lib.hid (HX22.out.keep hb)
      have HU23 := Lib.hid (HU22.out.trans (hb.mono HU22.out.size))
      clear hb
      go_wp2_with fail
      refine hK.out _ _ (HX23.out.all) (fun _ => ?_)
      clear hK K
      (try simp only [Act.put, List.setIfInBounds_toArray, List.set_cons_zero, List.set_cons_succ])
      refine anyH_take (i := 33) (some 112) (v := _) rfl rfl (by kernel_rfl) (by kernel_rfl) (by kernel_rfl) (fun _ _ _ h => h) (by rfl) (HX23.out.all) (by intro w hSw; obtain ⟨q0, q1, -, -⟩ := RgAt.cells hSw; go_simp; try with_reducible rfl) ?_
      (try simp only [Act.put, List.setIfInBounds_toArray, List.set_cons_zero, List.set_cons_succ])
      refine anyH_take (i := 34) (some 113) (v := _) rfl rfl (by kernel_rfl) (by kernel_rfl) (by kernel_rfl) (fun _ _ _ h => h) (by rfl) (HX23.out.all) (by intro w hSw; obtain ⟨q0, q1, -, -⟩ := RgAt.cells hSw; go_simp; try with_reducible rfl) ?_
      (try simp only [Act.put, List.setIfInBounds_toArray, List.set_cons_zero, List.set_cons_succ])
      refine anyH_take (i := 35) (some 114) (v := _) rfl rfl (by kernel_rfl) (by kernel_rfl) (by kernel_rfl) (fun _ _ _ h => h) (by rfl) (HX23.out.all) (by intro w hSw; obtain ⟨q0, q1, -, -⟩ := RgAt.cells hSw; go_simp; try with_reducible rfl) ?_
      (try simp only [Act.put, List.setIfInBounds_toArray, List.set_cons_zero, List.set_cons_succ])
      refine anyH_take (i := 36) (some 115) (v := _) rfl rfl (by kernel_rfl) (by kernel_rfl) (by kernel_rfl) (fun _ _ _ h => h) (by rfl) (HX23.out.all) (by intro w hSw; obtain ⟨q0, q1, -, -⟩ := RgAt.cells hSw; go_simp; try with_reducible rfl) ?_
      (try simp only [Act.put, List.setIfInBounds_toArray, List.set_cons_zero, List.set_cons_succ])
      refine anyH_take (i := 38) (some 117) (v := _) rfl rfl (by kernel_rfl) (by kernel_rfl) (by kernel_rfl) (fun _ _ _ h => h) (by rfl) (HX23.out.all) (by intro w hSw; obtain ⟨q0, q1, -, -⟩ := RgAt.cells hSw; go_simp; try with_reducible rfl) ?_
      (try simp only [Act.put, List.setIfInBounds_toArray, List.set_cons_zero, List.set_cons_succ])
      refine anyH_take (i := 39) (some 118) (v := _) rfl rfl (by kernel_rfl) (by kernel_rfl) (by kernel_rfl) (fun _ _ _ h => h) (by rfl) (HX23.out.all) (by intro w hSw; obtain ⟨q0, q1, -, -⟩ := RgAt.cells hSw; go_simp; try with_reducible rfl) ?_
      (try simp only [Act.put, List.setIfInBounds_toArray, List.set_cons_zero, List.set_cons_succ])
      refine wpAnyH_ready (rs := [37]) (by kernel_rfl) (by simp) (AllReadyH.cons rfl (fun K hK => ?_) AllReadyH.nil)
      go_simp
      refine (D.aggs (t := 2) HX23.out.two.fst.sit (by omega) (by omega) (by omega) (by omega) (by omega) (by omega)).mono ?_
      rintro e W24 ⟨v24, rfl, hr, hb⟩
      have HX24 := Lib.hid (HX23.out.keep hb)
      have HU24 := Lib.hid (HU23.out.trans (hb.mono HU23.out.size))
      have HV24 := Lib.hid hr.lies
      clear hb hr
      go_wp2_with fail
      refine hK.out _ _ (HX24.out.all) (fun _ => ?_)
      clear hK K
      (try simp only [Act.put, List.setIfInBounds_toArray, List.set_cons_zero, List.set_cons_succ])
      refine wpAnyH_ready (rs := [40]) (by kernel_rfl) (by simp) (AllReadyH.cons rfl (fun K hK => ?_) AllReadyH.nil)
      go_simp
      refine (D.aggs (t := 2) HX24.out.two.snd.sit (by omega) (by omega) (by omega) (by omega) (by omega) (by omega)).mono ?_
      rintro e W25 ⟨v25, rfl, hr, hb⟩
      have HX25 := Lib.hid (HX24.out.keep hb)
      have HU25 := Lib.hid (HU24.out.trans (hb.mono HU24.out.size))
      have HV24k := Lib.hid (HV24.out.beyond hb)
      have HV25 := Lib.hid hr.lies
      clear hb hr
      go_wp2_with fail
      refine hK.out _ _ (HX25.out.all) (fun _ => ?_)
      clear hK K
      (try simp only [Act.put, List.setIfInBounds_toArray, List.set_cons_zero, List.set_cons_succ])
      refine wpAnyH_ready (rs := [41]) (by kernel_rfl) (by simp) (AllReadyH.cons rfl (fun K hK => ?_) AllReadyH.nil)
      go_simp
      refine (sameAg_yes HV24k.out HV25.out (aggs_lenT (D.good HX25.out.two.fst.sit) _ _ _)).mono ?_
      rintro e W26 ⟨rfl, hb⟩
      have HX26 := Lib.hid (HX25.out.keep hb)
      have HU26 := Lib.hid (HU25.out.trans (hb.mono HU25.out.size))
      clear hb
      go_wp2_with fail
      refine hK.out _ _ (HX26.out.all) (fun _ => ?_)
      clear hK K
      (try simp only [Act.put, List.setIfInBounds_toArray, List.set_cons_zero, List.set_cons_succ])
      refine anyH_take (i := 42) (some 121) (v := _) rfl rfl (by kernel_rfl) (by kernel_rfl) (by kernel_rfl) (fun _ _ _ h => h) (by rfl) (HX26.out.all) (by intro w hSw; obtain ⟨q0, q1, -, -⟩ := RgAt.cells hSw; go_simp; try with_reducible rfl) ?_
      (try simp only [Act.put, List.setIfInBounds_toArray, List.set_cons_zero, List.set_cons_succ])
      refine anyH_take (i := 43) (some 122) (v := _) rfl rfl (by kernel_rfl) (by kernel_rfl) (by kernel_rfl) (fun _ _ _ h => h) (by rfl) (HX26.out.all) (by intro w hSw; obtain ⟨q0, q1, -, -⟩ := RgAt.cells hSw; go_simp; try with_reducible rfl) ?_
      (try simp only [Act.put, List.setIfInBounds_toArray, List.set_cons_zero, List.set_cons_succ])
      refine anyH_take (i := 44) (some 123) (v := _) rfl rfl (by kernel_rfl) (by kernel_rfl) (by kernel_rfl) (fun _ _ _ h => h) (by rfl) (HX26.out.all) (by intro w hSw; obtain ⟨q0, q1, -, -⟩ := RgAt.cells hSw; go_simp; try with_reducible rfl) ?_
      (try simp only [Act.put, List.setIfInBounds_toArray, List.set_cons_zero, List.set_cons_succ])
      refine anyH_take (i := 46) (some 125) (v := _) rfl rfl (by kernel_rfl) (by kernel_rfl) (by kernel_rfl) (fun _ _ _ h => h) (by rfl) (HX26.out.all) (by intro w hSw; obtain ⟨q0, q1, -, -⟩ := RgAt.cells hSw; go_simp; try with_reducible rfl) ?_
      (try simp only [Act.put, List.setIfInBounds_toArray, List.set_cons_zero, List.set_cons_succ])
      refine wpAnyH_ready (rs := [45]) (by kernel_rfl) (by simp) (AllReadyH.cons rfl (fun K hK => ?_) AllReadyH.nil)
      go_simp
      refine (D.mark (t := 1) HX26.out.two.fst.sit (by omega) (by omega)).mono ?_
      rintro e W27 ⟨rfl, hb⟩
      have HX27 := Lib.hid (HX26.out.keep hb)
      have HU27 := Lib.hid (HU26.out.trans (hb.mono HU26.out.size))
      clear hb
      go_wp2_with fail
      refine hK.out _ _ (HX27.out.all) (fun _ => ?_)
      clear hK K
      (try simp only [Act.put, List.setIfInBounds_toArray, List.set_cons_zero, List.set_cons_succ])
      refine wpAnyH_ready (rs := [47]) (by kernel_rfl) (by simp) (AllReadyH.cons rfl (fun K hK => ?_) AllReadyH.nil)
      go_simp
      refine (D.mark (t := 1) HX27.out.two.snd.sit (by omega) (by omega)).mono ?_
      rintro e W28 ⟨rfl, hb⟩
      have HX28 := Lib.hid (HX27.out.keep hb)
      have HU28 := Lib.hid (HU27.out.trans (hb.mono HU27.out.size))
      clear hb
      go_wp2_with fail
      refine hK.out _ _ (HX28.out.all) (fun _ => ?_)
      clear hK K
      (try simp only [Act.put, List.setIfInBounds_toArray, List.set_cons_zero, List.set_cons_succ])
      refine anyH_take (i := 48) (some 127) (v := _) rfl rfl (by kernel_rfl) (by kernel_rfl) (by kernel_rfl) (fun _ _ _ h => h) (by rfl) (HX28.out.all) (by intro w hSw; obtain ⟨q0, q1, -, -⟩ := RgAt.cells hSw; go_simp; try with_reducible rfl) ?_
      (try simp only [Act.put, List.setIfInBounds_toArray, List.set_cons_zero, List.set_cons_succ])
      refine anyH_take (i := 49) (some 128) (v := _) rfl rfl (by kernel_rfl) (by kernel_rfl) (by kernel_rfl) (fun _ _ _ h => h) (by rfl) (HX28.out.all) (by intro w hSw; obtain ⟨q0, q1, -, -⟩ := RgAt.cells hSw; go_simp; try with_reducible rfl) ?_
      (try simp only [Act.put, List.setIfInBounds_toArray, List.set_cons_zero, List.set_cons_succ])
      refine anyH_take (i := 50) (some 129) (v := _) rfl rfl (by kernel_rfl) (by kernel_rfl) (by kernel_rfl) (fun _ _ _ h => h) (by rfl) (HX28.out.all) (by intro w hSw; obtain ⟨q0, q1, -, -⟩ := RgAt.cells hSw; go_simp; try with_reducible rfl) ?_
      (try simp only [Act.put, List.setIfInBounds_toArray, List.set_cons_zero, List.set_cons_succ])
      refine anyH_take (i := 51) (some 130) (v := _) rfl rfl (by kernel_rfl) (by kernel_rfl) (by kernel_rfl) (fun _ _ _ h => h) (by rfl) (HX28.out.all) (by intro w hSw; obtain ⟨q0, q1, -, -⟩ := RgAt.cells hSw; go_simp; try with_reducible rfl) ?_
      (try simp only [Act.put, List.setIfInBounds_toArray, List.set_cons_zero, List.set_cons_succ])
      refine anyH_take (i := 53) (some 132) (v := _) rfl rfl (by kernel_rfl) (by kernel_rfl) (by kernel_rfl) (fun _ _ _ h => h) (by rfl) (HX28.out.all) (by intro w hSw; obtain ⟨q0, q1, -, -⟩ := RgAt.cells hSw; go_simp; try with_reducible rfl) ?_
      (try simp only [Act.put, List.setIfInBounds_toArray, List.set_cons_zero, List.set_cons_succ])
      refine wpAnyH_ready (rs := [52]) (by kernel_rfl) (by simp) (AllReadyH.cons rfl (fun K hK => ?_) AllReadyH.nil)
      go_simp
      refine (D.mark (t := 2) HX28.out.two.fst.sit (by omega) (by omega)).mono ?_
      rintro e W29 ⟨rfl, hb⟩
      have HX29 := Lib.hid (HX28.out.keep hb)
      have HU29 := Lib.hid (HU28.out.trans (hb.mono HU28.out.size))
      clear hb
      go_wp2_with fail
      refine hK.out _ _ (HX29.out.all) (fun _ => ?_)
      clear hK K
      (try simp only [Act.put, List.setIfInBounds_toArray, List.set_cons_zero, List.set_cons_succ])
      refine wpAnyH_ready (rs := [54]) (by kernel_rfl) (by simp) (AllReadyH.cons rfl (fun K hK => ?_) AllReadyH.nil)
      go_simp
      refine (D.mark (t := 2) HX29.out.two.snd.sit (by omega) (by omega)).mono ?_
      rintro e W30 ⟨rfl, hb⟩
      have HX30 := Lib.hid (HX29.out.keep hb)
      have HU30 := Lib.hid (HU29.out.trans (hb.mono HU29.out.size))
      clear hb
      go_wp2_with fail
      refine hK.out _ _ (HX30.out.all) (fun _ => ?_)
      clear hK K
      (try simp only [Act.put, List.setIfInBounds_toArray, List.set_cons_zero, List.set_cons_succ])
      refine anyH_take (i := 55) (some 134) (v := _) rfl rfl (by kernel_rfl) (by kernel_rfl) (by kernel_rfl) (fun _ _ _ h => h) (by rfl) (HX30.out.all) (by intro w hSw; obtain ⟨q0, q1, -, -⟩ := RgAt.cells hSw; go_simp; try with_reducible rfl) ?_
      (try simp only [Act.put, List.setIfInBounds_toArray, List.set_cons_zero, List.set_cons_succ])
      refine anyH_take (i := 56) (some 135) (v := _) rfl rfl (by kernel_rfl) (by kernel_rfl) (by kernel_rfl) (fun _ _ _ h => h) (by rfl) (HX30.out.all) (by intro w hSw; obtain ⟨q0, q1, -, -⟩ := RgAt.cells hSw; go_simp; try with_reducible rfl) ?_
      (try simp only [Act.put, List.setIfInBounds_toArray, List.set_cons_zero, List.set_cons_succ])
      refine anyH_take (i := 57) (some 6) (v := _) rfl rfl (by kernel_rfl) (by kernel_rfl) (by kernel_rfl) (fun _ _ _ h => h) (by rfl) (HX30.out.all) (by intro w hSw; obtain ⟨q0, q1, -, -⟩ := RgAt.cells hSw; go_simp; try with_reducible rfl) ?_
      (try simp only [Act.put, List.setIfInBounds_toArray, List.set_cons_zero, List.set_cons_succ])
      refine wpAnyH_done (by kernel_rfl) ?_ _
      go_wp2_with fail
      go_ret
      exact ⟨rfl, HU30.out⟩
    · have te : (pe == 0) = false := by simpa using hpe0
      have te2 : ¬ pe = 0 := hpe0
      go_wp2
      go_ret
      exact ⟨rfl, HU5.out⟩
end Go.Proofs.Ytmpphidiofhnlaa
