/- JournalKeeps, walked. (py/jo-keeps.py writes it.) -/
import Derived.Test.YtngeilhdambgfaaDoorJoJoin
import Derived.Test.YtngeilhdambgfaaDoorJoWipe
import Derived.Test.YtngeilhdambgfaaDoorOpenActs
namespace Go.Proofs.YtngeilhdambgfaaDoor
open Go.RowKit

theorem RowsC.grown {B : Nat} {w w5 w6 : World} {v v' : Value} {us us' : List Value} {R R' : List (List Nat)} (h : RowsC B w v us R) (hr : RowsC B w v' us' R') (ha : ∀ k, v'.ownBlock = some k → v.ownBlock ≠ some k) (h5 : Below w.heap.size w w5) (hg : w5.grownBy w6 v'.ownBlock) : RowsC B w6 v us R :=
  ⟨(h.on h5).rows.only (Only.grown hg) (fun k hk e => ha k e hk) (fun i u bs k hu hb hk hne e => by have h1 := h.far i u bs k hu hb hk hne; have h2 := (hr.rows.lt e).1; omega), h.far⟩
theorem apart_append {B : Nat} {w w5 : World} {v v' v'' : Value} {us : List Value} {R : List (List Nat)} (h : RowsC B w v us R) (ha : ∀ k, v'.ownBlock = some k → v.ownBlock ≠ some k) (h5 : Below w.heap.size w w5) (hat : v''.ownBlock = v'.ownBlock ∨ v''.ownBlock = some w5.heap.size) : ∀ k, v''.ownBlock = some k → v.ownBlock ≠ some k := fun k hk e => by
  rcases hat with h1 | h1
  · exact ha k (h1 ▸ hk) e
  · rw [h1] at hk
    cases hk
    have h2 : w5.heap.size < w.heap.size := (h.rows.lt e).2
    have := h5.size
    omega
theorem box_kept {B V : Nat} {w W1 w4 : World} {J P : Nat} {z : Bool} {t frm n c : Nat} {R : List (List Nat)} {d : Dev} {T : TypeId} {l : List Value} (hs : Sess B w J P z t frm n R c d) (hb : Below w.heap.size w W1) (hV : w.heap.size ≤ V) (hA : Arr W1 V T l) (hk : JKept J P W1 w4) : Arr w4 V T l :=
  hA.only hk.only (fun hh => hh.elim (fun e => by have := hs.jlt; omega) (fun hh => by have := hs.dev.lt (dblk_on hs.dev hb hh); omega))
theorem box_grown10 {B V : Nat} {w w4 w5 w6 : World} {v : Value} {us : List Value} {R : List (List Nat)} {T : TypeId} {l : List Value} (hr : RowsC B w v us R) (hV : w.heap.size ≤ V) (hA : Arr w4 V T l) (h5 : Below w4.heap.size w4 w5) (hg : w5.grownBy w6 v.ownBlock) : Arr w6 V T l :=
  (hA.only (only_beyond (S := fun _ => False) h5) (fun e => e)).only (Only.grown hg) (fun e => by have := (hr.rows.lt e).2; omega)
theorem own_fits10 {B : Nat} {w : World} {a : Option Addr} {m c : Nat} {us : List Value} {R : List (List Nat)} (h : RowsC B w (.slice a m c) us R) (hm : m = R.length) : m ≤ c := by
  rcases h.rows.row.2 with ⟨hv, h0⟩ | ⟨g, cap, cur, hv, _, _, hc, _⟩
  · have := h.rows.len; omega
  · cases hv; omega
theorem wpList_dst {P : Program} {ops : Array Oper} {rest : List Oper} {o : Oper} {a : Act} {w : World} {Q : Exit → Act → World → Prop} (d : Option Tmp) (_hd : o.dst = d) (h : wpList P ops Q (o :: rest) a w) : wpList P ops Q (o :: rest) a w := h
theorem rows_self {w : World} {a : Option Addr} {m c : Nat} {D : List (List Nat)} (h : RowsAt w (.slice a m c) D) : RowsAt w (.slice a m m) D := by
  obtain ⟨a', c', he, hr⟩ := h
  injection he with e1 e2 e3
  subst e1
  exact ⟨a, m, by rw [e2], hr⟩
/-- the acts so far -/
structure KeepsI (B P : Nat) (w : World) (t J : Nat) (vd vb : Value) (usd usb : List Value) (D Bh : List (List Nat)) (ad : Option Addr) (cd : Nat) (d : Dev) : Prop where
  hvd : vd = .slice ad D.length cd
  nd : D = [] → ad = none
  nb : Bh = [] → vb = .slice none 0 0
  done : RowsC B w vd usd D
  behind : RowsC B w vb usb Bh
  apart : ∀ k, vb.ownBlock = some k → vd.ownBlock ≠ some k
  sess : Sess B w J P true t 5 50 (D ++ Bh) D.length d
theorem KeepsI.start {B P : Nat} {w : World} {t J : Nat} {d : Dev} (h : Sess B w J P true t 5 50 [] 0 d) : KeepsI B P w t J (.slice none 0 0) (.slice none 0 0) [] [] [] [] none 0 d :=
  ⟨rfl, fun _ => rfl, fun _ => rfl, RowsC.nil B w, RowsC.nil B w, fun k h => (by cases h), h⟩
theorem KeepsI.on {B P : Nat} {w w' : World} {t J : Nat} {vd vb : Value} {usd usb : List Value} {D Bh : List (List Nat)} {ad : Option Addr} {cd : Nat} {d : Dev} (h : KeepsI B P w t J vd vb usd usb D Bh ad cd d) (hb : Below w.heap.size w w') : KeepsI B P w' t J vd vb usd usb D Bh ad cd d :=
  ⟨h.hvd, h.nd, h.nb, h.done.on hb, h.behind.on hb, h.apart, h.sess.on hb⟩
/-- the device behind a crash, wiped -/
def wipedD (d : Dev) (keep : Nat) (torn bytes : Int) : Dev := (((d.crash keep torn bytes).up).writes 5 (List.replicate 50 [])).flush
theorem crash_len (d : Dev) (keep : Nat) (torn bytes : Int) : ((d.crash keep torn bytes).up).lies.length = d.lies.length := crashed_length _ _ _ _ _
theorem wiped_keepN {d : Dev} {t frm n : Nat} (ht : t ≠ 0 ∧ t < 4294967296) (hup : d.down = false) (ha : d.after = 0) (hw : d.waits = []) (hr : frm + n ≤ d.lies.length) : JKeep true t frm n [] 0 ((d.writes frm (List.replicate n [])).flush) := by
  have e : ((d.writes frm (List.replicate n [])).flush).lies.length = d.lies.length := by
    show (Dev.told _).length = _
    rw [Dev.told_length]; rfl
  exact JKeep.zero ht hup ha (by rw [e]; exact hr) rfl (fun i y hi hy => wiped_lies hr i y hi hy hw)
theorem wiped_keep {d : Dev} {keep t : Nat} {torn bytes : Int} (ht : t ≠ 0 ∧ t < 4294967296) (hr : 5 + 50 ≤ d.lies.length) : JKeep true t 5 50 [] 0 (wipedD d keep torn bytes) := by
  unfold wipedD
  exact wiped_keepN ht rfl rfl rfl (by rw [crash_len]; exact hr)
theorem wiped_small {d : Dev} (h : SmallD d) (keep : Nat) (torn bytes : Int) : SmallD (wipedD d keep torn bytes) := (((h.crash keep torn bytes).up).writes (SmallL.nils 50) 5).flush
theorem sess_anew {w1 w2 : World} {B J P t frm n : Nat} {d : Dev} (hd : DevAt w1 B P d) (hB : B ≤ w1.heap.size) (hj : JAt w2 J P frm n t 0) (hJ : J = w1.heap.size) (hb : Below w1.heap.size w1 w2) (hk : JKeep true t frm n [] 0 d) (hs : SmallD d) : Sess B w2 J P true t frm n [] 0 d :=
  ⟨hd.beyond hb, hj, hk, hs, fun hh => by have := hd.lt (dblk_on hd hb hh); omega, by omega⟩

set_option maxRecDepth 1000000 in
set_option maxHeartbeats 32000000 in
theorem journalKeeps_walk {w : World} {v0 : Value} {L : List ActL} (hv0 : ActsAt w v0 L) (hin : ∀ x ∈ L, x.In) (_hm0 : L.length ≤ maxLen) (hl : StepsLaid w) :
    Calls Tryd.prog 3 #[v0] w fun e w' => e = .returned (.bool true) ∧ Below w.heap.size w w' := by
  obtain ⟨a0, c0, rfl, hr0⟩ := hv0
  obtain ⟨la, hla⟩ : ∃ n, n = L.length := ⟨_, rfl⟩
  have HLV : Hid (∀ w1, Below w.heap.size w w1 → Calls Tryd.prog 7 #[] w1 fun e w' => e = .returned (.bool true) ∧ Below w1.heap.size w1 w') := Lib.hid (fun w1 h => lives10_any w1 (hl.below h))
  have HBw0 : Hid (Below w.heap.size w w) := Lib.hid (Below.refl _ _)
  have HL := Lib.hid hl
  have HR0 := Lib.hid hr0
  have HLA := Lib.hid hla
  have HIN := Lib.hid hin
  rw [← hla]
  clear hl hr0 hla hin
  go_enter Tryd.func3, Tryd.ntmps3
  by_cases h40 : la ≤ 40
  · have t1 : decide ((40 : Int) < (la : Int)) = false := by simp; omega
    go_wp2_with (first | (go_at_call 7; refine (HLV.out _ HBw0.out).mono ?_; rintro e w1 ⟨rfl, hb1⟩; have HB1 := Lib.hid hb1; clear hb1; dsimp only) | (go_at_call 8; refine (new_ok (n := 60) (by omega) (by omega) w1).mono ?_; rintro e w2 ⟨P, rfl, hd2, hb2⟩; have HD2 := Lib.hid hd2; have HB2 := Lib.hid hb2; clear hd2 hb2; dsimp only))
    have hw1 := HB1.out.size
    have hgB : 0 < w1.heap.size := Nat.lt_of_lt_of_le HL.out.lt hw1
    go_wp2_with (go_at_call 9; refine (jonew_ok (frm := 5) (n := 50) (t := 1) HD2.out (by omega) (by simp [Dev.fresh]) (by omega)).mono ?_; rintro e w3 ⟨J, rfl, hj3, hJ, hb3⟩; have HS3 := Lib.hid (sess_start HD2.out HB2.out.size hj3 hJ hb3 (by omega) (by omega)); have HB3 : Hid (Below w1.heap.size w1 w3) := Lib.hid (HB2.out.trans (hb3.mono HB2.out.size)); clear hj3 hJ hb3; dsimp only)
    obtain ⟨B, hB⟩ : ∃ B, B = w1.heap.size := ⟨_, rfl⟩
    rw [← hB] at HS3 HB3 hgB
    have hwB : w.heap.size ≤ B := by rw [hB]; exact hw1
    have HBw : Hid (∀ w', Below B w1 w' → Below w.heap.size w w' ∧ B ≤ w'.heap.size) := Lib.hid (fun w' h => ⟨HB1.out.trans (h.mono hwB), by rw [hB]; exact h.size⟩)
    obtain ⟨i0, hi1, hi2, hi3, hi4⟩ := info_parts infoR
    have HIR := Lib.hid (And.intro hi1 (And.intro hi2 (And.intro hi3 hi4)))
    clear hB hi1 hi2 hi3 hi4 hw1 HB2 HD2
    go_loopw [5, 6, 8, 9, 10, 46] (fun tv jv vd vb u x wr => ∃ (i t J : Nat) (usd usb : List Value) (D Bh : List (List Nat)) (ad : Option Addr) (cd : Nat) (d : Dev), i ≤ la ∧ x = .int .i64 (i : Int) ∧ tv = .int .u32 (t : Int) ∧ t ≤ i + 1 ∧ jv = .pointer (some ⟨J, 0, none⟩) ∧ u = .int .i64 (usedJ (D ++ Bh) : Int) ∧ D.length + Bh.length ≤ i ∧ KeepsI B P wr t J vd vb usd usb D Bh ad cd d ∧ Below B w1 wr) (fun _ _ _ _ _ x _ => la - (intOf x).toNat)
    case atStart => exact ⟨0, 1, J, [], [], [], [], none, 0, Dev.fresh 60, Nat.zero_le _, rfl, rfl, by omega, rfl, rfl, Nat.le_refl _, KeepsI.start HS3.out, HB3.out⟩
    case round =>
      clear HS3 HB3
      obtain ⟨i, t, J, usd, usb, D, Bh, ad, cd, d, hi, rfl, rfl, hti, rfl, rfl, hdb, hk, hb⟩ := hrel
      have hvd := hk.hvd
      have HK := Lib.hid hk
      have HB := Lib.hid hb
      obtain ⟨m, hm⟩ : ∃ m, m = D.length := ⟨_, rfl⟩
      obtain ⟨nb, hnb⟩ : ∃ m, m = Bh.length := ⟨_, rfl⟩
      obtain ⟨ud, hud⟩ : ∃ u, u = usedJ (D ++ Bh) := ⟨_, rfl⟩
      have hu50 : ud ≤ 50 := by rw [hud]; exact hk.sess.jk.fit
      rw [← hm] at hvd
      subst hvd
      have hmc : m ≤ cd := own_fits10 hk.done hm
      have had : (if D = [] then none else ad) = ad := by
        by_cases h : D = []
        · rw [if_pos h, hk.nd h]
        · rw [if_neg h]
      have HAD := Lib.hid had
      rw [← hud]
      have HM : Hid (m = D.length ∧ nb = Bh.length ∧ ud = usedJ (D ++ Bh)) := Lib.hid ⟨hm, hnb, hud⟩
      have hmn : m + nb ≤ i := by rw [hm, hnb]; exact hdb
      have hBr := (HBw.out wr HB.out).2
      have htt : t ≠ 0 ∧ t < 4294967296 := hk.sess.jk.turn
      have HTT := Lib.hid htt
      clear hk hb hm hnb hud hdb had htt
      by_cases hlt : i < la
      · obtain ⟨x, hx⟩ : ∃ x, L[i]? = some x := ⟨_, List.getElem?_eq_getElem (by rw [← HLA.out]; exact hlt)⟩
        obtain ⟨b, off, rfl, hacts⟩ := HR0.out (fun e => by rw [e] at hx; simp at hx)
        have hxin := HIN.out x (List.mem_of_getElem? hx)
        obtain ⟨u, y0, y1, y2, y3, y4, hli⟩ := (hacts i x hx).keep (HBw.out wr HB.out).1
        obtain ⟨_, _, _, _, _, _, hli0⟩ := hacts i x hx
        obtain ⟨kind, bs, keep, torn, bytes⟩ := x
        have hfar : ∀ k, u.ownBlock = some k → bs ≠ [] → k < B := by
          obtain ⟨u', _, z1, _, _, _, hz⟩ := hacts i _ hx
          have e1 : wr.cell? ⟨b, off + i * 5 + 1, none⟩ = some u' := ((HBw.out wr HB.out).1.cell (p := ⟨b, off + i * 5 + 1, none⟩) (cell_lt z1)).trans z1
          rw [y1] at e1
          cases e1
          exact lies_far hz hwB
        obtain ⟨hk1, hk2, hkeep, hsm⟩ := hxin
        simp only at y0 y1 y2 y3 y4 hli hk1 hk2 hkeep hsm
        obtain ⟨au, cu, rfl⟩ := lies_len hli
        obtain ⟨l, hl⟩ : ∃ l, l = bs.length := ⟨_, rfl⟩
        rw [← hl] at y1
        have HLI : Hid (Lies wr (.slice au l cu) bs) := Lib.hid (by rw [hl]; exact hli)
        have HFAR : Hid (∀ k, (Value.slice au l cu).ownBlock = some k → bs ≠ [] → k < B) := Lib.hid (by rw [hl]; exact hfar)
        have HSM := Lib.hid hsm
        have HLL := Lib.hid hl
        have HKP := Lib.hid hkeep
        clear hx hacts hli hli0 hfar hsm hl hkeep
        by_cases h200 : l ≤ 200
        · have t2 : decide ((200 : Int) < (l : Int)) = false := by simp; omega
          obtain ⟨pc, hpc⟩ : ∃ p, p = pieces l := ⟨_, rfl⟩
          have hp5 : pc ≤ 5 := by rw [hpc]; exact pieces_small h200
          have HCO : Hid (∀ w', Calls Tryd.prog 10 #[.int .i64 (l : Int)] w' fun e w'' => e = .returned (.int .i64 (pc : Int)) ∧ w'' = w') := Lib.hid (fun w' => by rw [hpc]; exact lcost10_any w' (by omega))
          have HPC : Hid (pc = pieces bs.length) := Lib.hid (by rw [hpc, HLL.out])
          obtain ⟨uq, huq⟩ : ∃ q, q = ud + pc := ⟨_, rfl⟩
          have e3 : IntKind.i64.wrap ((ud : Int) + (pc : Int)) = (uq : Int) := by rw [IntKind.wrap_i64]; omega
          obtain ⟨W1, hW1⟩ : ∃ W, W = wr.alloc (.cells #[.int .i64 kind, .slice au l cu, .int .u64 (keep : Int), .int .i64 torn, .int .i64 bytes] 36) := ⟨_, rfl⟩
          obtain ⟨V, hV⟩ : ∃ V, V = wr.heap.size := ⟨_, rfl⟩
          have HW1 : Hid (Below wr.heap.size wr W1) := Lib.hid (by rw [hW1]; exact (Below.refl _ _).alloc (Nat.le_refl _) _)
          have HVV : Hid (wr.heap.size ≤ V ∧ Arr W1 V 36 [.int .i64 kind, .slice au l cu, .int .u64 (keep : Int), .int .i64 torn, .int .i64 bytes]) := Lib.hid ⟨by omega, by rw [hW1, hV]; exact arr_new wr _ _⟩
          have HB1' : Hid (Below B w1 W1) := Lib.hid (HB.out.trans (HW1.out.mono hBr))
          have hB1 := (HBw.out W1 HB1'.out).2
          have HK1 := Lib.hid (HK.out.on HW1.out)
          have HLI1 : Hid (Lies W1 (.slice au l cu) bs) := Lib.hid (lies_keep HLI.out HW1.out)
          obtain ⟨v0', v1', v2', v3', v4'⟩ : W1.cell? ⟨V, 0, none⟩ = some (.int .i64 kind) ∧ W1.cell? ⟨V, 1, none⟩ = some (.slice au l cu) ∧ W1.cell? ⟨V, 2, none⟩ = some (.int .u64 (keep : Int)) ∧ W1.cell? ⟨V, 3, none⟩ = some (.int .i64 torn) ∧ W1.cell? ⟨V, 4, none⟩ = some (.int .i64 bytes) := ⟨HVV.out.2.cell rfl, HVV.out.2.cell rfl, HVV.out.2.cell rfl, HVV.out.2.cell rfl, HVV.out.2.cell rfl⟩
          have HUD := Lib.hid huq
          clear hpc huq
          by_cases hkk : 0 ≤ kind ∧ kind ≤ 3
          · obtain ⟨hka, hkb⟩ := hkk
            have tk1 : decide (0 ≤ kind) = true := by simpa using hka
            have tk2 : decide (kind ≤ 3) = true := by simpa using hkb
            by_cases hfit : uq ≤ 50
            · have t3 : decide ((50 : Int) < (uq : Int)) = false := by simp; omega
              have hfit2 : usedJ (D ++ Bh) + pieces bs.length ≤ 50 := by rw [← HM.out.2.2, ← HPC.out, ← HUD.out]; exact hfit
              obtain ⟨sq, hsq⟩ : ∃ q, q = 50 - uq := ⟨_, rfl⟩
              obtain ⟨rq, hrq⟩ : ∃ q, q = 47 * (50 - uq) := ⟨_, rfl⟩
              have e5 : IntKind.i64.wrap ((50 : Int) - (uq : Int)) = (sq : Int) := by rw [IntKind.wrap_i64]; omega
              have e6 : IntKind.i64.wrap ((47 : Int) * (sq : Int)) = (rq : Int) := by rw [IntKind.wrap_i64]; omega
              have HUQ : Hid (uq = usedJ ((D ++ Bh) ++ [bs]) ∧ rq = 47 * (50 - uq) ∧ uq ≤ 50) := Lib.hid ⟨by rw [usedJ_append, usedJ_one, ← HM.out.2.2, ← HPC.out]; exact HUD.out, hrq, hfit⟩
              have HASK : Hid (∀ w' c d', Sess B w' J P true t 5 50 ((D ++ Bh) ++ [bs]) c d' → (Calls Tryd.prog 14 #[.pointer (some ⟨J, 0, none⟩)] w' fun e w'' => e = .returned (.int .i64 (uq : Int)) ∧ w'' = w') ∧ (Calls Tryd.prog 13 #[.pointer (some ⟨J, 0, none⟩)] w' fun e w'' => e = .returned (.int .u32 (t : Int)) ∧ w'' = w') ∧ (Calls Tryd.prog 15 #[.pointer (some ⟨J, 0, none⟩)] w' fun e w'' => e = .returned (.int .i64 (rq : Int)) ∧ Below w'.heap.size w' w'')) := Lib.hid (fun w' c d' h => by
                have hj := h.jo
                rw [← HUQ.out.1] at hj
                exact ⟨jonext_any hj, joturn_any hj, by rw [HUQ.out.2.1]; exact joroom_any hj HUQ.out.2.2 (by omega)⟩)
              have hst : StepsLaid W1 := HL.out.below (HBw.out W1 HB1'.out).1
              have HC := Lib.hid (sess_commit HK1.out.sess hB1 hgB hst HLI1.out HSM.out hfit2)
              have HWR := Lib.hid (sess_write HK1.out.sess hB1 hgB hst HLI1.out HSM.out hfit2)
              clear hst hfit2 hsq hrq
              by_cases hc1 : kind ≤ 1
              · have tk3 : decide (kind ≤ 1) = true := by simpa using hc1
                clear hka hkb hc1
                go_wp2_with fail
                rw [← hW1, ← hV]
                clear hW1 hV
                repeat (first | (go_at_call 10; with_reducible refine (HCO.out _).mono ?_; rintro e w' ⟨rfl, hw⟩; replace hw := hw.symm; subst hw; dsimp only) | (go_at_call 11; with_reducible refine (HC.out).mono ?_; rintro e w4 ⟨rfl, ⟨d4, hs4⟩, hk4⟩; have HS4 := Lib.hid hs4; have HB4 : Hid (Below B w1 w4) := Lib.hid (HB1'.out.trans (HK1.out.sess.below hB1 hk4)); have HVD4 := Lib.hid (HK1.out.done.sess HK1.out.sess hk4); have HVB4 := Lib.hid (HK1.out.behind.sess HK1.out.sess hk4); have HBX4 := Lib.hid (box_kept HK.out.sess HW1.out HVV.out.1 HVV.out.2 hk4); have x0 : w4.cell? ⟨V, 0, none⟩ = some (.int .i64 kind) := HBX4.out.cell rfl; have x1 : w4.cell? ⟨V, 1, none⟩ = some (.slice au l cu) := HBX4.out.cell rfl; have HL4 : Hid (Lies w4 (.slice au l cu) bs) := Lib.hid (HLI1.out.only2 (hk4.only) (fun k hk hne hh => by have h1 := HFAR.out k hk hne; rcases hh with e | hh; have := HK1.out.sess.jb; omega; have := HK1.out.sess.dev.low hh; omega)); have HRB4 : Hid (w4.ownsRow B 33 1 u9 nb usb) := Lib.hid (by have h := HVB4.out.rows.row; rwa [HVB4.out.rows.len, ← HM.out.2.1] at h); have HZ4 : Hid (B ≤ w4.heap.size) := Lib.hid (HBw.out w4 HB4.out).2; obtain ⟨_, HTU, _⟩ := HASK.out _ _ _ hs4; have HTU := Lib.hid HTU; clear hs4 hk4; dsimp only) | (go_at_call 13; with_reducible refine (HTU.out).mono ?_; rintro e w' ⟨rfl, hw⟩; replace hw := hw.symm; subst hw; dsimp only) | ((with_reducible refine wpList_dst (some 110) rfl ?_); refine wpList_runs_want (some 110) rfl rfl (run_headR _ (.tmp 105) (.tmp 107) (.tmp 109) rfl ad m cd m rfl rfl rfl hmc) ?_) | ((with_reducible refine wpList_dst (some 112) rfl ?_); refine wpList_runs_want (some 112) rfl rfl (run_appendR (.tmp 110) (.tmp 111) 32 rfl rfl rfl HJ8.out) ?_) | (at_builtin; refine wpList_append_own_at _ rfl (.tmp 97) (.tmp 100) 32 rfl B 33 i0 _ 1 24 Tryd.underlying32 HIR.out.1 HIR.out.2.1 HIR.out.2.2.1 HIR.out.2.2.2 rfl (by omega) _ nb usb rfl (row_only HRB4.out (Only.alloc (fun _ => False) _ _) (fun _ _ e => e)) ⟨w4.heap.size, 0, none⟩ 1 1 [.slice au l cu] rfl rfl (cell_one_new _ _ _) (by simp [Value.oneCell']) (by unfold maxLen; omega) (by omega) (by rw [World.size_alloc]; exact Nat.le_succ_of_le HZ4.out) ?_; intro v' w7 hown' hgrow _ hat; obtain ⟨g', cap', rfl⟩ := ownsRow_succ hown'; have ha := (Below.refl w4.heap.size w4).alloc (Nat.le_refl _) (.cells #[.slice au l cu] 33); have HVB7 := Lib.hid (HVB4.out.append (by rw [HVB4.out.rows.len, ← HM.out.2.1]) ha (lies_keep HL4.out ha) HFAR.out hgrow hown' hat); have HVD7 := Lib.hid (HVD4.out.grown HVB4.out HK.out.apart ha hgrow); have HS7 := Lib.hid (HS4.out.grown HVB4.out ha hgrow); have HAP7 := Lib.hid (apart_append HVD4.out HK.out.apart ha hat); have hbx7 := box_grown10 HK.out.behind HVV.out.1 HBX4.out ha hgrow; have x0' : w7.cell? ⟨V, 0, none⟩ = some (.int .i64 kind) := hbx7.cell rfl; have HB7 : Hid (Below B w1 w7) := Lib.hid ((HB4.out.alloc HZ4.out (.cells #[.slice au l cu] 33)).grown hgrow (by rw [World.size_alloc]; exact Nat.le_succ_of_le HZ4.out) (fun k hk => (HVB4.out.rows.lt hk).1)); clear hown' hgrow hat ha hbx7; obtain ⟨g8, c8, w8, hj8, hr8, hb8⟩ := done_join HVD7.out HVB7.out (HBw.out w7 HB7.out).2 HM.out.1 (by simp) (by rw [List.length_append, List.length_singleton, ← HM.out.1, ← HM.out.2.1]; omega) 32; rw [HAD.out, List.length_append, List.length_singleton, ← HM.out.2.1] at hj8; rw [List.length_append, List.length_singleton, ← HM.out.2.1] at hr8; have HJ8 := Lib.hid hj8; have HR8 := Lib.hid hr8; have HS8 := Lib.hid (HS7.out.on hb8); have HB8 : Hid (Below B w1 w8) := Lib.hid (HB7.out.trans (hb8.mono (HBw.out w7 HB7.out).2)); obtain ⟨HNX, _, HRM⟩ := HASK.out _ _ _ HS8.out; have HNX := Lib.hid HNX; have HRM := Lib.hid HRM; clear hj8 hr8 hb8) | (go_at_call 14; with_reducible refine (HNX.out).mono ?_; rintro e w' ⟨rfl, hw⟩; replace hw := hw.symm; subst hw; dsimp only) | (go_at_call 15; with_reducible refine (HRM.out).mono ?_; rintro e w9 ⟨rfl, hb9⟩; have HB9 := Lib.hid hb9; clear hb9; dsimp only) | go_values | go_skip | go_guarded | go_step)
                go_roundw
                case rel => exact ⟨i + 1, t, J, usd ++ (usb ++ [.slice au l cu]), [], D ++ (Bh ++ [bs]), [], some ⟨g8, 0, none⟩, c8, d4, by omega, by simp, rfl, by omega, rfl, by rw [List.append_nil, ← List.append_assoc, ← HUQ.out.1], by rw [List.length_append, List.length_append, List.length_singleton, List.length_nil, ← HM.out.1, ← HM.out.2.1]; omega, ⟨by rw [List.length_append, List.length_append, List.length_singleton, ← HM.out.1, ← HM.out.2.1], fun e => by simp at e, fun _ => rfl, HR8.out.on HB9.out, RowsC.nil B w9, fun k h => (by cases h), by rw [List.append_nil, ← List.append_assoc]; have h := HS8.out.on HB9.out; rwa [List.length_append, ← List.length_append, ← List.length_singleton (a := bs), ← List.length_append] at h⟩, HB8.out.trans (HB9.out.mono (HBw.out w8 HB8.out).2)⟩
                case measure => simp [intOf]; omega
              · have tk3 : decide (kind ≤ 1) = false := by simpa using hc1
                clear hka hkb hc1
                go_wp2_with fail
                rw [← hW1, ← hV]
                clear hW1 hV
                repeat (first | (go_at_call 10; with_reducible refine (HCO.out _).mono ?_; rintro e w' ⟨rfl, hw⟩; replace hw := hw.symm; subst hw; dsimp only) | (go_at_call 12; with_reducible refine (HWR.out).mono ?_; rintro e w4 ⟨rfl, ⟨d4, hs4⟩, hk4⟩; have HS4 := Lib.hid hs4; have HB4 : Hid (Below B w1 w4) := Lib.hid (HB1'.out.trans (HK1.out.sess.below hB1 hk4)); have HVD4 := Lib.hid (HK1.out.done.sess HK1.out.sess hk4); have HVB4 := Lib.hid (HK1.out.behind.sess HK1.out.sess hk4); have HBX4 := Lib.hid (box_kept HK.out.sess HW1.out HVV.out.1 HVV.out.2 hk4); have x0 : w4.cell? ⟨V, 0, none⟩ = some (.int .i64 kind) := HBX4.out.cell rfl; have x1 : w4.cell? ⟨V, 1, none⟩ = some (.slice au l cu) := HBX4.out.cell rfl; have HL4 : Hid (Lies w4 (.slice au l cu) bs) := Lib.hid (HLI1.out.only2 (hk4.only) (fun k hk hne hh => by have h1 := HFAR.out k hk hne; rcases hh with e | hh; have := HK1.out.sess.jb; omega; have := HK1.out.sess.dev.low hh; omega)); have HRB4 : Hid (w4.ownsRow B 33 1 u9 nb usb) := Lib.hid (by have h := HVB4.out.rows.row; rwa [HVB4.out.rows.len, ← HM.out.2.1] at h); have HZ4 : Hid (B ≤ w4.heap.size) := Lib.hid (HBw.out w4 HB4.out).2; obtain ⟨_, HTU, _⟩ := HASK.out _ _ _ hs4; have HTU := Lib.hid HTU; clear hs4 hk4; dsimp only) | (go_at_call 13; with_reducible refine (HTU.out).mono ?_; rintro e w' ⟨rfl, hw⟩; replace hw := hw.symm; subst hw; dsimp only) | (at_builtin; refine wpList_append_own_at _ rfl (.tmp 97) (.tmp 100) 32 rfl B 33 i0 _ 1 24 Tryd.underlying32 HIR.out.1 HIR.out.2.1 HIR.out.2.2.1 HIR.out.2.2.2 rfl (by omega) _ nb usb rfl (row_only HRB4.out (Only.alloc (fun _ => False) _ _) (fun _ _ e => e)) ⟨w4.heap.size, 0, none⟩ 1 1 [.slice au l cu] rfl rfl (cell_one_new _ _ _) (by simp [Value.oneCell']) (by unfold maxLen; omega) (by omega) (by rw [World.size_alloc]; exact Nat.le_succ_of_le HZ4.out) ?_; intro v' w7 hown' hgrow _ hat; obtain ⟨g', cap', rfl⟩ := ownsRow_succ hown'; have ha := (Below.refl w4.heap.size w4).alloc (Nat.le_refl _) (.cells #[.slice au l cu] 33); have HVB7 := Lib.hid (HVB4.out.append (by rw [HVB4.out.rows.len, ← HM.out.2.1]) ha (lies_keep HL4.out ha) HFAR.out hgrow hown' hat); have HVD7 := Lib.hid (HVD4.out.grown HVB4.out HK.out.apart ha hgrow); have HS7 := Lib.hid (HS4.out.grown HVB4.out ha hgrow); have HAP7 := Lib.hid (apart_append HVD4.out HK.out.apart ha hat); have hbx7 := box_grown10 HK.out.behind HVV.out.1 HBX4.out ha hgrow; have x0' : w7.cell? ⟨V, 0, none⟩ = some (.int .i64 kind) := hbx7.cell rfl; have HB7 : Hid (Below B w1 w7) := Lib.hid ((HB4.out.alloc HZ4.out (.cells #[.slice au l cu] 33)).grown hgrow (by rw [World.size_alloc]; exact Nat.le_succ_of_le HZ4.out) (fun k hk => (HVB4.out.rows.lt hk).1)); clear hown' hgrow hat ha hbx7; obtain ⟨HNX, _, HRM⟩ := HASK.out _ _ _ HS7.out; have HNX := Lib.hid HNX; have HRM := Lib.hid HRM) | (go_at_call 14; with_reducible refine (HNX.out).mono ?_; rintro e w' ⟨rfl, hw⟩; replace hw := hw.symm; subst hw; dsimp only) | (go_at_call 15; with_reducible refine (HRM.out).mono ?_; rintro e w9 ⟨rfl, hb9⟩; have HB9 := Lib.hid hb9; clear hb9; dsimp only) | go_values | go_skip | go_guarded | go_step)
                go_roundw
                case rel => exact ⟨i + 1, t, J, usd, usb ++ [.slice au l cu], D, Bh ++ [bs], ad, cd, d4, by omega, by simp, rfl, by omega, rfl, by rw [← List.append_assoc, ← HUQ.out.1], by rw [List.length_append, List.length_singleton, ← HM.out.1, ← HM.out.2.1]; omega, ⟨by rw [← HM.out.1], HK.out.nd, fun e => by simp at e, HVD7.out.on HB9.out, HVB7.out.on HB9.out, HAP7.out, by rw [← List.append_assoc]; exact HS7.out.on HB9.out⟩, HB7.out.trans (HB9.out.mono (HBw.out w7 HB7.out).2)⟩
                case measure => simp [intOf]; omega
            · have t3 : decide ((50 : Int) < (uq : Int)) = true := by simp; omega
              obtain ⟨sq, hsq⟩ : ∃ q, q = 50 - ud := ⟨_, rfl⟩
              obtain ⟨rq, hrq⟩ : ∃ q, q = 47 * (50 - ud) := ⟨_, rfl⟩
              have e5 : IntKind.i64.wrap ((50 : Int) - (ud : Int)) = (sq : Int) := by rw [IntKind.wrap_i64]; omega
              have e6 : IntKind.i64.wrap ((47 : Int) * (sq : Int)) = (rq : Int) := by rw [IntKind.wrap_i64]; omega
              have HRQ : Hid (rq = 47 * (50 - ud)) := Lib.hid hrq
              have HASK : Hid (∀ w', JAt w' J P 5 50 t ud → (Calls Tryd.prog 14 #[.pointer (some ⟨J, 0, none⟩)] w' fun e w'' => e = .returned (.int .i64 (ud : Int)) ∧ w'' = w') ∧ (Calls Tryd.prog 13 #[.pointer (some ⟨J, 0, none⟩)] w' fun e w'' => e = .returned (.int .u32 (t : Int)) ∧ w'' = w') ∧ (Calls Tryd.prog 15 #[.pointer (some ⟨J, 0, none⟩)] w' fun e w'' => e = .returned (.int .i64 (rq : Int)) ∧ Below w'.heap.size w' w'')) := Lib.hid (fun w' hj => ⟨jonext_any hj, joturn_any hj, by rw [HRQ.out]; exact joroom_any hj hu50 (by omega)⟩)
              have HJ1 : Hid (JAt W1 J P 5 50 t ud) := Lib.hid (by rw [HM.out.2.2]; exact HK1.out.sess.jo)
              have HC := Lib.hid (jocommit_full HJ1.out HLI1.out hu50 (by omega) (by rw [← HLL.out]; omega) (by rw [← HPC.out, ← HUD.out]; omega))
              have HWR := Lib.hid (jowrite_full HJ1.out HLI1.out hu50 (by omega) (by rw [← HLL.out]; omega) (by rw [← HPC.out, ← HUD.out]; omega))
              clear hsq hrq
              by_cases hc1 : kind ≤ 1
              · have tk3 : decide (kind ≤ 1) = true := by simpa using hc1
                clear hka hkb hc1
                go_wp2_with fail
                rw [← hW1, ← hV]
                clear hW1 hV
                go_wp2_with (first | (go_at_call 10; with_reducible refine (HCO.out _).mono ?_; rintro e w' ⟨rfl, hw⟩; replace hw := hw.symm; subst hw; dsimp only) | (go_at_call 11; with_reducible refine (HC.out).mono ?_; rintro e w4 ⟨rfl, hb4⟩; have HB4 := Lib.hid hb4; have HK4 := Lib.hid (HK1.out.on hb4); have HB4' : Hid (Below B w1 w4) := Lib.hid (HB1'.out.trans (hb4.mono hB1)); obtain ⟨HNX, HTU, HRM⟩ := HASK.out _ (HJ1.out.on hb4); have HNX := Lib.hid HNX; have HRM := Lib.hid HRM; have HTU := Lib.hid HTU; clear hb4; dsimp only) | (go_at_call 13; with_reducible refine (HTU.out).mono ?_; rintro e w' ⟨rfl, hw⟩; replace hw := hw.symm; subst hw; dsimp only) | (go_at_call 14; with_reducible refine (HNX.out).mono ?_; rintro e w' ⟨rfl, hw⟩; replace hw := hw.symm; subst hw; dsimp only) | (go_at_call 15; with_reducible refine (HRM.out).mono ?_; rintro e w9 ⟨rfl, hb9⟩; have HB9 := Lib.hid hb9; clear hb9; dsimp only))
                go_roundw
                case rel => exact ⟨i + 1, t, J, usd, usb, D, Bh, ad, cd, d, by omega, by simp, rfl, by omega, rfl, by rw [← HM.out.2.2], by rw [← HM.out.1, ← HM.out.2.1]; omega, by have h := HK4.out.on HB9.out; exact h, HB4'.out.trans (HB9.out.mono (HBw.out w4 HB4'.out).2)⟩
                case measure => simp [intOf]; omega
              · have tk3 : decide (kind ≤ 1) = false := by simpa using hc1
                clear hka hkb hc1
                go_wp2_with fail
                rw [← hW1, ← hV]
                clear hW1 hV
                go_wp2_with (first | (go_at_call 10; with_reducible refine (HCO.out _).mono ?_; rintro e w' ⟨rfl, hw⟩; replace hw := hw.symm; subst hw; dsimp only) | (go_at_call 12; with_reducible refine (HWR.out).mono ?_; rintro e w4 ⟨rfl, hb4⟩; have HB4 := Lib.hid hb4; have HK4 := Lib.hid (HK1.out.on hb4); have HB4' : Hid (Below B w1 w4) := Lib.hid (HB1'.out.trans (hb4.mono hB1)); obtain ⟨HNX, HTU, HRM⟩ := HASK.out _ (HJ1.out.on hb4); have HNX := Lib.hid HNX; have HRM := Lib.hid HRM; have HTU := Lib.hid HTU; clear hb4; dsimp only) | (go_at_call 13; with_reducible refine (HTU.out).mono ?_; rintro e w' ⟨rfl, hw⟩; replace hw := hw.symm; subst hw; dsimp only) | (go_at_call 14; with_reducible refine (HNX.out).mono ?_; rintro e w' ⟨rfl, hw⟩; replace hw := hw.symm; subst hw; dsimp only) | (go_at_call 15; with_reducible refine (HRM.out).mono ?_; rintro e w9 ⟨rfl, hb9⟩; have HB9 := Lib.hid hb9; clear hb9; dsimp only))
                go_roundw
                case rel => exact ⟨i + 1, t, J, usd, usb, D, Bh, ad, cd, d, by omega, by simp, rfl, by omega, rfl, by rw [← HM.out.2.2], by rw [← HM.out.1, ← HM.out.2.1]; omega, by have h := HK4.out.on HB9.out; exact h, HB4'.out.trans (HB9.out.mono (HBw.out w4 HB4'.out).2)⟩
                case measure => simp [intOf]; omega
          · clear e3 HCO HPC
            have hkr : kind < 0 ∨ 3 < kind := by omega
            have hok := HK1.out.sess.dev.ok
            obtain ⟨j, hj1, hj2, hrd, htn⟩ := HK1.out.sess.jk.crash hok keep torn bytes (by omega) (.inl rfl)
            obtain ⟨tg, htg⟩ : ∃ q, q = turn0 ((((d.crash keep torn bytes).up.told).drop 5).take 50) := ⟨_, rfl⟩
            rw [← htg] at htn
            have hlen := HK1.out.sess.jk.range
            have hcl := crash_len d keep torn bytes
            have hsmd := HK1.out.sess.sm
            have HCR := Lib.hid (crash_any (keep := keep) (torn := torn) (bytes := bytes) HK1.out.sess.dev HKP.out)
            have HRD : Hid (∀ w6, DevAt w6 B P (d.crash keep torn bytes).up → Calls Tryd.prog 18 #[.pointer (some ⟨P, 0, none⟩), .int .i64 5, .int .i64 50] w6 fun e w' => ∃ v us, e = .returned (.tuple #[v, .int .u32 (tg : Int), .int .i64 0]) ∧ RowsO w6.heap.size w' v us ((D ++ Bh).take j) ∧ Below w6.heap.size w6 w') := Lib.hid (fun w6 hd => by
              have h := joread_ok (frm := 5) (n := 50) hd (by omega) (by rw [hcl]; exact hlen) rfl ((hsmd.crash keep torn bytes).up)
              rw [hrd, ← htg] at h
              exact h)
            have HWI : Hid (∀ w7, B ≤ w7.heap.size → DevAt w7 B P (d.crash keep torn bytes).up → Calls Tryd.prog 20 #[.pointer (some ⟨P, 0, none⟩), .int .i64 5, .int .i64 50] w7 fun e w' => e = .returned (.int .i64 0) ∧ DevAt w' B P (wipedD d keep torn bytes) ∧ Kept P w7 w') := Lib.hid (fun w7 hB7 hd => jowipe_ok (frm := 5) (n := 50) hd hB7 (by omega) (by rw [hcl]; exact hlen) rfl rfl (by show 0 ≤ _; omega))
            obtain ⟨tq, htq⟩ : ∃ q, q = t + 1 := ⟨_, rfl⟩
            have et : IntKind.u32.wrap ((t : Int) + 1) = (tq : Int) := by rw [IntKind.wrap_u32]; omega
            have hjk := wiped_keep (keep := keep) (torn := torn) (bytes := bytes) (t := tq) (d := d) (by omega) hlen
            have HJK := Lib.hid hjk
            have HSW := Lib.hid (wiped_small hsmd keep torn bytes)
            have HRE : Hid (∀ w8, DevAt w8 B P (wipedD d keep torn bytes) → Calls Tryd.prog 18 #[.pointer (some ⟨P, 0, none⟩), .int .i64 5, .int .i64 50] w8 fun e w' => ∃ v us, e = .returned (.tuple #[v, .int .u32 0, .int .i64 0]) ∧ RowsO w8.heap.size w' v us [] ∧ Below w8.heap.size w8 w') := Lib.hid (fun w8 hd => by
              have h := joread_ok (frm := 5) (n := 50) hd (by omega) hjk.range rfl HSW.out
              rw [hjk.reads hd.ok rfl (by omega), hjk.first hd.ok rfl (by omega), if_pos rfl] at h
              exact h)
            have HNW : Hid (∀ w9, DevAt w9 B P (wipedD d keep torn bytes) → Calls Tryd.prog 9 #[.pointer (some ⟨P, 0, none⟩), .int .i64 5, .int .i64 50, .int .u32 (tq : Int)] w9 fun e w' => ∃ J, e = .returned (.tuple #[.pointer (some ⟨J, 0, none⟩), .int .i64 0]) ∧ JAt w' J P 5 50 tq 0 ∧ J = w9.heap.size ∧ Below w9.heap.size w9 w') := Lib.hid (fun w9 hd => jonew_ok (frm := 5) (n := 50) hd (by omega) hjk.range (by omega))
            have HBG : Hid (∀ w7 v us', RowsO B w7 v us' ((D ++ Bh).take j) → RowsC B w7 (.slice ad m cd) usd D → RowsC B w7 u9 usb Bh → Calls Tryd.prog 19 #[v, .slice ad m cd, u9] w7 fun e w'' => e = .returned (.bool true) ∧ w'' = w7) := Lib.hid (fun w7 v us' h1 h2 h3 => by
              have hs := HK1.out.sess.jk.small
              have h := begins_any h1.at h2.rows.at h3.rows.at (fun b hb => hs b (List.mem_of_mem_take hb)) (fun b hb => hs b (List.mem_append_left _ hb)) (fun b hb => hs b (List.mem_append_right _ hb)) (by rw [List.length_take, List.length_append, ← HM.out.1, ← HM.out.2.1]; omega) (by rw [← HM.out.1]; omega) (by rw [← HM.out.2.1]; omega)
              rwa [begins_take hj1 hj2] at h)
            have htn0 : m ≠ 0 → tg = t := fun h => htn (by rw [← HM.out.1]; omega)
            have HTQ := Lib.hid htq
            clear hok hj1 hj2 hrd htn hlen hcl hsmd hjk htg htq
            have hboth : (decide (0 ≤ kind) = false) ∨ (decide (0 ≤ kind) = true ∧ decide (kind ≤ 3) = false) := by
              rcases hkr with h | h
              · exact .inl (by simp; omega)
              · exact .inr ⟨by simp; omega, by simp; omega⟩
            clear hkr hkk hk1 hk2
            rcases hboth with tk1 | ⟨tk1, tk2⟩
            · by_cases hm0 : m = 0
              · subst hm0
                clear htn0
                go_wp2_with fail
                rw [← hW1, ← hV]
                clear hW1 hV
                go_wp2_with (first | (go_at_call 16; with_reducible refine (HCR.out).mono ?_; rintro e w5 ⟨rfl, hd5, hk5⟩; have HD5 := Lib.hid hd5; have HKA := Lib.hid hk5; have HB5 : Hid (Below B w1 w5) := Lib.hid (HB1'.out.trans (HK1.out.sess.dev.below hB1 hk5)); clear hd5 hk5; dsimp only) | (go_at_call 17; with_reducible refine (up_any HD5.out).mono ?_; rintro e w6 ⟨rfl, hd6, hk6⟩; have HD6 := Lib.hid hd6; have HKB := Lib.hid hk6; have HB6 : Hid (Below B w1 w6) := Lib.hid (HB5.out.trans (HD5.out.below (HBw.out _ HB5.out).2 hk6)); clear hd6 hk6; dsimp only) | (go_at_call 18; first | (with_reducible refine (HRD.out _ HD6.out).mono ?_; rintro e w7 ⟨v, us', rfl, hro7, hb7⟩; have HD7 := Lib.hid (HD6.out.beyond hb7); have HB7 : Hid (Below B w1 w7) := Lib.hid (HB6.out.trans (hb7.mono (HBw.out _ HB6.out).2)); have HRO7 : Hid (RowsO B w7 v us' ((D ++ Bh).take j)) := Lib.hid ⟨ownsRow_less hro7.row (HBw.out _ HB6.out).2, hro7.len, hro7.data⟩; have HVD7 := Lib.hid (((HK1.out.done.kept HK1.out.sess.dev HKA.out).kept HD5.out HKB.out).on hb7); have HVB7 := Lib.hid (((HK1.out.behind.kept HK1.out.sess.dev HKA.out).kept HD5.out HKB.out).on hb7); clear hro7 hb7; dsimp only) | (with_reducible refine (HRE.out _ HD8.out).mono ?_; rintro e w9 ⟨v9, us9, rfl, hro9, hb9⟩; have HD9 := Lib.hid (HD8.out.beyond hb9); have HB9 : Hid (Below B w1 w9) := Lib.hid (HB8.out.trans (hb9.mono (HBw.out _ HB8.out).2)); obtain ⟨a9, c9, rfl⟩ := hro9.slice; clear hro9 hb9; dsimp only)) | (go_at_call 19; with_reducible refine (HBG.out _ _ _ HRO7.out HVD7.out HVB7.out).mono ?_; rintro e w' ⟨rfl, hw⟩; replace hw := hw.symm; subst hw; dsimp only) | (go_at_call 20; with_reducible refine (HWI.out _ (HBw.out _ HB7.out).2 HD7.out).mono ?_; rintro e w8 ⟨rfl, hd8, hk8⟩; have HD8 := Lib.hid hd8; have HB8 : Hid (Below B w1 w8) := Lib.hid (HB7.out.trans (HD7.out.below (HBw.out _ HB7.out).2 hk8)); clear hd8 hk8; dsimp only) | (go_at_call 9; with_reducible refine (HNW.out _ HD9.out).mono ?_; rintro e w10 ⟨J', rfl, hj10, hJ10, hb10⟩; have HS10 := Lib.hid (sess_anew HD9.out (HBw.out _ HB9.out).2 hj10 hJ10 hb10 HJK.out HSW.out); have HB10 : Hid (Below B w1 w10) := Lib.hid (HB9.out.trans (hb10.mono (HBw.out _ HB9.out).2)); clear hj10 hJ10 hb10; dsimp only))
                go_roundw
                case rel => exact ⟨i + 1, tq, J', [], [], [], [], none, 0, wipedD d keep torn bytes, by omega, by simp, rfl, by have := HTQ.out; omega, rfl, rfl, by simp, KeepsI.start HS10.out, HB10.out⟩
                case measure => simp [intOf]; omega
              · have tm : decide ((0 : Int) < (m : Int)) = true := by simp; omega
                have tmn : 0 < m := by omega
                obtain rfl := htn0 hm0
                clear hm0
                go_wp2_with fail
                rw [← hW1, ← hV]
                clear hW1 hV
                go_wp2_with (first | (go_at_call 16; with_reducible refine (HCR.out).mono ?_; rintro e w5 ⟨rfl, hd5, hk5⟩; have HD5 := Lib.hid hd5; have HKA := Lib.hid hk5; have HB5 : Hid (Below B w1 w5) := Lib.hid (HB1'.out.trans (HK1.out.sess.dev.below hB1 hk5)); clear hd5 hk5; dsimp only) | (go_at_call 17; with_reducible refine (up_any HD5.out).mono ?_; rintro e w6 ⟨rfl, hd6, hk6⟩; have HD6 := Lib.hid hd6; have HKB := Lib.hid hk6; have HB6 : Hid (Below B w1 w6) := Lib.hid (HB5.out.trans (HD5.out.below (HBw.out _ HB5.out).2 hk6)); clear hd6 hk6; dsimp only) | (go_at_call 18; first | (with_reducible refine (HRD.out _ HD6.out).mono ?_; rintro e w7 ⟨v, us', rfl, hro7, hb7⟩; have HD7 := Lib.hid (HD6.out.beyond hb7); have HB7 : Hid (Below B w1 w7) := Lib.hid (HB6.out.trans (hb7.mono (HBw.out _ HB6.out).2)); have HRO7 : Hid (RowsO B w7 v us' ((D ++ Bh).take j)) := Lib.hid ⟨ownsRow_less hro7.row (HBw.out _ HB6.out).2, hro7.len, hro7.data⟩; have HVD7 := Lib.hid (((HK1.out.done.kept HK1.out.sess.dev HKA.out).kept HD5.out HKB.out).on hb7); have HVB7 := Lib.hid (((HK1.out.behind.kept HK1.out.sess.dev HKA.out).kept HD5.out HKB.out).on hb7); clear hro7 hb7; dsimp only) | (with_reducible refine (HRE.out _ HD8.out).mono ?_; rintro e w9 ⟨v9, us9, rfl, hro9, hb9⟩; have HD9 := Lib.hid (HD8.out.beyond hb9); have HB9 : Hid (Below B w1 w9) := Lib.hid (HB8.out.trans (hb9.mono (HBw.out _ HB8.out).2)); obtain ⟨a9, c9, rfl⟩ := hro9.slice; clear hro9 hb9; dsimp only)) | (go_at_call 19; with_reducible refine (HBG.out _ _ _ HRO7.out HVD7.out HVB7.out).mono ?_; rintro e w' ⟨rfl, hw⟩; replace hw := hw.symm; subst hw; dsimp only) | (go_at_call 20; with_reducible refine (HWI.out _ (HBw.out _ HB7.out).2 HD7.out).mono ?_; rintro e w8 ⟨rfl, hd8, hk8⟩; have HD8 := Lib.hid hd8; have HB8 : Hid (Below B w1 w8) := Lib.hid (HB7.out.trans (HD7.out.below (HBw.out _ HB7.out).2 hk8)); clear hd8 hk8; dsimp only) | (go_at_call 9; with_reducible refine (HNW.out _ HD9.out).mono ?_; rintro e w10 ⟨J', rfl, hj10, hJ10, hb10⟩; have HS10 := Lib.hid (sess_anew HD9.out (HBw.out _ HB9.out).2 hj10 hJ10 hb10 HJK.out HSW.out); have HB10 : Hid (Below B w1 w10) := Lib.hid (HB9.out.trans (hb10.mono (HBw.out _ HB9.out).2)); clear hj10 hJ10 hb10; dsimp only))
                go_roundw
                case rel => exact ⟨i + 1, tq, J', [], [], [], [], none, 0, wipedD d keep torn bytes, by omega, by simp, rfl, by have := HTQ.out; omega, rfl, rfl, by simp, KeepsI.start HS10.out, HB10.out⟩
                case measure => simp [intOf]; omega
            · by_cases hm0 : m = 0
              · subst hm0
                clear htn0
                go_wp2_with fail
                rw [← hW1, ← hV]
                clear hW1 hV
                go_wp2_with (first | (go_at_call 16; with_reducible refine (HCR.out).mono ?_; rintro e w5 ⟨rfl, hd5, hk5⟩; have HD5 := Lib.hid hd5; have HKA := Lib.hid hk5; have HB5 : Hid (Below B w1 w5) := Lib.hid (HB1'.out.trans (HK1.out.sess.dev.below hB1 hk5)); clear hd5 hk5; dsimp only) | (go_at_call 17; with_reducible refine (up_any HD5.out).mono ?_; rintro e w6 ⟨rfl, hd6, hk6⟩; have HD6 := Lib.hid hd6; have HKB := Lib.hid hk6; have HB6 : Hid (Below B w1 w6) := Lib.hid (HB5.out.trans (HD5.out.below (HBw.out _ HB5.out).2 hk6)); clear hd6 hk6; dsimp only) | (go_at_call 18; first | (with_reducible refine (HRD.out _ HD6.out).mono ?_; rintro e w7 ⟨v, us', rfl, hro7, hb7⟩; have HD7 := Lib.hid (HD6.out.beyond hb7); have HB7 : Hid (Below B w1 w7) := Lib.hid (HB6.out.trans (hb7.mono (HBw.out _ HB6.out).2)); have HRO7 : Hid (RowsO B w7 v us' ((D ++ Bh).take j)) := Lib.hid ⟨ownsRow_less hro7.row (HBw.out _ HB6.out).2, hro7.len, hro7.data⟩; have HVD7 := Lib.hid (((HK1.out.done.kept HK1.out.sess.dev HKA.out).kept HD5.out HKB.out).on hb7); have HVB7 := Lib.hid (((HK1.out.behind.kept HK1.out.sess.dev HKA.out).kept HD5.out HKB.out).on hb7); clear hro7 hb7; dsimp only) | (with_reducible refine (HRE.out _ HD8.out).mono ?_; rintro e w9 ⟨v9, us9, rfl, hro9, hb9⟩; have HD9 := Lib.hid (HD8.out.beyond hb9); have HB9 : Hid (Below B w1 w9) := Lib.hid (HB8.out.trans (hb9.mono (HBw.out _ HB8.out).2)); obtain ⟨a9, c9, rfl⟩ := hro9.slice; clear hro9 hb9; dsimp only)) | (go_at_call 19; with_reducible refine (HBG.out _ _ _ HRO7.out HVD7.out HVB7.out).mono ?_; rintro e w' ⟨rfl, hw⟩; replace hw := hw.symm; subst hw; dsimp only) | (go_at_call 20; with_reducible refine (HWI.out _ (HBw.out _ HB7.out).2 HD7.out).mono ?_; rintro e w8 ⟨rfl, hd8, hk8⟩; have HD8 := Lib.hid hd8; have HB8 : Hid (Below B w1 w8) := Lib.hid (HB7.out.trans (HD7.out.below (HBw.out _ HB7.out).2 hk8)); clear hd8 hk8; dsimp only) | (go_at_call 9; with_reducible refine (HNW.out _ HD9.out).mono ?_; rintro e w10 ⟨J', rfl, hj10, hJ10, hb10⟩; have HS10 := Lib.hid (sess_anew HD9.out (HBw.out _ HB9.out).2 hj10 hJ10 hb10 HJK.out HSW.out); have HB10 : Hid (Below B w1 w10) := Lib.hid (HB9.out.trans (hb10.mono (HBw.out _ HB9.out).2)); clear hj10 hJ10 hb10; dsimp only))
                go_roundw
                case rel => exact ⟨i + 1, tq, J', [], [], [], [], none, 0, wipedD d keep torn bytes, by omega, by simp, rfl, by have := HTQ.out; omega, rfl, rfl, by simp, KeepsI.start HS10.out, HB10.out⟩
                case measure => simp [intOf]; omega
              · have tm : decide ((0 : Int) < (m : Int)) = true := by simp; omega
                have tmn : 0 < m := by omega
                obtain rfl := htn0 hm0
                clear hm0
                go_wp2_with fail
                rw [← hW1, ← hV]
                clear hW1 hV
                go_wp2_with (first | (go_at_call 16; with_reducible refine (HCR.out).mono ?_; rintro e w5 ⟨rfl, hd5, hk5⟩; have HD5 := Lib.hid hd5; have HKA := Lib.hid hk5; have HB5 : Hid (Below B w1 w5) := Lib.hid (HB1'.out.trans (HK1.out.sess.dev.below hB1 hk5)); clear hd5 hk5; dsimp only) | (go_at_call 17; with_reducible refine (up_any HD5.out).mono ?_; rintro e w6 ⟨rfl, hd6, hk6⟩; have HD6 := Lib.hid hd6; have HKB := Lib.hid hk6; have HB6 : Hid (Below B w1 w6) := Lib.hid (HB5.out.trans (HD5.out.below (HBw.out _ HB5.out).2 hk6)); clear hd6 hk6; dsimp only) | (go_at_call 18; first | (with_reducible refine (HRD.out _ HD6.out).mono ?_; rintro e w7 ⟨v, us', rfl, hro7, hb7⟩; have HD7 := Lib.hid (HD6.out.beyond hb7); have HB7 : Hid (Below B w1 w7) := Lib.hid (HB6.out.trans (hb7.mono (HBw.out _ HB6.out).2)); have HRO7 : Hid (RowsO B w7 v us' ((D ++ Bh).take j)) := Lib.hid ⟨ownsRow_less hro7.row (HBw.out _ HB6.out).2, hro7.len, hro7.data⟩; have HVD7 := Lib.hid (((HK1.out.done.kept HK1.out.sess.dev HKA.out).kept HD5.out HKB.out).on hb7); have HVB7 := Lib.hid (((HK1.out.behind.kept HK1.out.sess.dev HKA.out).kept HD5.out HKB.out).on hb7); clear hro7 hb7; dsimp only) | (with_reducible refine (HRE.out _ HD8.out).mono ?_; rintro e w9 ⟨v9, us9, rfl, hro9, hb9⟩; have HD9 := Lib.hid (HD8.out.beyond hb9); have HB9 : Hid (Below B w1 w9) := Lib.hid (HB8.out.trans (hb9.mono (HBw.out _ HB8.out).2)); obtain ⟨a9, c9, rfl⟩ := hro9.slice; clear hro9 hb9; dsimp only)) | (go_at_call 19; with_reducible refine (HBG.out _ _ _ HRO7.out HVD7.out HVB7.out).mono ?_; rintro e w' ⟨rfl, hw⟩; replace hw := hw.symm; subst hw; dsimp only) | (go_at_call 20; with_reducible refine (HWI.out _ (HBw.out _ HB7.out).2 HD7.out).mono ?_; rintro e w8 ⟨rfl, hd8, hk8⟩; have HD8 := Lib.hid hd8; have HB8 : Hid (Below B w1 w8) := Lib.hid (HB7.out.trans (HD7.out.below (HBw.out _ HB7.out).2 hk8)); clear hd8 hk8; dsimp only) | (go_at_call 9; with_reducible refine (HNW.out _ HD9.out).mono ?_; rintro e w10 ⟨J', rfl, hj10, hJ10, hb10⟩; have HS10 := Lib.hid (sess_anew HD9.out (HBw.out _ HB9.out).2 hj10 hJ10 hb10 HJK.out HSW.out); have HB10 : Hid (Below B w1 w10) := Lib.hid (HB9.out.trans (hb10.mono (HBw.out _ HB9.out).2)); clear hj10 hJ10 hb10; dsimp only))
                go_roundw
                case rel => exact ⟨i + 1, tq, J', [], [], [], [], none, 0, wipedD d keep torn bytes, by omega, by simp, rfl, by have := HTQ.out; omega, rfl, rfl, by simp, KeepsI.start HS10.out, HB10.out⟩
                case measure => simp [intOf]; omega
        · have t2 : decide ((200 : Int) < (l : Int)) = true := by simp; omega
          go_wp2
          go_ret
          exact ⟨rfl, (HBw.out wr HB.out).1.trans (((Below.refl _ _).alloc (Nat.le_refl _) _).mono (HBw.out wr HB.out).1.size)⟩
      · obtain rfl : i = la := by omega
        have hok := HK.out.sess.dev.ok
        have HRD : Hid (Calls Tryd.prog 18 #[.pointer (some ⟨P, 0, none⟩), .int .i64 5, .int .i64 50] wr fun e w' => ∃ v us, e = .returned (.tuple #[v, .int .u32 ((if D ++ Bh = [] then 0 else t : Nat) : Int), .int .i64 0]) ∧ RowsO wr.heap.size w' v us (D ++ Bh) ∧ Below wr.heap.size wr w') := Lib.hid (by
          have h := joread_ok (frm := 5) (n := 50) HK.out.sess.dev (by omega) HK.out.sess.jk.range HK.out.sess.jk.up HK.out.sess.sm
          rw [HK.out.sess.jk.reads hok rfl (by omega), HK.out.sess.jk.first hok rfl (by omega)] at h
          exact h)
        obtain ⟨tg, htg⟩ : ∃ q : Nat, q = (if D ++ Bh = [] then 0 else t : Nat) := ⟨_, rfl⟩
        rw [← htg] at HRD
        have HSR := Lib.hid HK.out.sess.jk.small
        have HBG : Hid (∀ w' v us' vj, RowsO wr.heap.size w' v us' (D ++ Bh) → RowsAt w' vj (D ++ Bh) → Calls Tryd.prog 19 #[v, vj, .slice none 0 0] w' fun e w'' => e = .returned (.bool true) ∧ w'' = w') := Lib.hid (fun w' v us' vj h1 h2 => by
          have h := begins_any h1.at h2 (rowsAt_nil w') HSR.out HSR.out (fun b hb => by simp at hb) (by rw [List.length_append, ← HM.out.1, ← HM.out.2.1]; omega) (by rw [List.length_append, ← HM.out.1, ← HM.out.2.1]; omega) (by simp)
          rwa [begins_self] at h)
        clear hok htg
        by_cases hbn : Bh = []
        · have hvb := HK.out.nb hbn
          subst hvb
          have HBN := Lib.hid hbn
          clear hbn
          repeat (first | (go_at_call 18; with_reducible refine (HRD.out).mono ?_; rintro e w4 ⟨v, us', rfl, hro4, hb4⟩; have HRO4 := Lib.hid hro4; have HB4 := Lib.hid hb4; have hj := done_self (HK.out.done.on hb4) HM.out.1 32; rw [HAD.out] at hj; have HJ4 := Lib.hid hj; have HRA : Hid (RowsAt w4 (.slice ad m m) (D ++ Bh)) := Lib.hid (by rw [HBN.out, List.append_nil]; exact rows_self (HK.out.done.on hb4).rows.at); clear hro4 hb4 hj; dsimp only) | ((with_reducible refine wpList_dst (some 204) rfl ?_); refine wpList_runs_want (some 204) rfl rfl (run_headR _ (.tmp 199) (.tmp 201) (.tmp 203) rfl ad m cd m rfl rfl rfl hmc) ?_) | ((with_reducible refine wpList_dst (some 206) rfl ?_); refine wpList_runs_want (some 206) rfl rfl (run_appendR (.tmp 204) (.tmp 205) 32 rfl rfl rfl HJ4.out) ?_) | (go_at_call 19; with_reducible refine (HBG.out _ _ _ _ HRO4.out HRA.out).mono ?_; rintro e w' ⟨rfl, hw⟩; replace hw := hw.symm; subst hw; dsimp only) | go_values | go_skip | go_guarded | go_step)
          go_ret
          exact ⟨rfl, (HBw.out _ (HB.out.trans (HB4.out.mono hBr))).1⟩
        · have HBN := Lib.hid hbn
          clear hbn
          repeat (first | (go_at_call 18; with_reducible refine (HRD.out).mono ?_; rintro e w4 ⟨v, us', rfl, hro4, hb4⟩; have HRO4 := Lib.hid hro4; have HB4 := Lib.hid hb4; obtain ⟨g8, c8, w8, hj8, hr8, hb8⟩ := done_join (HK.out.done.on hb4) (HK.out.behind.on hb4) (Nat.le_trans hBr hb4.size) HM.out.1 HBN.out (by rw [← HM.out.1, ← HM.out.2.1]; omega) 32; rw [HAD.out] at hj8; have HJ4 := Lib.hid hj8; have HRO8 := Lib.hid (hro4.on hb8); have HRA := Lib.hid hr8.rows.at; have HB8 := Lib.hid hb8; clear hro4 hb4 hj8 hr8 hb8; dsimp only) | ((with_reducible refine wpList_dst (some 204) rfl ?_); refine wpList_runs_want (some 204) rfl rfl (run_headR _ (.tmp 199) (.tmp 201) (.tmp 203) rfl ad m cd m rfl rfl rfl hmc) ?_) | ((with_reducible refine wpList_dst (some 206) rfl ?_); refine wpList_runs_want (some 206) rfl rfl (run_appendR (.tmp 204) (.tmp 205) 32 rfl rfl rfl HJ4.out) ?_) | (go_at_call 19; with_reducible refine (HBG.out _ _ _ _ HRO8.out HRA.out).mono ?_; rintro e w' ⟨rfl, hw⟩; replace hw := hw.symm; subst hw; dsimp only) | go_values | go_skip | go_guarded | go_step)
          go_ret
          exact ⟨rfl, (HBw.out _ ((HB.out.trans (HB4.out.mono hBr)).trans (HB8.out.mono (Nat.le_trans hBr HB4.out.size)))).1⟩
  · have t1 : decide ((40 : Int) < (la : Int)) = true := by simp; omega
    go_wp2_with (go_at_call 7; first | (with_reducible refine (HLV.out _ HBw0.out).mono ?_; rintro e w1 ⟨rfl, hb1⟩; have HB1 := Lib.hid hb1; clear hb1; dsimp only) | (with_reducible refine (HLV.out _ HB1.out).mono ?_; rintro e w2 ⟨rfl, hb2⟩; have HB2 := Lib.hid hb2; clear hb2; dsimp only))
    go_ret
    exact ⟨rfl, HB1.out.trans (HB2.out.mono HB1.out.size)⟩
end Go.Proofs.YtngeilhdambgfaaDoor
