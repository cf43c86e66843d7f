/- RoGrp, RoRiseP, RoGrpP, RoRiseA, RoGrpA, RoTop: laid into one. -/
import Derived.Test.YthbdchleppbidaaGreatME
import Derived.Maps.AppendAt
import Derived.Test.YthbdchleppbidaaGreatMR
import Derived.Test.YthbdchleppbidaaGreatMC
import Derived.Test.YthbdchleppbidaaGreatMW
/- What a row's group has in common; an aggregate appended to a row of one's own. -/
namespace Go.Proofs.YthbdchleppbidaaGreat
open Go.RowKit

/-- all from a place on, ahead of another one, have this key -/
def SameK {α : Type} (f : α → Int) (l : List α) (i j : Nat) (k : Int) : Prop := ∀ m x, i ≤ m → m < j → l[m]? = some x → f x = k
theorem SameK.more {α : Type} {f : α → Int} {l : List α} {i j : Nat} {k : Int} (h : SameK f l i j k) {q : α} (hq : l[j]? = some q) (hk : f q = k) : SameK f l i (j + 1) k := fun m x h1 h2 hx => by
  by_cases hm : m = j
  · subst hm; rw [hq] at hx; rw [← Option.some.inj hx]; exact hk
  · exact h m x h1 (by omega) hx
theorem wpList_append_ag {w : World} {ops : Array Oper} {rest : List Oper} {o : Oper} {a : Act} {Q : Exit → Act → World → Prop} (hgd : o.guard = none) (sl x : Operand)
    (ho : o.op = .call { callee := .builtin .append, args := #[sl, x], argTypes := #[52, 52] }) (B : Nat) (v : Value) (l : List Ag) (hs : a.eval sl = v) (hown : AgRow B w v l)
    (M : Nat) (t : Ag) (hx : a.eval x = .slice (some ⟨M, 0, none⟩) 1 1) (hM : AgAt w M t) (hb : l.length ≤ 1000000) (hB : B ≤ w.heap.size)
    (h : ∀ v' w', Hid (AgRow B w' v' (l ++ [t])) → Hid (w.grownBy w' v.ownBlock) → wpList Tryz.prog ops Q rest (a.put o.dst v') w') : wpList Tryz.prog ops Q (o :: rest) a w := by
  obtain ⟨i0, hi, hz0, hz1, hz2⟩ := info_parts infoAg
  obtain ⟨c0, c1, c2, c3, c4, -, -, -, -, -⟩ := hM.cells
  refine wpList_append_own_at _ hgd sl x 52 ho B 55 i0 (.agg #[.int .i64 0, .int .i64 0, .int .i64 0, .int .i64 0, .int .i64 0]) 5 40 Tryz.underlying52 hi hz0 hz1 hz2 rfl (by decide) _ _ _ hs hown ⟨M, 0, none⟩ 1 1 t.cells hx rfl ?_ ?_ (by unfold maxLen; omega) (by omega) hB ?_
  · intro j u hj
    rw [add_at, Nat.zero_add]
    unfold Ag.cells at hj
    have hlt : j < 5 := by have := (List.getElem?_eq_some_iff.1 hj).1; simpa using this
    have hj5 : j = 0 ∨ j = 1 ∨ j = 2 ∨ j = 3 ∨ j = 4 := by omega
    rcases hj5 with rfl | rfl | rfl | rfl | rfl <;> (simp only [List.getElem?_cons_zero, List.getElem?_cons_succ, Option.some.injEq] at hj; subst hj; assumption)
  · intro u hu
    unfold Ag.cells at hu
    simp only [List.mem_cons, List.not_mem_nil, or_false] at hu
    rcases hu with rfl | rfl | rfl | rfl | rfl <;> rfl
  · intro v' w' h1 h2 _ _
    refine h v' w' ?_ h2
    show w'.ownsRow B _ 5 v' (l ++ [t]).length ((l ++ [t]).flatMap Ag.cells)
    rw [List.length_append, List.flatMap_append]
    simpa using h1
end Go.Proofs.YthbdchleppbidaaGreat
/- Package roll: do the ticks of points rise? -/
namespace Go.Proofs.YthbdchleppbidaaGreat
open Go.RowKit

set_option maxHeartbeats 2000000 in
theorem roatP_any (w : World) (p : Pt) : Calls Tryz.prog 99 #[.agg #[.int .i64 p.a, .int .i64 p.v]] w fun e w' => e = .returned (.int .i64 p.a) ∧ Below w.heap.size w w' := by
  have HB : Hid (Below w.heap.size w (w.alloc (.cells #[.int .i64 p.a, .int .i64 p.v] 47))) := Lib.hid ((Below.refl _ _).alloc (Nat.le_refl _) _)
  go_enter Tryz.func99, Tryz.ntmps99
  go_wp2
  go_ret
  exact ⟨rfl, HB.out⟩
set_option maxHeartbeats 8000000 in
set_option maxRecDepth 100000 in
theorem roriseP_any {w : World} {v : Value} {l : List Pt} (hv : PLies w v l) (hl : l.length ≤ 1000000000) :
    Calls Tryz.prog 120 #[v, .func (.func 99) #[] #[]] w fun e w' => e = .returned (.bool (upFrom (-1) (l.map Pt.a))) ∧ Below w.heap.size w w' := by
  obtain ⟨a, b, off, cap, rfl, hadr, hpts⟩ := hv
  have HADR := Lib.hid hadr
  have HP := Lib.hid hpts
  have HL := Lib.hid hl
  have HA : Hid (∀ W (p : Pt), Calls Tryz.prog 99 #[.agg #[.int .i64 p.a, .int .i64 p.v]] W fun e w' => e = .returned (.int .i64 p.a) ∧ Below W.heap.size W w') := Lib.hid roatP_any
  have hlen : l.length ≤ 1000000000 := hl
  clear hadr hpts hl
  obtain ⟨U, hU⟩ : ∃ U, U = upFrom (-1) (l.map Pt.a) := ⟨_, rfl⟩
  rw [← hU]
  have HU := Lib.hid hU
  clear hU
  go_enter Tryz.func120, Tryz.ntmps120
  go_wp2_with fail
  go_loopw [5, 10] (fun d c wr => ∃ (j : Nat) (z : Int), j ≤ l.length ∧ c = .int .i64 j ∧ d = .int .i64 z ∧ U = upFrom z ((l.map Pt.a).drop j) ∧ Below w.heap.size w wr) (fun _ c _ => l.length - (intOf c).toNat)
  case atStart => exact ⟨0, -1, Nat.zero_le _, rfl, rfl, HU.out, Below.refl _ _⟩
  case round =>
    obtain ⟨j, z, hj, rfl, rfl, hu, hb⟩ := hrel
    obtain ⟨W3, hW3⟩ : ∃ W3, W3 = wr := ⟨_, rfl⟩
    subst hW3
    have HUJ := Lib.hid hu
    have HB3 := Lib.hid hb
    have HP3 := Lib.hid (HP.out.beyond hb)
    clear hu hb
    by_cases hlt : j < l.length
    · have ea := HADR.out (by intro h; simp [h] at hlt)
      subst ea
      obtain ⟨p, hp⟩ : ∃ p, l[j]? = some p := ⟨l[j], List.getElem?_eq_getElem hlt⟩
      obtain ⟨c0, c1⟩ := HP3.out j p hp
      have HPK := Lib.hid hp
      have HUN : Hid (U = (decide (z < p.a) && upFrom p.a ((l.map Pt.a).drop (j + 1)))) := Lib.hid (by rw [HUJ.out]; exact up_drop (by rw [List.getElem?_map, hp]; rfl))
      clear hp
      go_upto_region 5 with fail
      refine wp_name fun W4 hW4 => ?_
      obtain ⟨M, hM⟩ : ∃ M, M = W3.heap.size := ⟨_, rfl⟩
      have hb4 : Below W3.heap.size W3 W4 := by rw [hW4.out]; exact (Below.refl _ _).alloc (Nat.le_refl _) _
      have HB4 := Lib.hid (HB3.out.trans (hb4.mono HB3.out.size))
      have p0 : W4.heap[M]? = some (.cells #[.int .i64 p.a, .int .i64 p.v] 47 (0, 0)) := by rw [hW4.out, hM]; exact heap_alloc_new W3 _
      have HM4 := Lib.hid p0
      rw [← hM]
      clear hb4 hW4 hM c0 c1 HP3 p0
      obtain ⟨q0, q1, -, -⟩ := cells2 HM4.out
      go_wp2_with fail
      refine (HA.out W4 p).mono ?_
      rintro e W5 ⟨rfl, hb5⟩
      have HM5 : Hid (W5.heap[M]? = some (.cells #[.int .i64 p.a, .int .i64 p.v] 47 (0, 0))) := Lib.hid ((hb5.block M (lt_of_block HM4.out)).trans HM4.out)
      have HB5 := Lib.hid (HB4.out.trans (hb5.mono HB4.out.size))
      clear hb5 q0 q1 HM4 HB4
      dsimp only
      obtain ⟨q0, q1, -, -⟩ := cells2 HM5.out
      by_cases hz : p.a ≤ z
      · have tz : decide (p.a ≤ z) = true := decide_eq_true hz
        have HNO : Hid (U = false) := Lib.hid (by rw [HUN.out, decide_eq_false (by omega)]; rfl)
        clear hz
        go_wp2_with fail
        go_ret
        exact ⟨by rw [HNO.out]; rfl, HB5.out⟩
      · have tz : decide (p.a ≤ z) = false := decide_eq_false hz
        have HNX : Hid (U = upFrom p.a ((l.map Pt.a).drop (j + 1))) := Lib.hid (by rw [HUN.out, decide_eq_true (by omega)]; rfl)
        clear hz
        go_wp2_with fail
        refine (HA.out W5 p).mono ?_
        rintro e W6 ⟨rfl, hb6⟩
        have HB6 := Lib.hid (HB5.out.trans (hb6.mono HB5.out.size))
        clear hb6 q0 q1 HB5 HM5
        dsimp only
        go_wp2_with fail
        go_roundw
        case rel => exact ⟨j + 1, p.a, by omega, by go_num, rfl, HNX.out, HB6.out⟩
        case measure => simp [intOf]; omega
    · have HYES : Hid (U = true) := Lib.hid (by rw [HUJ.out]; exact up_end (by rw [List.length_map]; omega))
      go_wp2_with fail
      go_ret
      exact ⟨by rw [HYES.out]; rfl, HB3.out⟩
end Go.Proofs.YthbdchleppbidaaGreat
/- Package roll: group over points. Written by py/roll-group.py. -/
namespace Go.Proofs.YthbdchleppbidaaGreat
open Go.RowKit

/-- the windows' aggregates, of a row that rises -/
def grpP (t : Int) (l : List Pt) : List Ag := (runs (fun p => startW t p.a) l).map fun e => ofA e.1 e.2
theorem grpP_at {t : Int} {l : List Pt} {i j : Nat} {k : Int} (hij : i < j) (hj : j ≤ l.length) (hk : SameK (fun x : Pt => startW t x.a) l i j k) (hr : ∀ y, l[j]? = some y → startW t y.a ≠ k) :
    grpP t (l.drop i) = [ofR k ((l.drop i).take (j - i))] ++ grpP t (l.drop j) := by
  unfold grpP
  rw [runs_at _ k hij hj hk hr, List.map_cons]
  unfold ofR
  rw [if_neg (by intro h; have h1 := partl_len l (i := i) hj; rw [h] at h1; simp at h1; omega)]
  rfl

set_option maxHeartbeats 16000000 in
set_option maxRecDepth 1000000 in
theorem rogrpP_any {w : World} {t : Int} (ht0 : -9223372036854775808 ≤ t) (ht1 : t ≤ 9223372036854775807) {v : Value} {l : List Pt} (hv : PLies w v l) (hfi : Fits v) (hf : ∀ p ∈ l, p.fits) (hl : l.length ≤ 1000000) :
    Calls Tryz.prog 98 #[.int .i64 t, v, .func (.func 99) #[] #[], .func (.func 65) #[] #[]] w fun e w' => ∃ v', e = .returned v' ∧ AgRow w.heap.size w' v' (pointsR t l) ∧ Below w.heap.size w w' := by
  have HWI : Hid (∀ W, Calls Tryz.prog 90 #[.int .i64 t] W fun e w' => e = .returned (.int .i64 (widthW t)) ∧ w' = W) := Lib.hid fun W => wiwidth_any W t ht0 ht1
  have HST : Hid (∀ W p, p ∈ l → Calls Tryz.prog 89 #[.int .i64 t, .int .i64 p.a] W fun e w' => e = .returned (.int .i64 (startW t p.a)) ∧ w' = W) := Lib.hid fun W p hp => wistart_any W t p.a ht0 ht1 (hf p hp).1 (hf p hp).2.1
  have HRI := Lib.hid (roriseP_any hv (by omega))
  have HA : Hid (∀ W (p : Pt), Calls Tryz.prog 99 #[.agg #[.int .i64 p.a, .int .i64 p.v]] W fun e w' => e = .returned (.int .i64 p.a) ∧ Below W.heap.size W w') := Lib.hid roatP_any
  have HOF : Hid (∀ (W : World) (k : Int) (u : Value) (g : List Pt), -9223372036854775808 ≤ k → k ≤ 9223372036854775807 → PLies W u g → (∀ p ∈ g, p ∈ l) → g.length ≤ 1000000 → Calls Tryz.prog 65 #[.int .i64 k, u] W fun e w' => e = .returned (.tuple #[agV (ofR k g), .bool (!g.isEmpty)]) ∧ Below W.heap.size W w') := Lib.hid fun W k u g k0 k1 hu hg hn => roof_any k0 k1 hu (fun p hp => hf p (hg p hp)) (by omega)
  obtain ⟨a, b, off, cap, rfl, hadr, hpts⟩ := hv
  have hcl : l.length ≤ cap := hfi _ _ _ rfl
  have HCL := Lib.hid hcl
  have HADR := Lib.hid hadr
  have HP := Lib.hid hpts
  have HF := Lib.hid hf
  have HL := Lib.hid hl
  clear hadr hpts hf hl hfi hcl ht0 ht1
  obtain ⟨R, hR⟩ : ∃ R, R = pointsR t l := ⟨_, rfl⟩
  rw [← hR]
  have HR := Lib.hid hR
  clear hR
  by_cases hw : widthW t = 0
  · have HNO : Hid (R = []) := Lib.hid (by rw [HR.out]; unfold pointsR; rw [if_pos (.inl hw)])
    rw [hw] at HWI
    clear hw
    go_enter Tryz.func98, Tryz.ntmps98
    go_wp2_with fail
    refine (HWI.out w).mono ?_
    rintro e Wx ⟨rfl, hw⟩; replace hw := hw.symm; subst hw
    dsimp only
    go_wp2_with fail
    go_ret
    exact ⟨_, rfl, by rw [HNO.out]; exact AgRow.nil _ _, Below.refl _ _⟩
  have tw : (widthW t == 0) = false := by simpa using hw
  have HWZ := Lib.hid hw
  clear hw
  cases hup : upFrom (-1) (l.map Pt.a) with
  | false =>
    have HNO : Hid (R = []) := Lib.hid (by rw [HR.out]; unfold pointsR; rw [if_pos (.inr hup)])
    rw [hup] at HRI
    clear hup
    go_enter Tryz.func98, Tryz.ntmps98
    go_wp2_with fail
    refine (HWI.out w).mono ?_
    rintro e Wx ⟨rfl, hw⟩; replace hw := hw.symm; subst hw
    dsimp only
    go_wp2_with fail
    refine (HRI.out).mono ?_
    rintro e W1 ⟨rfl, hb⟩
    have HB1 := Lib.hid hb
    clear hb
    dsimp only
    go_wp2_with fail
    go_ret
    exact ⟨_, rfl, by rw [HNO.out]; exact AgRow.nil _ _, HB1.out⟩
  | true =>
    have HRE : Hid (R = grpP t l) := Lib.hid (by rw [HR.out]; unfold pointsR; rw [if_neg (by rw [hup]; rintro (h | h); exact HWZ.out h; cases h)]; rfl)
    rw [hup] at HRI
    clear hup
    go_enter Tryz.func98, Tryz.ntmps98
    go_wp2_with fail
    refine (HWI.out w).mono ?_
    rintro e Wx ⟨rfl, hw⟩; replace hw := hw.symm; subst hw
    dsimp only
    go_wp2_with fail
    refine (HRI.out).mono ?_
    rintro e W1 ⟨rfl, hb⟩
    have HB1 := Lib.hid hb
    clear hb HRI HWI
    dsimp only
    go_wp2_with fail
    go_loopw [9, 10] (fun vv c wr => ∃ (i : Nat) (done : List Ag) (v9 : Value), i ≤ l.length ∧ done.length ≤ i ∧ c = .int .i64 i ∧ v9 = vv ∧ AgRow w.heap.size wr v9 done ∧ R = done ++ grpP t (l.drop i) ∧ Below w.heap.size w wr) (fun _ c _ => l.length - (intOf c).toNat)
    case atStart => exact ⟨0, [], _, Nat.zero_le _, Nat.le_refl _, rfl, rfl, AgRow.nil _ _, by rw [HRE.out]; rfl, HB1.out⟩
    case round =>
      obtain ⟨i, done, v9, hi, hd, rfl, rfl, hrow, hre, hb⟩ := hrel
      obtain ⟨W2, hW2⟩ : ∃ W2, W2 = wr := ⟨_, rfl⟩
      subst hW2
      have HROW2 := Lib.hid hrow
      have HRE2 := Lib.hid hre
      have HB2 := Lib.hid hb
      have HP2 := Lib.hid (HP.out.beyond hb)
      clear hrow hre hb HB1 HRE HR
      have hlen : l.length ≤ 1000000 := HL.out
      by_cases hlt : i < l.length
      · have ea := HADR.out (by intro h; simp [h] at hlt)
        subst ea
        obtain ⟨p, hp⟩ : ∃ p, l[i]? = some p := ⟨l[i], List.getElem?_eq_getElem hlt⟩
        obtain ⟨c0, c1⟩ := HP2.out i p hp
        have HPK := Lib.hid hp
        have HSTP := Lib.hid fun W => HST.out W p (List.mem_of_getElem? hp)
        clear hp
        go_wp2_with fail
        refine (HA.out W2 p).mono ?_
        rintro e W3 ⟨rfl, hb⟩
        have HROW3 := Lib.hid (HROW2.out.keep hb)
        have HB3 := Lib.hid (HB2.out.trans (hb.mono HB2.out.size))
        clear hb c0 c1 HROW2 HB2 HP2
        dsimp only
        go_wp2_with fail
        refine (HSTP.out W3).mono ?_
        rintro e Wx ⟨rfl, hw⟩; replace hw := hw.symm; subst hw
        dsimp only
        obtain ⟨k, hk⟩ : ∃ k, k = startW t p.a := ⟨_, rfl⟩
        have HK := Lib.hid hk
        have HS0 : Hid (SameK (fun x : Pt => startW t x.a) l i (i + 1) k) := Lib.hid fun m x h1 h2 hx => by
          obtain rfl : m = i := by omega
          rw [HPK.out] at hx
          rw [← Option.some.inj hx]; exact hk.symm
        have hkr : 0 ≤ k ∧ k ≤ 9223372036854775807 := by rw [hk]; exact start_range t (HF.out p (List.mem_of_getElem? HPK.out)).2.1
        have HKR := Lib.hid hkr
        rw [← hk]
        clear hk hkr
        go_wp2_with fail
        go_loopw [12] (fun c wr => ∃ j : Nat, i < j ∧ j ≤ l.length ∧ c = .int .i64 j ∧ SameK (fun x : Pt => startW t x.a) l i j k ∧ AgRow w.heap.size wr v9 done ∧ Below w.heap.size w wr) (fun c _ => l.length - (intOf c).toNat)
        case atStart => exact ⟨i + 1, by omega, by omega, by go_num, HS0.out, HROW3.out, HB3.out⟩
        case round =>
          obtain ⟨j, hij, hj, rfl, hsame, hrow, hb⟩ := hrel
          obtain ⟨W4, hW4⟩ : ∃ W4, W4 = wr := ⟨_, rfl⟩
          subst hW4
          have HSAME := Lib.hid hsame
          have HROW4 := Lib.hid hrow
          have HB4 := Lib.hid hb
          have HP4 := Lib.hid (HP.out.beyond hb)
          clear hsame hrow hb HS0 HROW3 HB3
          by_cases hjl : j < l.length
          · obtain ⟨q, hq⟩ : ∃ q, l[j]? = some q := ⟨l[j], List.getElem?_eq_getElem hjl⟩
            obtain ⟨c0, c1⟩ := HP4.out j q hq
            have HQK := Lib.hid hq
            have HSTQ := Lib.hid fun W => HST.out W q (List.mem_of_getElem? hq)
            clear hq
            go_wp2_with fail
            refine (HA.out W4 q).mono ?_
            rintro e W5 ⟨rfl, hb⟩
            have HROW5 := Lib.hid (HROW4.out.keep hb)
            have HB5 := Lib.hid (HB4.out.trans (hb.mono HB4.out.size))
            have HP5 := Lib.hid (HP.out.beyond HB5.out)
            clear hb c0 c1 HROW4 HB4 HP4
            dsimp only
            go_wp2_with fail
            refine (HSTQ.out W5).mono ?_
            rintro e Wx ⟨rfl, hw⟩; replace hw := hw.symm; subst hw
            dsimp only
            by_cases hkq : startW t q.a = k
            · have HSN : Hid (SameK (fun x : Pt => startW t x.a) l i (j + 1) k) := Lib.hid (HSAME.out.more HQK.out hkq)
              have tk : (startW t q.a == k) = true := by simpa using hkq
              clear hkq
              go_wp2_with fail
              go_roundw
              case rel => exact ⟨j + 1, by omega, by omega, by go_num, HSN.out, HROW5.out, HB5.out⟩
              case measure => simp [intOf]; omega
            · have HNX : Hid (grpP t (l.drop i) = [ofR k ((l.drop i).take (j - i))] ++ grpP t (l.drop j)) := Lib.hid (grpP_at hij hj HSAME.out fun y hy => by rw [HQK.out] at hy; rw [← Option.some.inj hy]; exact hkq)
              have tk : (startW t q.a == k) = false := by simpa using hkq
              clear hkq HSAME HQK
              have hic : ¬ (cap = i) := by have := HCL.out; omega
              have hjc : (j : Int) ≤ (cap : Int) := by have := HCL.out; omega
              have hij2 : (i : Int) ≤ (j : Int) := by omega
              have hcall := HOF.out W5 k (.slice (some ⟨b, off + i * 2, none⟩) (j - i) (cap - i)) ((l.drop i).take (j - i)) (by have := HKR.out; omega) HKR.out.2 (pts_part HP5.out hj (cap - i)) (fun p hp => mem_part hp) (by rw [partl_len l hj]; omega)
              obtain ⟨G, hG⟩ : ∃ G, G = (l.drop i).take (j - i) := ⟨_, rfl⟩
              rw [← hG] at hcall HNX
              have HGE : Hid (G ≠ []) := Lib.hid (by rw [hG]; intro h0; have h1 := partl_len l (i := i) hj; rw [h0] at h1; simp at h1; omega)
              clear hG
              obtain ⟨A, hA⟩ : ∃ A, A = ofR k G := ⟨_, rfl⟩
              rw [← hA] at hcall HNX
              rw [show (!G.isEmpty) = true by cases G with | nil => exact absurd rfl HGE.out | cons => rfl] at hcall
              have HC := Lib.hid hcall
              clear hcall hA
              go_wp2_with fail
              refine (HC.out).mono ?_
              rintro e W8 ⟨rfl, hb⟩
              have HROW8 := Lib.hid (HROW5.out.keep hb)
              have HB8 := Lib.hid (HB5.out.trans (hb.mono HB5.out.size))
              clear hb HROW5 HB5 HP5 HC
              unfold agV
              go_upto_region 11 with fail
              refine wp_name fun W9 hW9 => ?_
              obtain ⟨M, hM⟩ : ∃ M, M = W8.heap.size := ⟨_, rfl⟩
              have hb9 : Below W8.heap.size W8 W9 := by rw [hW9.out]; exact (Below.refl _ _).alloc (Nat.le_refl _) _
              have HM9 : Hid (AgAt W9 M A) := Lib.hid (by rw [hW9.out, hM]; exact AgAt.new W8 A)
              have HROW9 := Lib.hid (HROW8.out.keep hb9)
              have HB9 := Lib.hid (HB8.out.trans (hb9.mono HB8.out.size))
              rw [← hM]
              clear hb9 hW9 hM HROW8 HB8
              obtain ⟨c0, c1, c2, c3, c4, -, -, -, -, -⟩ := HM9.out.cells
              have HNEW := Lib.hid (AgAt.new W9 A)
              have HRW := Lib.hid (HROW9.out.keep ((Below.refl W9.heap.size W9).alloc (Nat.le_refl _) (.cells #[.int .i64 A.at_, .int .i64 A.n, .int .i64 A.s, .int .i64 A.lo, .int .i64 A.hi] 55)))
              have HBW := Lib.hid (HB9.out.alloc HB9.out.size (.cells #[.int .i64 A.at_, .int .i64 A.n, .int .i64 A.s, .int .i64 A.lo, .int .i64 A.hi] 55))
              go_wp2_with (at_builtin; refine wpList_append_ag rfl (.tmp 67) (.tmp 69) rfl w.heap.size _ done rfl HRW.out W9.heap.size A rfl HNEW.out (by omega) HBW.out.size ?_; intro v10 W10 HROW10 hgrow; have HB10 : Hid (Below w.heap.size w W10) := Lib.hid (HBW.out.grown hgrow.out HBW.out.size (fun b hb => (HRW.out.lt b hb).1)); clear hgrow)
              have HRN : Hid (R = (done ++ [A]) ++ grpP t (l.drop j)) := Lib.hid (by rw [HRE2.out, HNX.out, List.append_assoc])
              go_roundw
              case rel => exact ⟨j, done ++ [A], _, by omega, by rw [List.length_append]; simp; omega, rfl, rfl, HROW10.out, HRN.out, HB10.out⟩
              case measure => simp [intOf]; omega
          · obtain rfl : j = l.length := by omega
            have HNX : Hid (grpP t (l.drop i) = [ofR k ((l.drop i).take (l.length - i))] ++ grpP t (l.drop l.length)) := Lib.hid (grpP_at hij hj HSAME.out fun y hy => by have := (List.getElem?_eq_some_iff.1 hy).1; omega)
            clear HSAME
            have hic : ¬ (cap = i) := by have := HCL.out; omega
            have hjc : (l.length : Int) ≤ (cap : Int) := by have := HCL.out; omega
            have hij2 : (i : Int) ≤ (l.length : Int) := by omega
            have hcall := HOF.out W4 k (.slice (some ⟨b, off + i * 2, none⟩) (l.length - i) (cap - i)) ((l.drop i).take (l.length - i)) (by have := HKR.out; omega) HKR.out.2 (pts_part HP4.out hj (cap - i)) (fun p hp => mem_part hp) (by rw [partl_len l hj]; omega)
            obtain ⟨G, hG⟩ : ∃ G, G = (l.drop i).take (l.length - i) := ⟨_, rfl⟩
            rw [← hG] at hcall HNX
            have HGE : Hid (G ≠ []) := Lib.hid (by rw [hG]; intro h0; have h1 := partl_len l (i := i) hj; rw [h0] at h1; simp at h1; omega)
            clear hG
            obtain ⟨A, hA⟩ : ∃ A, A = ofR k G := ⟨_, rfl⟩
            rw [← hA] at hcall HNX
            rw [show (!G.isEmpty) = true by cases G with | nil => exact absurd rfl HGE.out | cons => rfl] at hcall
            have HC := Lib.hid hcall
            clear hcall hA
            go_wp2_with fail
            refine (HC.out).mono ?_
            rintro e W8 ⟨rfl, hb⟩
            have HROW8 := Lib.hid (HROW4.out.keep hb)
            have HB8 := Lib.hid (HB4.out.trans (hb.mono HB4.out.size))
            clear hb HROW4 HB4 HP4 HC
            unfold agV
            go_upto_region 11 with fail
            refine wp_name fun W9 hW9 => ?_
            obtain ⟨M, hM⟩ : ∃ M, M = W8.heap.size := ⟨_, rfl⟩
            have hb9 : Below W8.heap.size W8 W9 := by rw [hW9.out]; exact (Below.refl _ _).alloc (Nat.le_refl _) _
            have HM9 : Hid (AgAt W9 M A) := Lib.hid (by rw [hW9.out, hM]; exact AgAt.new W8 A)
            have HROW9 := Lib.hid (HROW8.out.keep hb9)
            have HB9 := Lib.hid (HB8.out.trans (hb9.mono HB8.out.size))
            rw [← hM]
            clear hb9 hW9 hM HROW8 HB8
            obtain ⟨c0, c1, c2, c3, c4, -, -, -, -, -⟩ := HM9.out.cells
            have HNEW := Lib.hid (AgAt.new W9 A)
            have HRW := Lib.hid (HROW9.out.keep ((Below.refl W9.heap.size W9).alloc (Nat.le_refl _) (.cells #[.int .i64 A.at_, .int .i64 A.n, .int .i64 A.s, .int .i64 A.lo, .int .i64 A.hi] 55)))
            have HBW := Lib.hid (HB9.out.alloc HB9.out.size (.cells #[.int .i64 A.at_, .int .i64 A.n, .int .i64 A.s, .int .i64 A.lo, .int .i64 A.hi] 55))
            go_wp2_with (at_builtin; refine wpList_append_ag rfl (.tmp 67) (.tmp 69) rfl w.heap.size _ done rfl HRW.out W9.heap.size A rfl HNEW.out (by omega) HBW.out.size ?_; intro v10 W10 HROW10 hgrow; have HB10 : Hid (Below w.heap.size w W10) := Lib.hid (HBW.out.grown hgrow.out HBW.out.size (fun b hb => (HRW.out.lt b hb).1)); clear hgrow)
            have HRN : Hid (R = (done ++ [A]) ++ grpP t (l.drop l.length)) := Lib.hid (by rw [HRE2.out, HNX.out, List.append_assoc])
            go_roundw
            case rel => exact ⟨l.length, done ++ [A], _, by omega, by rw [List.length_append]; simp; omega, rfl, rfl, HROW10.out, HRN.out, HB10.out⟩
            case measure => simp [intOf]; omega
      · obtain rfl : i = l.length := by omega
        have HEND : Hid (R = done) := Lib.hid (by rw [HRE2.out, List.drop_of_length_le (Nat.le_refl _)]; exact List.append_nil _)
        go_wp2_with fail
        go_ret
        exact ⟨_, rfl, by rw [HEND.out]; exact HROW2.out, HB2.out⟩
end Go.Proofs.YthbdchleppbidaaGreat
/- Package roll: do the beginnings of aggregates rise? -/
namespace Go.Proofs.YthbdchleppbidaaGreat
open Go.RowKit

set_option maxHeartbeats 2000000 in
theorem roatA_any (w : World) (p : Ag) : Calls Tryz.prog 101 #[.agg #[.int .i64 p.at_, .int .i64 p.n, .int .i64 p.s, .int .i64 p.lo, .int .i64 p.hi]] w fun e w' => e = .returned (.int .i64 p.at_) ∧ Below w.heap.size w w' := by
  have HB : Hid (Below w.heap.size w (w.alloc (.cells #[.int .i64 p.at_, .int .i64 p.n, .int .i64 p.s, .int .i64 p.lo, .int .i64 p.hi] 55))) := Lib.hid ((Below.refl _ _).alloc (Nat.le_refl _) _)
  go_enter Tryz.func101, Tryz.ntmps101
  go_wp2
  go_ret
  exact ⟨rfl, HB.out⟩
set_option maxHeartbeats 8000000 in
set_option maxRecDepth 100000 in
theorem roriseA_any {w : World} {v : Value} {l : List Ag} (hv : ALies w v l) (hl : l.length ≤ 1000000000) :
    Calls Tryz.prog 121 #[v, .func (.func 101) #[] #[]] w fun e w' => e = .returned (.bool (upFrom (-1) (l.map Ag.at_))) ∧ Below w.heap.size w w' := by
  obtain ⟨a, b, off, cap, rfl, hadr, hpts⟩ := hv
  have HADR := Lib.hid hadr
  have HP := Lib.hid hpts
  have HL := Lib.hid hl
  have HA : Hid (∀ W (p : Ag), Calls Tryz.prog 101 #[.agg #[.int .i64 p.at_, .int .i64 p.n, .int .i64 p.s, .int .i64 p.lo, .int .i64 p.hi]] W fun e w' => e = .returned (.int .i64 p.at_) ∧ Below W.heap.size W w') := Lib.hid roatA_any
  have hlen : l.length ≤ 1000000000 := hl
  clear hadr hpts hl
  obtain ⟨U, hU⟩ : ∃ U, U = upFrom (-1) (l.map Ag.at_) := ⟨_, rfl⟩
  rw [← hU]
  have HU := Lib.hid hU
  clear hU
  go_enter Tryz.func121, Tryz.ntmps121
  go_wp2_with fail
  go_loopw [5, 10] (fun d c wr => ∃ (j : Nat) (z : Int), j ≤ l.length ∧ c = .int .i64 j ∧ d = .int .i64 z ∧ U = upFrom z ((l.map Ag.at_).drop j) ∧ Below w.heap.size w wr) (fun _ c _ => l.length - (intOf c).toNat)
  case atStart => exact ⟨0, -1, Nat.zero_le _, rfl, rfl, HU.out, Below.refl _ _⟩
  case round =>
    obtain ⟨j, z, hj, rfl, rfl, hu, hb⟩ := hrel
    obtain ⟨W3, hW3⟩ : ∃ W3, W3 = wr := ⟨_, rfl⟩
    subst hW3
    have HUJ := Lib.hid hu
    have HB3 := Lib.hid hb
    have HP3 := Lib.hid (HP.out.beyond hb)
    clear hu hb
    by_cases hlt : j < l.length
    · have ea := HADR.out (by intro h; simp [h] at hlt)
      subst ea
      obtain ⟨p, hp⟩ : ∃ p, l[j]? = some p := ⟨l[j], List.getElem?_eq_getElem hlt⟩
      obtain ⟨c0, c1, c2, c3, c4⟩ := HP3.out j p hp
      have HPK := Lib.hid hp
      have HUN : Hid (U = (decide (z < p.at_) && upFrom p.at_ ((l.map Ag.at_).drop (j + 1)))) := Lib.hid (by rw [HUJ.out]; exact up_drop (by rw [List.getElem?_map, hp]; rfl))
      clear hp
      go_upto_region 5 with fail
      refine wp_name fun W4 hW4 => ?_
      obtain ⟨M, hM⟩ : ∃ M, M = W3.heap.size := ⟨_, rfl⟩
      have hb4 : Below W3.heap.size W3 W4 := by rw [hW4.out]; exact (Below.refl _ _).alloc (Nat.le_refl _) _
      have HB4 := Lib.hid (HB3.out.trans (hb4.mono HB3.out.size))
      have p0 : W4.heap[M]? = some (.cells #[.int .i64 p.at_, .int .i64 p.n, .int .i64 p.s, .int .i64 p.lo, .int .i64 p.hi] 55 (0, 0)) := by rw [hW4.out, hM]; exact heap_alloc_new W3 _
      have HM4 := Lib.hid p0
      rw [← hM]
      clear hb4 hW4 hM c0 c1 c2 c3 c4 HP3 p0
      obtain ⟨q0, q1, q2, q3, q4, -, -, -, -, -⟩ := AgAt.cells (t := p) HM4.out
      go_wp2_with fail
      refine (HA.out W4 p).mono ?_
      rintro e W5 ⟨rfl, hb5⟩
      have HM5 : Hid (W5.heap[M]? = some (.cells #[.int .i64 p.at_, .int .i64 p.n, .int .i64 p.s, .int .i64 p.lo, .int .i64 p.hi] 55 (0, 0))) := Lib.hid ((hb5.block M (lt_of_block HM4.out)).trans HM4.out)
      have HB5 := Lib.hid (HB4.out.trans (hb5.mono HB4.out.size))
      clear hb5 q0 q1 q2 q3 q4 HM4 HB4
      dsimp only
      obtain ⟨q0, q1, q2, q3, q4, -, -, -, -, -⟩ := AgAt.cells (t := p) HM5.out
      by_cases hz : p.at_ ≤ z
      · have tz : decide (p.at_ ≤ z) = true := decide_eq_true hz
        have HNO : Hid (U = false) := Lib.hid (by rw [HUN.out, decide_eq_false (by omega)]; rfl)
        clear hz
        go_wp2_with fail
        go_ret
        exact ⟨by rw [HNO.out]; rfl, HB5.out⟩
      · have tz : decide (p.at_ ≤ z) = false := decide_eq_false hz
        have HNX : Hid (U = upFrom p.at_ ((l.map Ag.at_).drop (j + 1))) := Lib.hid (by rw [HUN.out, decide_eq_true (by omega)]; rfl)
        clear hz
        go_wp2_with fail
        refine (HA.out W5 p).mono ?_
        rintro e W6 ⟨rfl, hb6⟩
        have HB6 := Lib.hid (HB5.out.trans (hb6.mono HB5.out.size))
        clear hb6 q0 q1 q2 q3 q4 HB5 HM5
        dsimp only
        go_wp2_with fail
        go_roundw
        case rel => exact ⟨j + 1, p.at_, by omega, by go_num, rfl, HNX.out, HB6.out⟩
        case measure => simp [intOf]; omega
    · have HYES : Hid (U = true) := Lib.hid (by rw [HUJ.out]; exact up_end (by rw [List.length_map]; omega))
      go_wp2_with fail
      go_ret
      exact ⟨by rw [HYES.out]; rfl, HB3.out⟩
end Go.Proofs.YthbdchleppbidaaGreat
/- Package roll: group over aggregates. Written by py/roll-group.py. -/
namespace Go.Proofs.YthbdchleppbidaaGreat
open Go.RowKit

/-- the windows' aggregates, of a row that rises -/
def grpA (t : Int) (l : List Ag) : List Ag := (runs (fun p => startW t p.at_) l).filterMap fun e => joinA e.1 e.2
theorem grpA_at {t : Int} {l : List Ag} {i j : Nat} {k : Int} (hij : i < j) (hj : j ≤ l.length) (hk : SameK (fun x : Ag => startW t x.at_) l i j k) (hr : ∀ y, l[j]? = some y → startW t y.at_ ≠ k) :
    grpA t (l.drop i) = (joinA k ((l.drop i).take (j - i))).toList ++ grpA t (l.drop j) := by
  unfold grpA
  rw [runs_at _ k hij hj hk hr, List.filterMap_cons]
  cases joinA k ((l.drop i).take (j - i)) <;> rfl

set_option maxHeartbeats 16000000 in
set_option maxRecDepth 1000000 in
theorem rogrpA_any {w : World} {t : Int} (ht0 : -9223372036854775808 ≤ t) (ht1 : t ≤ 9223372036854775807) {v : Value} {l : List Ag} (hv : ALies w v l) (hfi : Fits v) (hf : ∀ p ∈ l, p.fits) (hl : l.length ≤ 1000000) :
    Calls Tryz.prog 100 #[.int .i64 t, v, .func (.func 101) #[] #[], .func (.func 67) #[] #[]] w fun e w' => ∃ v', e = .returned v' ∧ AgRow w.heap.size w' v' (aggsR t l) ∧ Below w.heap.size w w' := by
  have HWI : Hid (∀ W, Calls Tryz.prog 90 #[.int .i64 t] W fun e w' => e = .returned (.int .i64 (widthW t)) ∧ w' = W) := Lib.hid fun W => wiwidth_any W t ht0 ht1
  have HST : Hid (∀ W p, p ∈ l → Calls Tryz.prog 89 #[.int .i64 t, .int .i64 p.at_] W fun e w' => e = .returned (.int .i64 (startW t p.at_)) ∧ w' = W) := Lib.hid fun W p hp => wistart_any W t p.at_ ht0 ht1 (hf p hp).a0 (hf p hp).a1
  have HRI := Lib.hid (roriseA_any hv (by omega))
  have HA : Hid (∀ W (p : Ag), Calls Tryz.prog 101 #[.agg #[.int .i64 p.at_, .int .i64 p.n, .int .i64 p.s, .int .i64 p.lo, .int .i64 p.hi]] W fun e w' => e = .returned (.int .i64 p.at_) ∧ Below W.heap.size W w') := Lib.hid roatA_any
  have HOF : Hid (∀ (W : World) (k : Int) (u : Value) (g : List Ag), -9223372036854775808 ≤ k → k ≤ 9223372036854775807 → ALies W u g → (∀ p ∈ g, p ∈ l) → g.length ≤ 1000000 → Calls Tryz.prog 67 #[.int .i64 k, u] W fun e w' => e = .returned (.tuple #[agV (joinR k g), .bool ((joinA k g).isSome)]) ∧ Below W.heap.size W w') := Lib.hid fun W k u g k0 k1 hu hg hn => rojoin_any k0 k1 hu (fun p hp => hf p (hg p hp)) (by omega)
  obtain ⟨a, b, off, cap, rfl, hadr, hpts⟩ := hv
  have hcl : l.length ≤ cap := hfi _ _ _ rfl
  have HCL := Lib.hid hcl
  have HADR := Lib.hid hadr
  have HP := Lib.hid hpts
  have HF := Lib.hid hf
  have HL := Lib.hid hl
  clear hadr hpts hf hl hfi hcl ht0 ht1
  obtain ⟨R, hR⟩ : ∃ R, R = aggsR t l := ⟨_, rfl⟩
  rw [← hR]
  have HR := Lib.hid hR
  clear hR
  by_cases hw : widthW t = 0
  · have HNO : Hid (R = []) := Lib.hid (by rw [HR.out]; unfold aggsR; rw [if_pos (.inl hw)])
    rw [hw] at HWI
    clear hw
    go_enter Tryz.func100, Tryz.ntmps100
    go_wp2_with fail
    refine (HWI.out w).mono ?_
    rintro e Wx ⟨rfl, hw⟩; replace hw := hw.symm; subst hw
    dsimp only
    go_wp2_with fail
    go_ret
    exact ⟨_, rfl, by rw [HNO.out]; exact AgRow.nil _ _, Below.refl _ _⟩
  have tw : (widthW t == 0) = false := by simpa using hw
  have HWZ := Lib.hid hw
  clear hw
  cases hup : upFrom (-1) (l.map Ag.at_) with
  | false =>
    have HNO : Hid (R = []) := Lib.hid (by rw [HR.out]; unfold aggsR; rw [if_pos (.inr hup)])
    rw [hup] at HRI
    clear hup
    go_enter Tryz.func100, Tryz.ntmps100
    go_wp2_with fail
    refine (HWI.out w).mono ?_
    rintro e Wx ⟨rfl, hw⟩; replace hw := hw.symm; subst hw
    dsimp only
    go_wp2_with fail
    refine (HRI.out).mono ?_
    rintro e W1 ⟨rfl, hb⟩
    have HB1 := Lib.hid hb
    clear hb
    dsimp only
    go_wp2_with fail
    go_ret
    exact ⟨_, rfl, by rw [HNO.out]; exact AgRow.nil _ _, HB1.out⟩
  | true =>
    have HRE : Hid (R = grpA t l) := Lib.hid (by rw [HR.out]; unfold aggsR; rw [if_neg (by rw [hup]; rintro (h | h); exact HWZ.out h; cases h)]; rfl)
    rw [hup] at HRI
    clear hup
    go_enter Tryz.func100, Tryz.ntmps100
    go_wp2_with fail
    refine (HWI.out w).mono ?_
    rintro e Wx ⟨rfl, hw⟩; replace hw := hw.symm; subst hw
    dsimp only
    go_wp2_with fail
    refine (HRI.out).mono ?_
    rintro e W1 ⟨rfl, hb⟩
    have HB1 := Lib.hid hb
    clear hb HRI HWI
    dsimp only
    go_wp2_with fail
    go_loopw [9, 10] (fun vv c wr => ∃ (i : Nat) (done : List Ag) (v9 : Value), i ≤ l.length ∧ done.length ≤ i ∧ c = .int .i64 i ∧ v9 = vv ∧ AgRow w.heap.size wr v9 done ∧ R = done ++ grpA t (l.drop i) ∧ Below w.heap.size w wr) (fun _ c _ => l.length - (intOf c).toNat)
    case atStart => exact ⟨0, [], _, Nat.zero_le _, Nat.le_refl _, rfl, rfl, AgRow.nil _ _, by rw [HRE.out]; rfl, HB1.out⟩
    case round =>
      obtain ⟨i, done, v9, hi, hd, rfl, rfl, hrow, hre, hb⟩ := hrel
      obtain ⟨W2, hW2⟩ : ∃ W2, W2 = wr := ⟨_, rfl⟩
      subst hW2
      have HROW2 := Lib.hid hrow
      have HRE2 := Lib.hid hre
      have HB2 := Lib.hid hb
      have HP2 := Lib.hid (HP.out.beyond hb)
      clear hrow hre hb HB1 HRE HR
      have hlen : l.length ≤ 1000000 := HL.out
      by_cases hlt : i < l.length
      · have ea := HADR.out (by intro h; simp [h] at hlt)
        subst ea
        obtain ⟨p, hp⟩ : ∃ p, l[i]? = some p := ⟨l[i], List.getElem?_eq_getElem hlt⟩
        obtain ⟨c0, c1, c2, c3, c4⟩ := HP2.out i p hp
        have HPK := Lib.hid hp
        have HSTP := Lib.hid fun W => HST.out W p (List.mem_of_getElem? hp)
        clear hp
        go_wp2_with fail
        refine (HA.out W2 p).mono ?_
        rintro e W3 ⟨rfl, hb⟩
        have HROW3 := Lib.hid (HROW2.out.keep hb)
        have HB3 := Lib.hid (HB2.out.trans (hb.mono HB2.out.size))
        clear hb c0 c1 c2 c3 c4 HROW2 HB2 HP2
        dsimp only
        go_wp2_with fail
        refine (HSTP.out W3).mono ?_
        rintro e Wx ⟨rfl, hw⟩; replace hw := hw.symm; subst hw
        dsimp only
        obtain ⟨k, hk⟩ : ∃ k, k = startW t p.at_ := ⟨_, rfl⟩
        have HK := Lib.hid hk
        have HS0 : Hid (SameK (fun x : Ag => startW t x.at_) l i (i + 1) k) := Lib.hid fun m x h1 h2 hx => by
          obtain rfl : m = i := by omega
          rw [HPK.out] at hx
          rw [← Option.some.inj hx]; exact hk.symm
        have hkr : 0 ≤ k ∧ k ≤ 9223372036854775807 := by rw [hk]; exact start_range t (HF.out p (List.mem_of_getElem? HPK.out)).a1
        have HKR := Lib.hid hkr
        rw [← hk]
        clear hk hkr
        go_wp2_with fail
        go_loopw [12] (fun c wr => ∃ j : Nat, i < j ∧ j ≤ l.length ∧ c = .int .i64 j ∧ SameK (fun x : Ag => startW t x.at_) l i j k ∧ AgRow w.heap.size wr v9 done ∧ Below w.heap.size w wr) (fun c _ => l.length - (intOf c).toNat)
        case atStart => exact ⟨i + 1, by omega, by omega, by go_num, HS0.out, HROW3.out, HB3.out⟩
        case round =>
          obtain ⟨j, hij, hj, rfl, hsame, hrow, hb⟩ := hrel
          obtain ⟨W4, hW4⟩ : ∃ W4, W4 = wr := ⟨_, rfl⟩
          subst hW4
          have HSAME := Lib.hid hsame
          have HROW4 := Lib.hid hrow
          have HB4 := Lib.hid hb
          have HP4 := Lib.hid (HP.out.beyond hb)
          clear hsame hrow hb HS0 HROW3 HB3
          by_cases hjl : j < l.length
          · obtain ⟨q, hq⟩ : ∃ q, l[j]? = some q := ⟨l[j], List.getElem?_eq_getElem hjl⟩
            obtain ⟨c0, c1, c2, c3, c4⟩ := HP4.out j q hq
            have HQK := Lib.hid hq
            have HSTQ := Lib.hid fun W => HST.out W q (List.mem_of_getElem? hq)
            clear hq
            go_wp2_with fail
            refine (HA.out W4 q).mono ?_
            rintro e W5 ⟨rfl, hb⟩
            have HROW5 := Lib.hid (HROW4.out.keep hb)
            have HB5 := Lib.hid (HB4.out.trans (hb.mono HB4.out.size))
            have HP5 := Lib.hid (HP.out.beyond HB5.out)
            clear hb c0 c1 c2 c3 c4 HROW4 HB4 HP4
            dsimp only
            go_wp2_with fail
            refine (HSTQ.out W5).mono ?_
            rintro e Wx ⟨rfl, hw⟩; replace hw := hw.symm; subst hw
            dsimp only
            by_cases hkq : startW t q.at_ = k
            · have HSN : Hid (SameK (fun x : Ag => startW t x.at_) l i (j + 1) k) := Lib.hid (HSAME.out.more HQK.out hkq)
              have tk : (startW t q.at_ == k) = true := by simpa using hkq
              clear hkq
              go_wp2_with fail
              go_roundw
              case rel => exact ⟨j + 1, by omega, by omega, by go_num, HSN.out, HROW5.out, HB5.out⟩
              case measure => simp [intOf]; omega
            · have HNX : Hid (grpA t (l.drop i) = (joinA k ((l.drop i).take (j - i))).toList ++ grpA t (l.drop j)) := Lib.hid (grpA_at hij hj HSAME.out fun y hy => by rw [HQK.out] at hy; rw [← Option.some.inj hy]; exact hkq)
              have tk : (startW t q.at_ == k) = false := by simpa using hkq
              clear hkq HSAME HQK
              have hic : ¬ (cap = i) := by have := HCL.out; omega
              have hjc : (j : Int) ≤ (cap : Int) := by have := HCL.out; omega
              have hij2 : (i : Int) ≤ (j : Int) := by omega
              have hcall := HOF.out W5 k (.slice (some ⟨b, off + i * 5, none⟩) (j - i) (cap - i)) ((l.drop i).take (j - i)) (by have := HKR.out; omega) HKR.out.2 (ags_part HP5.out hj (cap - i)) (fun p hp => mem_part hp) (by rw [partl_len l hj]; omega)
              obtain ⟨G, hG⟩ : ∃ G, G = (l.drop i).take (j - i) := ⟨_, rfl⟩
              rw [← hG] at hcall HNX
              have HGE : Hid (G ≠ []) := Lib.hid (by rw [hG]; intro h0; have h1 := partl_len l (i := i) hj; rw [h0] at h1; simp at h1; omega)
              clear hG
              by_cases hjs : (joinA k G).isSome = true
              · obtain ⟨A0, hjo⟩ := Option.isSome_iff_exists.1 hjs
                have hjr : joinR k G = A0 := by unfold joinR; rw [hjo]; rfl
                rw [hjo] at HNX
                rw [hjr] at hcall
                clear hjo hjr
                obtain ⟨A, hA⟩ : ∃ A, A = A0 := ⟨_, rfl⟩
                rw [← hA] at hcall HNX
                rw [hjs] at hcall
                have HC := Lib.hid hcall
                clear hcall hA
                go_wp2_with fail
                refine (HC.out).mono ?_
                rintro e W8 ⟨rfl, hb⟩
                have HROW8 := Lib.hid (HROW5.out.keep hb)
                have HB8 := Lib.hid (HB5.out.trans (hb.mono HB5.out.size))
                clear hb HROW5 HB5 HP5 HC
                unfold agV
                go_upto_region 11 with fail
                refine wp_name fun W9 hW9 => ?_
                obtain ⟨M, hM⟩ : ∃ M, M = W8.heap.size := ⟨_, rfl⟩
                have hb9 : Below W8.heap.size W8 W9 := by rw [hW9.out]; exact (Below.refl _ _).alloc (Nat.le_refl _) _
                have HM9 : Hid (AgAt W9 M A) := Lib.hid (by rw [hW9.out, hM]; exact AgAt.new W8 A)
                have HROW9 := Lib.hid (HROW8.out.keep hb9)
                have HB9 := Lib.hid (HB8.out.trans (hb9.mono HB8.out.size))
                rw [← hM]
                clear hb9 hW9 hM HROW8 HB8
                obtain ⟨c0, c1, c2, c3, c4, -, -, -, -, -⟩ := HM9.out.cells
                have HNEW := Lib.hid (AgAt.new W9 A)
                have HRW := Lib.hid (HROW9.out.keep ((Below.refl W9.heap.size W9).alloc (Nat.le_refl _) (.cells #[.int .i64 A.at_, .int .i64 A.n, .int .i64 A.s, .int .i64 A.lo, .int .i64 A.hi] 55)))
                have HBW := Lib.hid (HB9.out.alloc HB9.out.size (.cells #[.int .i64 A.at_, .int .i64 A.n, .int .i64 A.s, .int .i64 A.lo, .int .i64 A.hi] 55))
                go_wp2_with (at_builtin; refine wpList_append_ag rfl (.tmp 67) (.tmp 69) rfl w.heap.size _ done rfl HRW.out W9.heap.size A rfl HNEW.out (by omega) HBW.out.size ?_; intro v10 W10 HROW10 hgrow; have HB10 : Hid (Below w.heap.size w W10) := Lib.hid (HBW.out.grown hgrow.out HBW.out.size (fun b hb => (HRW.out.lt b hb).1)); clear hgrow)
                have HRN : Hid (R = (done ++ [A]) ++ grpA t (l.drop j)) := Lib.hid (by rw [HRE2.out, HNX.out, List.append_assoc]; rfl)
                go_roundw
                case rel => exact ⟨j, done ++ [A], _, by omega, by rw [List.length_append]; simp; omega, rfl, rfl, HROW10.out, HRN.out, HB10.out⟩
                case measure => simp [intOf]; omega
              · have hjn : (joinA k G).isSome = false := by simpa using hjs
                have hjo : joinA k G = none := by simpa using hjs
                clear hjs
                rw [hjn] at hcall
                obtain ⟨A, hA⟩ : ∃ A, A = joinR k G := ⟨_, rfl⟩
                rw [← hA] at hcall
                have HC := Lib.hid hcall
                have HRN : Hid (R = done ++ grpA t (l.drop j)) := Lib.hid (by rw [HRE2.out, HNX.out, hjo]; rfl)
                clear hcall hA hjn hjo HNX
                go_wp2_with fail
                refine (HC.out).mono ?_
                rintro e W8 ⟨rfl, hb⟩
                have HROW8 := Lib.hid (HROW5.out.keep hb)
                have HB8 := Lib.hid (HB5.out.trans (hb.mono HB5.out.size))
                clear hb HROW5 HB5 HP5 HC
                unfold agV
                go_upto_region 11 with fail
                refine wp_name fun W9 hW9 => ?_
                have hb9 : Below W8.heap.size W8 W9 := by rw [hW9.out]; exact (Below.refl _ _).alloc (Nat.le_refl _) _
                have HROW9 := Lib.hid (HROW8.out.keep hb9)
                have HB9 := Lib.hid (HB8.out.trans (hb9.mono HB8.out.size))
                clear hb9 hW9 HROW8 HB8
                go_wp2_with fail
                go_roundw
                case rel => exact ⟨j, done, _, by omega, by omega, rfl, rfl, HROW9.out, HRN.out, HB9.out⟩
                case measure => simp [intOf]; omega
          · obtain rfl : j = l.length := by omega
            have HNX : Hid (grpA t (l.drop i) = (joinA k ((l.drop i).take (l.length - i))).toList ++ grpA t (l.drop l.length)) := Lib.hid (grpA_at hij hj HSAME.out fun y hy => by have := (List.getElem?_eq_some_iff.1 hy).1; omega)
            clear HSAME
            have hic : ¬ (cap = i) := by have := HCL.out; omega
            have hjc : (l.length : Int) ≤ (cap : Int) := by have := HCL.out; omega
            have hij2 : (i : Int) ≤ (l.length : Int) := by omega
            have hcall := HOF.out W4 k (.slice (some ⟨b, off + i * 5, none⟩) (l.length - i) (cap - i)) ((l.drop i).take (l.length - i)) (by have := HKR.out; omega) HKR.out.2 (ags_part HP4.out hj (cap - i)) (fun p hp => mem_part hp) (by rw [partl_len l hj]; omega)
            obtain ⟨G, hG⟩ : ∃ G, G = (l.drop i).take (l.length - i) := ⟨_, rfl⟩
            rw [← hG] at hcall HNX
            have HGE : Hid (G ≠ []) := Lib.hid (by rw [hG]; intro h0; have h1 := partl_len l (i := i) hj; rw [h0] at h1; simp at h1; omega)
            clear hG
            by_cases hjs : (joinA k G).isSome = true
            · obtain ⟨A0, hjo⟩ := Option.isSome_iff_exists.1 hjs
              have hjr : joinR k G = A0 := by unfold joinR; rw [hjo]; rfl
              rw [hjo] at HNX
              rw [hjr] at hcall
              clear hjo hjr
              obtain ⟨A, hA⟩ : ∃ A, A = A0 := ⟨_, rfl⟩
              rw [← hA] at hcall HNX
              rw [hjs] at hcall
              have HC := Lib.hid hcall
              clear hcall hA
              go_wp2_with fail
              refine (HC.out).mono ?_
              rintro e W8 ⟨rfl, hb⟩
              have HROW8 := Lib.hid (HROW4.out.keep hb)
              have HB8 := Lib.hid (HB4.out.trans (hb.mono HB4.out.size))
              clear hb HROW4 HB4 HP4 HC
              unfold agV
              go_upto_region 11 with fail
              refine wp_name fun W9 hW9 => ?_
              obtain ⟨M, hM⟩ : ∃ M, M = W8.heap.size := ⟨_, rfl⟩
              have hb9 : Below W8.heap.size W8 W9 := by rw [hW9.out]; exact (Below.refl _ _).alloc (Nat.le_refl _) _
              have HM9 : Hid (AgAt W9 M A) := Lib.hid (by rw [hW9.out, hM]; exact AgAt.new W8 A)
              have HROW9 := Lib.hid (HROW8.out.keep hb9)
              have HB9 := Lib.hid (HB8.out.trans (hb9.mono HB8.out.size))
              rw [← hM]
              clear hb9 hW9 hM HROW8 HB8
              obtain ⟨c0, c1, c2, c3, c4, -, -, -, -, -⟩ := HM9.out.cells
              have HNEW := Lib.hid (AgAt.new W9 A)
              have HRW := Lib.hid (HROW9.out.keep ((Below.refl W9.heap.size W9).alloc (Nat.le_refl _) (.cells #[.int .i64 A.at_, .int .i64 A.n, .int .i64 A.s, .int .i64 A.lo, .int .i64 A.hi] 55)))
              have HBW := Lib.hid (HB9.out.alloc HB9.out.size (.cells #[.int .i64 A.at_, .int .i64 A.n, .int .i64 A.s, .int .i64 A.lo, .int .i64 A.hi] 55))
              go_wp2_with (at_builtin; refine wpList_append_ag rfl (.tmp 67) (.tmp 69) rfl w.heap.size _ done rfl HRW.out W9.heap.size A rfl HNEW.out (by omega) HBW.out.size ?_; intro v10 W10 HROW10 hgrow; have HB10 : Hid (Below w.heap.size w W10) := Lib.hid (HBW.out.grown hgrow.out HBW.out.size (fun b hb => (HRW.out.lt b hb).1)); clear hgrow)
              have HRN : Hid (R = (done ++ [A]) ++ grpA t (l.drop l.length)) := Lib.hid (by rw [HRE2.out, HNX.out, List.append_assoc]; rfl)
              go_roundw
              case rel => exact ⟨l.length, done ++ [A], _, by omega, by rw [List.length_append]; simp; omega, rfl, rfl, HROW10.out, HRN.out, HB10.out⟩
              case measure => simp [intOf]; omega
            · have hjn : (joinA k G).isSome = false := by simpa using hjs
              have hjo : joinA k G = none := by simpa using hjs
              clear hjs
              rw [hjn] at hcall
              obtain ⟨A, hA⟩ : ∃ A, A = joinR k G := ⟨_, rfl⟩
              rw [← hA] at hcall
              have HC := Lib.hid hcall
              have HRN : Hid (R = done ++ grpA t (l.drop l.length)) := Lib.hid (by rw [HRE2.out, HNX.out, hjo]; rfl)
              clear hcall hA hjn hjo HNX
              go_wp2_with fail
              refine (HC.out).mono ?_
              rintro e W8 ⟨rfl, hb⟩
              have HROW8 := Lib.hid (HROW4.out.keep hb)
              have HB8 := Lib.hid (HB4.out.trans (hb.mono HB4.out.size))
              clear hb HROW4 HB4 HP4 HC
              unfold agV
              go_upto_region 11 with fail
              refine wp_name fun W9 hW9 => ?_
              have hb9 : Below W8.heap.size W8 W9 := by rw [hW9.out]; exact (Below.refl _ _).alloc (Nat.le_refl _) _
              have HROW9 := Lib.hid (HROW8.out.keep hb9)
              have HB9 := Lib.hid (HB8.out.trans (hb9.mono HB8.out.size))
              clear hb9 hW9 HROW8 HB8
              go_wp2_with fail
              go_roundw
              case rel => exact ⟨l.length, done, _, by omega, by omega, rfl, rfl, HROW9.out, HRN.out, HB9.out⟩
              case measure => simp [intOf]; omega
      · obtain rfl : i = l.length := by omega
        have HEND : Hid (R = done) := Lib.hid (by rw [HRE2.out, List.drop_of_length_le (Nat.le_refl _)]; exact List.append_nil _)
        go_wp2_with fail
        go_ret
        exact ⟨_, rfl, by rw [HEND.out]; exact HROW2.out, HB2.out⟩
end Go.Proofs.YthbdchleppbidaaGreat
/- Package roll: Points and Aggs. -/
namespace Go.Proofs.YthbdchleppbidaaGreat
open Go.RowKit

set_option maxHeartbeats 4000000 in
theorem ropoints_any {w : World} {t : Int} (ht0 : -9223372036854775808 ≤ t) (ht1 : t ≤ 9223372036854775807) {v : Value} {l : List Pt} (hv : PLies w v l) (hfi : Fits v) (hf : ∀ p ∈ l, p.fits) (hl : l.length ≤ 1000000) :
    Calls Tryz.prog 58 #[.int .i64 t, v] w fun e w' => ∃ v', e = .returned v' ∧ AgRow w.heap.size w' v' (pointsR t l) ∧ Below w.heap.size w w' := by
  have H := Lib.hid (rogrpP_any ht0 ht1 hv hfi hf hl)
  obtain ⟨R, hR⟩ : ∃ R, R = pointsR t l := ⟨_, rfl⟩
  rw [← hR] at H ⊢
  clear hR hv hfi hf
  go_enter Tryz.func58, Tryz.ntmps58
  go_wp2_with fail
  refine (H.out).mono ?_
  rintro e W2 ⟨v', rfl, hr, hb⟩
  have HR := Lib.hid hr
  have HB := Lib.hid hb
  clear hr hb
  go_wp2
  go_ret
  exact ⟨_, rfl, HR.out, HB.out⟩
set_option maxHeartbeats 4000000 in
theorem roaggs_any {w : World} {t : Int} (ht0 : -9223372036854775808 ≤ t) (ht1 : t ≤ 9223372036854775807) {v : Value} {l : List Ag} (hv : ALies w v l) (hfi : Fits v) (hf : ∀ p ∈ l, p.fits) (hl : l.length ≤ 1000000) :
    Calls Tryz.prog 60 #[.int .i64 t, v] w fun e w' => ∃ v', e = .returned v' ∧ AgRow w.heap.size w' v' (aggsR t l) ∧ Below w.heap.size w w' := by
  have H := Lib.hid (rogrpA_any ht0 ht1 hv hfi hf hl)
  obtain ⟨R, hR⟩ : ∃ R, R = aggsR t l := ⟨_, rfl⟩
  rw [← hR] at H ⊢
  clear hR hv hfi hf
  go_enter Tryz.func60, Tryz.ntmps60
  go_wp2_with fail
  refine (H.out).mono ?_
  rintro e W2 ⟨v', rfl, hr, hb⟩
  have HR := Lib.hid hr
  have HB := Lib.hid hb
  clear hr hb
  go_wp2
  go_ret
  exact ⟨_, rfl, HR.out, HB.out⟩
end Go.Proofs.YthbdchleppbidaaGreat
