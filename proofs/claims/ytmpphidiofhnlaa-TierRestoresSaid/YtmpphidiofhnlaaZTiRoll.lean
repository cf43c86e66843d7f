/- Package tier: Roll, of a stock that is there. -/
import Derived.Test.YtmpphidiofhnlaaZTiRoll0
import Derived.Test.YtmpphidiofhnlaaZTiAdvM
import Derived.Test.YtmpphidiofhnlaaZTiAdvL
import Derived.Deep.RegionHeld3
namespace Go.Proofs.Ytmpphidiofhnlaa
open Go.RowKit

theorem adv_mid_eq {s : Stk} {now : Int} (h0 : 0 ≤ now) : (⟨s.raw, s.mid ++ ((midG s now).map fun e => ofA e.1 e.2).take (256 - s.mid.length), s.long, advE s.mid.length ((midG s now).map fun e => ofA e.1 e.2) (max s.mm (startW 1 now)), s.ml⟩ : Stk) = rollM s now := by
  have e1 : max s.mm (startW 1 now) = upTo 300 s.mm now := by rw [start_mid, if_pos h0]; rfl
  have e2 : advE s.mid.length ((midG s now).map fun e => ofA e.1 e.2) (upTo 300 s.mm now) = (rollTo (midG s now) (256 - s.mid.length) (upTo 300 s.mm now)).2 := by
    unfold advE rollTo
    rw [List.getElem?_map]
    simp only
    cases (midG s now)[256 - s.mid.length]? with
    | none => rfl
    | some e => exact ofA_at _ _
  rw [e1, e2, ← List.map_take]
  rfl
/-- each of Long's groups comes to something -/
theorem long_some {s : Stk} (h : GoodT s) {c : Int} : ∀ e ∈ longC s c, ∃ a, joinA e.1 e.2 = some a ∧ a.at_ = e.1 := fun e he => by
  obtain ⟨-, g2⟩ := longC_facts h (c := c)
  obtain ⟨-, -, hne, hm⟩ := g2 e he
  obtain ⟨a, ha⟩ := joinA_some (k := e.1) hne (fun t ht => (right_n (h.mid.right t (hm t ht))).1)
  refine ⟨a, ha, ?_⟩
  rw [joinA_eq] at ha
  cases hj : joinedA e.2 with
  | none => rw [hj] at ha; cases ha
  | some c => rw [hj] at ha; rw [← Option.some.inj ha]
theorem fmap_all {α β : Type} [Inhabited β] {f : α → Option β} {l : List α} (h : ∀ e ∈ l, ∃ a, f e = some a) : l.filterMap f = l.map fun e => (f e).getD default := by
  induction l with
  | nil => rfl
  | cons x r ih =>
    obtain ⟨a, ha⟩ := h x (by simp)
    rw [List.filterMap_cons, ha, List.map_cons, ha, ih fun e he => h e (List.mem_cons_of_mem _ he)]; rfl
theorem adv_long_eq {s : Stk} (h : GoodT s) {c : Int} (h0 : 0 ≤ c) : (⟨s.raw, s.mid, s.long ++ ((longC s c).filterMap fun e => joinA e.1 e.2).take (256 - s.long.length), s.mm, advE s.long.length ((longC s c).filterMap fun e => joinA e.1 e.2) (max s.ml (startW 2 c))⟩ : Stk) = rollC s c := by
  have e1 : max s.ml (startW 2 c) = upTo 3600 s.ml c := by rw [start_long, if_pos h0]; rfl
  have hs := long_some h (c := c)
  have ef := fmap_all (f := fun e : Int × List Ag => joinA e.1 e.2) (fun e he => (hs e he).imp fun a ha => ha.1)
  have eg := fmap_all (f := fun e : Int × List Ag => joinA e.1 e.2) (l := (longC s c).take (256 - s.long.length)) (fun e he => (hs e (List.mem_of_mem_take he)).imp fun a ha => ha.1)
  have e2 : advE s.long.length ((longC s c).filterMap fun e => joinA e.1 e.2) (upTo 3600 s.ml c) = (rollTo (longC s c) (256 - s.long.length) (upTo 3600 s.ml c)).2 := by
    unfold advE rollTo
    rw [ef, List.getElem?_map]
    simp only
    cases hk : (longC s c)[256 - s.long.length]? with
    | none => rfl
    | some e =>
      obtain ⟨a, ha, hat⟩ := hs e (List.mem_of_getElem? hk)
      simp only [Option.map_some, ha, Option.getD_some, hat]
  have e3 : ((longC s c).filterMap fun e => joinA e.1 e.2).take (256 - s.long.length) = ((longC s c).take (256 - s.long.length)).filterMap fun e => joinA e.1 e.2 := by
    rw [ef, eg, List.map_take]
  rw [e1, e2, e3]
  rfl
theorem long_len {s : Stk} (h : GoodT s) (c : Int) : ((longC s c).filterMap fun e => joinA e.1 e.2).length = (longC s c).length := by
  rw [fmap_all (f := fun e : Int × List Ag => joinA e.1 e.2) (fun e he => (long_some h e he).imp fun a ha => ha.1), List.length_map]
theorem midG_few {s : Stk} (h : GoodT s) (now : Int) : (midG s now).length ≤ 256 := by
  have h1 : (midG s now).length ≤ (s.raw.filter fun p => decide (s.mm ≤ p.a) && decide (p.a < upTo 300 s.mm now)).length := runs_len _ _
  have h2 : (s.raw.filter fun p => decide (s.mm ≤ p.a) && decide (p.a < upTo 300 s.mm now)).length ≤ s.raw.length := List.length_filter_le _ _
  have := h.plen
  omega
theorem longC_few {s : Stk} (h : GoodT s) (c : Int) : (longC s c).length ≤ 256 := by
  have h1 : (longC s c).length ≤ (s.mid.filter fun t => decide (s.ml ≤ t.at_) && decide (t.at_ < upTo 3600 s.ml c)).length := runs_len _ _
  have h2 : (s.mid.filter fun t => decide (s.ml ≤ t.at_) && decide (t.at_ < upTo 3600 s.ml c)).length ≤ s.mid.length := List.length_filter_le _ _
  have := h.mid.len
  omega
/-- advance of Mid, as Roll asks for it -/
theorem tiadvM_any {w : World} {B p sp : Nat} {v vm vl : Value} {s : Stk} (h : TSit w p sp v vm vl s) (hc : CapAt w B p) {now : Int} (h0 : 0 ≤ now) (h1 : now ≤ 1099511627776) :
    Calls Try.prog 38 #[.pointer (some ⟨p, 0, none⟩), .int .i64 1, .int .i64 now, .func (.func 39) #[] #[.pointer (some ⟨B, 0, none⟩)]] w fun e w' => e = .returned (.tuple #[.int .i64 (((rollM s now).mid.length : Int) - s.mid.length), .bool (decide (256 < s.mid.length + (midG s now).length))]) ∧ Turned w w' p sp v vm vl (rollM s now) := by
  have hA := adv_mid_eq (s := s) h0
  have hl := h.good.mid.len
  have hfew := midG_few h.good now
  have H := tiadv_mid (B := B) h (tu := now) (by omega) (by omega) (L := (midG s now).map fun e => ofA e.1 e.2) (by rw [List.length_map]; omega) (fun V hb => by
    have h1 := tiroll1_any (h.keep hb) (hc.keep hb) s.mm (max s.mm (startW 1 now))
    have e1 : startW 1 now = now - now % 300 := by rw [start_mid, if_pos h0]
    rw [e1] at h1 ⊢
    rwa [mid_groups h.good now] at h1) (by rw [hA]; exact rollM_good h.good h0 h1)
  rw [hA] at H
  refine H.mono fun e w' hh => ⟨?_, hh.2⟩
  rw [hh.1, ← hA]
  have e1 : (((((midG s now).map fun e => ofA e.1 e.2).take (256 - s.mid.length)).length : Nat) : Int) = ((s.mid ++ ((midG s now).map fun e => ofA e.1 e.2).take (256 - s.mid.length)).length : Int) - s.mid.length := by rw [List.length_append]; omega
  rw [e1, List.length_map]
  have e2 : decide (256 - s.mid.length < (midG s now).length) = decide (256 < s.mid.length + (midG s now).length) := by
    rw [Bool.eq_iff_iff]; simp only [decide_eq_true_eq]; omega
  rw [e2]
theorem tiadvL_any {w : World} {B p sp : Nat} {v vm vl : Value} {s : Stk} (h : TSit w p sp v vm vl s) (hc : CapAt w B p) {c : Int} (h0 : 0 ≤ c) (h1 : c ≤ s.mm) :
    Calls Try.prog 38 #[.pointer (some ⟨p, 0, none⟩), .int .i64 2, .int .i64 c, .func (.func 41) #[] #[.pointer (some ⟨B, 0, none⟩)]] w fun e w' => e = .returned (.tuple #[.int .i64 (((rollC s c).long.length : Int) - s.long.length), .bool (decide (256 < s.long.length + (longC s c).length))]) ∧ Turned w w' p sp v vm vl (rollC s c) := by
  have hA := adv_long_eq h.good h0
  have hl := h.good.long.len
  have hfew := longC_few h.good c
  have hmm := h.good.mm
  have H := tiadv_long (B := B) h (tu := c) (by omega) (by omega) (L := (longC s c).filterMap fun e => joinA e.1 e.2) (by rw [long_len h.good]; omega) (fun V hb => by
    have h1 := tiroll2_any (h.keep hb) (hc.keep hb) s.ml (max s.ml (startW 2 c))
    have e1 : startW 2 c = c - c % 3600 := by rw [start_long, if_pos h0]
    rw [e1] at h1 ⊢
    rwa [long_groups h.good c] at h1) (by rw [hA]; exact rollC_good h.good h1)
  rw [hA] at H
  refine H.mono fun e w' hh => ⟨?_, hh.2⟩
  rw [hh.1, ← hA]
  have e1 : (((((longC s c).filterMap fun e => joinA e.1 e.2).take (256 - s.long.length)).length : Nat) : Int) = ((s.long ++ ((longC s c).filterMap fun e => joinA e.1 e.2).take (256 - s.long.length)).length : Int) - s.long.length := by rw [List.length_append]; omega
  rw [e1, long_len h.good]
  have e2 : decide (256 - s.long.length < (longC s c).length) = decide (256 < s.long.length + (longC s c).length) := by
    rw [Bool.eq_iff_iff]; simp only [decide_eq_true_eq]; omega
  rw [e2]
/-- what Roll holds is still there -/
theorem turned_held {w w' : World} {B p sp : Nat} {v vm vl : Value} {s s' : Stk} {MM : Int} (h : TSit w p sp v vm vl s) (hc : CapAt w B p) (ht : Turned w.drew w' p sp v vm vl s') (hm : s'.mm = MM) : w'.cell? ⟨B, 0, none⟩ = some (.pointer (some ⟨p, 0, none⟩)) ∧ w'.cell? ⟨p, 5, none⟩ = some (.int .i64 MM) := by
  obtain ⟨v3, vm3, vl3, x1, x2, x3⟩ := ht
  have hd := hc.keep ((Below.refl _ w).drew)
  exact ⟨(hd.only x3 (h.drew.nB hd)).cell, by rw [← hm]; exact x1.cells.c5⟩
set_option maxHeartbeats 8000000 in
set_option maxRecDepth 100000 in
theorem tiroll_any {w : World} {p sp : Nat} {v vm vl : Value} {s : Stk} (h : TSit w p sp v vm vl s) {now : Int} (h0 : -9223372036854775808 ≤ now) (h1 : now ≤ 9223372036854775807) :
    Calls Try.prog 15 #[.pointer (some ⟨p, 0, none⟩), .int .i64 now] w fun e w' => e = .returned (.tuple #[.int .i64 (rollR s now).1, .int .i64 (rollR s now).2]) ∧ Turned w w' p sp v vm vl (rollT s now) := by
  have HT := Lib.hid h
  by_cases hin : 0 ≤ now ∧ now ≤ 1099511627776
  · obtain ⟨g0, g1⟩ := hin
    have t0 : decide (now < 0) = false := decide_eq_false (by omega)
    have t1 : decide (1099511627776 < now) = false := decide_eq_false (by omega)
    have HRE : Hid (rollT s now = rollS s now) := Lib.hid (by unfold rollT; rw [if_pos ⟨g0, g1⟩])
    have HRR : Hid (rollR s now = (((rollS s now).mid.length : Int) - s.mid.length + ((rollS s now).long.length - s.long.length), if 256 < s.mid.length + (midG s now).length ∨ 256 < s.long.length + (longR s now).length then 6 else 0)) := Lib.hid (by unfold rollR; rw [if_pos ⟨g0, g1⟩])
    have HAM : Hid (∀ W B, Below w.heap.size w W → CapAt W B p → Calls Try.prog 38 #[.pointer (some ⟨p, 0, none⟩), .int .i64 1, .int .i64 now, .func (.func 39) #[] #[.pointer (some ⟨B, 0, none⟩)]] W fun e w' => e = .returned (.tuple #[.int .i64 (((rollM s now).mid.length : Int) - s.mid.length), .bool (decide (256 < s.mid.length + (midG s now).length))]) ∧ Turned W w' p sp v vm vl (rollM s now)) := Lib.hid fun W B hb hc => tiadvM_any (h.keep hb) hc g0 g1
    have HGM := Lib.hid (rollM_good h.good g0 g1)
    have hl1 := (rollM_good h.good g0 g1).mid.len
    obtain ⟨s1, hs1⟩ : ∃ s1, s1 = rollM s now := ⟨_, rfl⟩
    rw [← hs1] at HAM HGM hl1
    have HS1 := Lib.hid hs1
    obtain ⟨c, hcm⟩ : ∃ c, c = min now s1.mm := ⟨_, rfl⟩
    have HCM := Lib.hid hcm
    have hmc : min now s1.mm = c := hcm.symm
    have HC0 : Hid (0 ≤ c ∧ c ≤ s1.mm) := Lib.hid (by have := HGM.out.mm.1; omega)
    obtain ⟨b1, hbb⟩ : ∃ b1, b1 = decide (256 < s.mid.length + (midG s now).length) := ⟨_, rfl⟩
    obtain ⟨k1, hkk⟩ : ∃ k1 : Int, k1 = (s1.mid.length : Int) - s.mid.length := ⟨_, rfl⟩
    rw [← hbb, ← hkk] at HAM
    have HBB := Lib.hid hbb
    have HKK := Lib.hid hkk
    have hkr : -256 ≤ k1 ∧ k1 ≤ 256 := by have := h.good.mid.len; omega
    clear h hcm hs1 hbb hkk hl1
    go_enter Try.func15, Try.ntmps15
    go_upto_region 1 with fail
    refine wp_name fun W1 hW1 => ?_
    obtain ⟨B, hB⟩ : ∃ B, B = w.heap.size := ⟨_, rfl⟩
    have hb1 : Below w.heap.size w W1 := by rw [hW1.out]; exact (Below.refl _ _).alloc (Nat.le_refl _) _
    have hcap : CapAt W1 B p := by rw [hW1.out, hB]; exact CapAt.new w p
    have HCA := Lib.hid hcap
    have HB1 := Lib.hid hb1
    have HA1 := Lib.hid (HAM.out W1 B hb1 hcap)
    rw [← hB]
    clear hW1 hb1 hB HAM hcap
    have c0 := HCA.out.cell
    go_wp2_with fail
    refine HA1.out.mono ?_
    rintro e W2 ⟨rfl, ht2⟩
    obtain ⟨v', vm', vl', k1', k2, k3⟩ := ht2
    have HT2 := Lib.hid k1'
    have HK2 := Lib.hid k2
    have HK3 := Lib.hid k3
    have hcap2 : CapAt W2 B p := HCA.out.only k3 ((HT.out.keep HB1.out).nB HCA.out)
    have HCA2 := Lib.hid hcap2
    clear k1' k2 k3 hcap2 c0 HA1
    dsimp only
    have HAL : Hid (Calls Try.prog 38 #[.pointer (some ⟨p, 0, none⟩), .int .i64 2, .int .i64 c, .func (.func 41) #[] #[.pointer (some ⟨B, 0, none⟩)]] W2.drew fun e w' => e = .returned (.tuple #[.int .i64 (((rollC s1 c).long.length : Int) - s1.long.length), .bool (decide (256 < s1.long.length + (longC s1 c).length))]) ∧ Turned W2.drew w' p sp v' vm' vl' (rollC s1 c)) := Lib.hid (tiadvL_any HT2.out.drew (HCA2.out.keep ((Below.refl _ W2).drew)) HC0.out.1 HC0.out.2)
    have hl2 := (rollC_good HGM.out HC0.out.2).long.len
    have hl3 := HGM.out.long.len
    obtain ⟨s2, hs2⟩ : ∃ s2, s2 = rollC s1 c := ⟨_, rfl⟩
    have HS2 := Lib.hid hs2
    have HMM2 : Hid (s2.mm = s1.mm) := Lib.hid (by rw [hs2]; rfl)
    obtain ⟨b2, hbb2⟩ : ∃ b2, b2 = decide (256 < s1.long.length + (longC s1 c).length) := ⟨_, rfl⟩
    obtain ⟨k2, hkk2⟩ : ∃ k2 : Int, k2 = (s2.long.length : Int) - s1.long.length := ⟨_, rfl⟩
    rw [← hs2] at HAL hl2
    rw [← hbb2, ← hkk2] at HAL
    have HBB2 := Lib.hid hbb2
    have HKK2 := Lib.hid hkk2
    have hkr2 : -256 ≤ k2 ∧ k2 ≤ 256 := by omega
    have hw : IntKind.i64.wrap (k1 + k2) = k1 + k2 := by rw [IntKind.wrap_i64]; omega
    obtain ⟨-, -, -, -, -, c5, -⟩ := HT2.out.cells
    obtain ⟨MM, hMM⟩ : ∃ MM, MM = s1.mm := ⟨_, rfl⟩
    have HMM := Lib.hid hMM
    rw [← hMM] at c5 hmc
    have HC : Hid (W2.cell? ⟨B, 0, none⟩ = some (.pointer (some ⟨p, 0, none⟩)) ∧ W2.cell? ⟨p, 5, none⟩ = some (.int .i64 MM)) := Lib.hid ⟨HCA2.out.cell, c5⟩
    clear hs2 hbb2 hkk2 hl2 hl3 c5 hMM
    go_upto_region 6 with fail
    go_region_held3 (fun w' => w'.cell? ⟨B, 0, none⟩ = some (.pointer (some ⟨p, 0, none⟩)) ∧ w'.cell? ⟨p, 5, none⟩ = some (.int .i64 MM)) (first | exact HC.out | exact HC3.out) ((go_at_call 38; refine (HAL.out).mono ?_; rintro e W3 ⟨rfl, ht3⟩; have HTU3 := Lib.hid ht3; have HC3 : Hid (W3.cell? ⟨B, 0, none⟩ = some (.pointer (some ⟨p, 0, none⟩)) ∧ W3.cell? ⟨p, 5, none⟩ = some (.int .i64 MM)) := Lib.hid (turned_held HT2.out HCA2.out ht3 (HMM2.out.trans HMM.out.symm)); clear ht3))
    all_goals
      have HFIN : Hid (Turned w W3 p sp v vm vl (rollT s now)) := Lib.hid (by
        have e : rollT s now = s2 := by rw [HRE.out, HS2.out, HCM.out, HS1.out]; rfl
        rw [e]
        exact Turned.from HB1.out (Turned.then HT2.out HK2.out HK3.out (Turned.from (Below.drew (Below.refl _ W2)) HTU3.out)))
      have HNUM : Hid ((rollR s now).1 = k1 + k2 ∧ (rollR s now).2 = if (b1 || b2) = true then 6 else 0) := Lib.hid (by
        have e1 : rollS s now = s2 := by rw [HS2.out, HCM.out, HS1.out]; rfl
        have e2 : s2.mid = s1.mid := by rw [HS2.out]; rfl
        have e3 : s1.long = s.long := by rw [HS1.out]; rfl
        have e4 : longR s now = longC s1 c := by rw [HCM.out, HS1.out]; rfl
        rw [HRR.out, e1, e2, e4]
        refine ⟨by simp only; rw [HKK.out, HKK2.out, e3], ?_⟩
        simp only
        rw [HBB.out, HBB2.out, e3]
        simp only [Bool.or_eq_true, decide_eq_true_eq])
      clear HC HC3 HAL
      cases b1 with
      | true =>
        go_wp2_with fail
        go_ret2
        exact ⟨by rw [HNUM.out.1, HNUM.out.2]; rfl, HFIN.out⟩
      | false =>
        cases b2 with
        | true =>
          go_wp2_with fail
          go_ret2
          exact ⟨by rw [HNUM.out.1, HNUM.out.2]; rfl, HFIN.out⟩
        | false =>
          go_wp2_with fail
          go_ret2
          exact ⟨by rw [HNUM.out.1, HNUM.out.2]; rfl, HFIN.out⟩
  · have HRE : Hid (rollT s now = s ∧ rollR s now = (0, 3)) := Lib.hid ⟨by unfold rollT; rw [if_neg hin], by unfold rollR; rw [if_neg hin]⟩
    clear h
    by_cases hn : now < 0
    · have t0 : decide (now < 0) = true := decide_eq_true hn
      clear hin hn
      go_enter Try.func15, Try.ntmps15
      go_wp2_with fail
      go_ret2
      exact ⟨by rw [HRE.out.2]; rfl, by rw [HRE.out.1]; exact Turned.same HT.out ((Below.refl _ _).alloc (Nat.le_refl _) _)⟩
    · have t0 : decide (now < 0) = false := decide_eq_false hn
      have t1 : decide (1099511627776 < now) = true := decide_eq_true (by omega)
      clear hin hn
      go_enter Try.func15, Try.ntmps15
      go_wp2_with fail
      go_ret2
      exact ⟨by rw [HRE.out.2]; rfl, by rw [HRE.out.1]; exact Turned.same HT.out ((Below.refl _ _).alloc (Nat.le_refl _) _)⟩
end Go.Proofs.Ytmpphidiofhnlaa
