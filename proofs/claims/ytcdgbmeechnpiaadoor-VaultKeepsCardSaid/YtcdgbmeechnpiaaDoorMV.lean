/- VaAt, VaWipe, VaLay, VaNext, VaCalls, VaSeal, VaCur, VaFmt, VaOpen: laid into one. -/
import Derived.Test.YtcdgbmeechnpiaaDoorMJ
import Derived.Test.YtcdgbmeechnpiaaDoorMD
import Derived.Deep.QuietTactic
import Derived.BigQuiet
import Derived.Deep.RegionHeld3
import Derived.Test.YtcdgbmeechnpiaaDoorMK
import Derived.Test.YtcdgbmeechnpiaaDoorMS
import Derived.Stop.RegionWithIn
/- A vault as it lies; its device's halves. -/
namespace Go.Proofs.YtcdgbmeechnpiaaDoor
open Go.RowKit

/-- four results told -/
theorem ret_four {fn : Func} {a b c e : Tmp} (h : fn.results = #[.tmp a, .tmp b, .tmp c, .tmp e]) (l : Array Value) (P : Program) (w : World) : (results fn l).run P w = .ok (.tuple #[l.getD a undef, l.getD b undef, l.getD c undef, l.getD e undef]) w := by
  simp only [results, h]
  simp [Array.mapM_eq_foldlM]
/-- its cells: the device, the current half, its turn, the journal, whether something went amiss -/
def vcells (P h t : Nat) (j : Option Nat) (am : Bool) : List Value := [.pointer (some ⟨P, 0, none⟩), .int .i64 (h : Int), .int .u32 (t : Int), .pointer (j.map fun J => ⟨J, 0, none⟩), .bool am]
/-- a vault at V -/
def VAt (w : World) (V P h t : Nat) (j : Option Nat) (am : Bool) : Prop := Arr w V 64 (vcells P h t j am)
section
variable {w : World} {V P h t : Nat} {j : Option Nat} {am : Bool}
theorem VAt.cells (H : VAt w V P h t j am) : w.cell? ⟨V, 0, none⟩ = some (.pointer (some ⟨P, 0, none⟩)) ∧ w.cell? ⟨V, 1, none⟩ = some (.int .i64 (h : Int)) ∧ w.cell? ⟨V, 2, none⟩ = some (.int .u32 (t : Int)) ∧ w.cell? ⟨V, 3, none⟩ = some (.pointer (j.map fun J => ⟨J, 0, none⟩)) ∧ w.cell? ⟨V, 4, none⟩ = some (.bool am) :=
  ⟨Arr.cell H rfl, Arr.cell H rfl, Arr.cell H rfl, Arr.cell H rfl, Arr.cell H rfl⟩
theorem VAt.only {S : Nat → Prop} {w' : World} (H : VAt w V P h t j am) (ho : Only S w w') (hS : ¬ S V) : VAt w' V P h t j am := Arr.only H ho hS
theorem VAt.on {w' : World} (H : VAt w V P h t j am) (hb : Below w.heap.size w w') : VAt w' V P h t j am := H.only (only_beyond (S := fun _ => False) hb) (fun e => e)
theorem VAt.lt (H : VAt w V P h t j am) : V < w.heap.size := Arr.lt H
end
set_option maxHeartbeats 2000000 in
theorem vasize_any {w : World} {B P : Nat} {d : Dev} (h : DevAt w B P d) : Calls Tryd.prog 23 #[.pointer (some ⟨P, 0, none⟩)] w fun e w' => e = .returned (.int .i64 ((d.lies.length / 2 : Nat) : Int)) ∧ w' = w := by
  have HD := Lib.hid h
  have hN : d.lies.length ≤ 8192 := h.ok.size
  obtain ⟨n, hn⟩ : ∃ n, n = d.lies.length := ⟨_, rfl⟩
  have HN := Lib.hid hn
  rw [← hn] at hN ⊢
  have e1 : IntKind.i64.wrap ((n : Int) / 2) = ((n / 2 : Nat) : Int) := by rw [IntKind.wrap_i64]; omega
  clear h hn
  go_enter Tryd.func23, Tryd.ntmps23
  go_wp2_with (go_at_call 21; refine (len_any HD.out).mono ?_; rw [← HN.out]; rintro e w1 ⟨rfl, rfl⟩)
  go_ret
  exact ⟨rfl, rfl⟩
set_option maxHeartbeats 2000000 in
theorem vastart_any {w : World} {B P k : Nat} {d : Dev} (h : DevAt w B P d) (hk : k ≤ 1) : Calls Tryd.prog 39 #[.pointer (some ⟨P, 0, none⟩), .int .i64 (k : Int)] w fun e w' => e = .returned (.int .i64 ((k * (d.lies.length / 2) : Nat) : Int)) ∧ w' = w := by
  have HD := Lib.hid h
  have hN : d.lies.length ≤ 8192 := h.ok.size
  obtain ⟨n, hn⟩ : ∃ n, n = d.lies.length / 2 := ⟨_, rfl⟩
  have HN := Lib.hid hn
  have hn2 : n ≤ 4096 := by omega
  rw [← hn]
  have e1 : IntKind.i64.wrap ((k : Int) * (n : Int)) = ((k * n : Nat) : Int) := by
    have : k = 0 ∨ k = 1 := by omega
    rcases this with rfl | rfl <;> (rw [IntKind.wrap_i64]; omega)
  clear h hn
  go_enter Tryd.func39, Tryd.ntmps39
  go_wp2_with (go_at_call 23; refine (vasize_any HD.out).mono ?_; rw [← HN.out]; rintro e w1 ⟨rfl, rfl⟩)
  go_ret
  exact ⟨rfl, rfl⟩
set_option maxHeartbeats 2000000 in
theorem isnot_any {w : World} {y : Nat} : Calls Tryd.prog 64 #[.int .u8 (y : Int)] w fun e w' => e = .returned (.bool (decide (y ≠ 0))) ∧ w' = w := by
  go_enter Tryd.func64, Tryd.ntmps64
  go_wp2
  go_ret
  refine ⟨?_, rfl⟩
  by_cases hy : y = 0
  · subst hy; rfl
  · have e1 : ((y : Int) != 0) = true := by simp [hy]
    simp [hy, e1]
/-- the first place at which it isn't 0; none: -1 -/
def firstN (bs : List Nat) : Int := if zeroL bs = true then -1 else ((bs.findIdx (fun x => decide (x ≠ 0)) : Nat) : Int)
set_option maxHeartbeats 4000000 in
theorem indexNot_any {w : World} {v : Value} {bs : List Nat} (h : Lies w v bs) (hb : ∀ x ∈ bs, x < 256) (hbig : bs.length ≤ 1000000000) :
    Calls Tryd.prog 73 #[v, .func (.func 64) #[] #[]] w fun e w' => (∃ z : Int, e = .returned (.int .i64 z) ∧ decide (0 ≤ z) = !zeroL bs) ∧ w = w' := by
  obtain ⟨a, c, rfl, hform⟩ := lies_form h
  obtain ⟨n, hn⟩ : ∃ n, n = bs.length := ⟨_, rfl⟩
  have HF := Lib.hid hform
  have HB := Lib.hid hb
  have HN := Lib.hid hn
  rw [← hn] at hbig ⊢
  clear h hform hb hn
  go_enter Tryd.func73, Tryd.ntmps73
  go_wp2
  go_loop [8] (fun i => ∃ q : Nat, q ≤ n ∧ i = .int .i64 q ∧ ∀ j, j < q → bs.getD j 0 = 0) (fun i => n - (intOf i).toNat)
  case atStart => exact ⟨0, by omega, rfl, fun j hj => by omega⟩
  case round =>
    obtain ⟨q, hq, rfl, hz⟩ := hrel
    have HZ := Lib.hid hz
    clear hz
    by_cases hlt : q < n
    · have hne : bs ≠ [] := fun e => by have := HN.out; rw [e] at this; simp at this; omega
      obtain ⟨b, off, rfl, hc⟩ := HF.out hne
      have hcell := hc q (by rw [← HN.out]; exact hlt)
      obtain ⟨y, hy⟩ : ∃ y, y = bs.getD q 0 := ⟨_, rfl⟩
      have hy2 : y < 256 := by
        rw [hy, List.getD, List.getElem?_eq_getElem (by rw [← HN.out]; exact hlt)]
        exact HB.out _ (List.getElem_mem _)
      rw [← hy] at hcell
      have HY := Lib.hid hy
      have HC := Lib.hid hc
      have HIS := Lib.hid (isnot_any (w := w) (y := y))
      clear hy hc
      by_cases hy0 : y = 0
      · have HIS0 : Hid (Calls Tryd.prog 64 #[.int .u8 (y : Int)] w fun e w' => e = .returned (.bool false) ∧ w' = w) := Lib.hid (by have := HIS.out; rwa [decide_eq_false (by omega)] at this)
        have HY0 := Lib.hid hy0
        clear hy0
        go_wp2_with (go_at_call 64; refine (HIS0.out).mono ?_; rintro e w1 ⟨rfl, rfl⟩)
        go_round
        case rel => exact ⟨q + 1, by omega, by go_num, fun j hj => by
          rcases Nat.lt_succ_iff_lt_or_eq.1 hj with h | h
          · exact HZ.out j h
          · rw [h, ← HY.out]; exact HY0.out⟩
        case measure => simp [intOf]; omega
      · have HIS0 : Hid (Calls Tryd.prog 64 #[.int .u8 (y : Int)] w fun e w' => e = .returned (.bool true) ∧ w' = w) := Lib.hid (by have := HIS.out; rwa [decide_eq_true (by omega)] at this)
        go_wp2_with (go_at_call 64; refine (HIS0.out).mono ?_; rintro e w1 ⟨rfl, rfl⟩)
        go_ret
        exact ⟨⟨(q : Int), rfl, by rw [zeroL_not (i := q) (by rw [← HY.out]; exact hy0)]; simp⟩, rfl⟩
    · obtain rfl : q = n := by omega
      go_wp2
      go_ret
      exact ⟨⟨-1, rfl, by rw [zeroL_of fun i hi => HZ.out i (by rw [HN.out]; exact hi)]; simp⟩, rfl⟩
set_option maxHeartbeats 2000000 in
theorem isBlank_any {w : World} {v : Value} {bs : List Nat} (h : Lies w v bs) (hb : ∀ x ∈ bs, x < 256) (hbig : bs.length ≤ 1000000000) :
    Calls Tryd.prog 52 #[v] w fun e w' => e = .returned (.bool (zeroL bs)) ∧ w' = w := by
  obtain ⟨a, c, rfl⟩ := lies_len h
  have HI := Lib.hid (indexNot_any h hb hbig)
  obtain ⟨n, hn⟩ : ∃ n, n = bs.length := ⟨_, rfl⟩
  obtain ⟨Z, hZ⟩ : ∃ z, z = zeroL bs := ⟨_, rfl⟩
  have HZ := Lib.hid hZ
  rw [← hn] at HI ⊢
  rw [← hZ]
  clear h hb hZ hn hbig
  have HC : Hid (Calls Tryd.prog 63 #[.slice a n c, .func (.func 64) #[] #[]] w fun e w' => e = .returned (.bool (!Z)) ∧ w' = w) := by
    refine Lib.hid ?_
    go_enter Tryd.func63, Tryd.ntmps63
    go_wp2_with (go_at_call 73; refine (HI.out).mono ?_; rintro e w1 ⟨⟨z, rfl, hz⟩, rfl⟩; rw [← HZ.out] at hz)
    go_ret
    exact ⟨by simp, rfl⟩
  go_enter Tryd.func52, Tryd.ntmps52
  go_wp2_with (go_at_call 63; refine (HC.out).mono ?_; rintro e w1 ⟨rfl, rfl⟩)
  go_ret
  exact ⟨by simp, rfl⟩
end Go.Proofs.YtcdgbmeechnpiaaDoor
/- Sectors wiped, if they aren't 0. -/
namespace Go.Proofs.YtcdgbmeechnpiaaDoor
open Go.RowKit

theorem Dev.flush_told (d : Dev) : d.flush.told = d.told := rfl
theorem Kept.drewK {P : Nat} {w w' : World} (h : Kept P w w') : Kept P w w'.drew := h.trans (kept_drew P w')
/-- so many sectors from one on -/
def Dev.part (d : Dev) (frm n : Nat) : List (List Nat) := (d.told.drop frm).take n
theorem Dev.part_flush (d : Dev) (frm n : Nat) : d.flush.part frm n = d.part frm n := rfl
theorem Dev.part_sect {d : Dev} (h : d.Ok) (frm n : Nat) : Sect (d.part frm n) := fun s hs => h.told s (List.mem_of_mem_drop (List.mem_of_mem_take hs))
theorem SmallD.part {d : Dev} (h : SmallD d) (frm n : Nat) : SmallL (d.part frm n) := fun s hs => h.told s (List.mem_of_mem_drop (List.mem_of_mem_take hs))
theorem Dev.part_length {d : Dev} {frm n : Nat} (h : frm + n ≤ d.lies.length) : (d.part frm n).length = n := by
  unfold Dev.part; rw [List.length_take, List.length_drop, d.told_length]; omega
theorem Dev.part_get {d : Dev} {frm n i : Nat} (hi : i < n) : (d.part frm n)[i]? = d.told[frm + i]? := by
  unfold Dev.part; rw [List.getElem?_take_of_lt hi, List.getElem?_drop]
theorem SmallL.flat {L : List (List Nat)} (h : SmallL L) : ∀ x ∈ L.flatten, x < 256 := fun x hx => by
  obtain ⟨s, hs, hx⟩ := List.mem_flatten.1 hx
  exact h s hs x hx
/-- what is answered, and the device behind it -/
def Wiped (d : Dev) (frm n : Nat) (c : Int) (d' : Dev) : Prop :=
  (zeroL (d.part frm n).flatten = true ∧ c = 0 ∧ d' = d.flush) ∨ (zeroL (d.part frm n).flatten = false ∧ ((c = 0 ∧ d.Goes n ∧ d' = (d.flush.run frm (List.replicate n [])).flush) ∨ (c = 13 ∧ ¬ d.Goes n ∧ d' = d.flush.fell frm (List.replicate n []))))
set_option maxRecDepth 1000000 in
set_option maxHeartbeats 4000000 in
theorem vawipe_any {w : World} {B P frm n : Nat} {d : Dev} (h : DevAt w B P d) (hB : B ≤ w.heap.size) (hr : frm + n ≤ d.lies.length) (hup : d.down = false) (ha : d.after < 9223372036854775808) (hkp : d.keep < 18446744073709551616) (hs : SmallD d) :
    Calls Tryd.prog 41 #[.pointer (some ⟨P, 0, none⟩), .int .i64 (frm : Int), .int .i64 (n : Int)] w fun e w' => ∃ c d', e = .returned (.int .i64 c) ∧ Wiped d frm n c d' ∧ DevAt w' B P d' ∧ Kept P w w' := by
  have hN : d.lies.length ≤ 8192 := h.ok.size
  have hfl : d.flush.lies.length = d.lies.length := by show d.told.length = _; rw [d.told_length]
  have HD := Lib.hid h
  have HR : Hid (frm + n ≤ d.flush.lies.length) := Lib.hid (by rw [hfl]; exact hr)
  have HF := Lib.hid (flush_ok h hup)
  have hlen : (d.part frm n).flatten.length ≤ 1000000000 := by rw [flat_length (Dev.part_sect h.ok _ _), Dev.part_length hr]; omega
  have hl64 : (d.part frm n).flatten.length = n * 64 := by rw [flat_length (Dev.part_sect h.ok _ _), Dev.part_length hr]
  have HSM := Lib.hid (hs.part frm n).flat
  have HAK : Hid (d.after < 9223372036854775808 ∧ d.keep < 18446744073709551616 ∧ d.down = false) := Lib.hid ⟨ha, hkp, hup⟩
  obtain ⟨bs, hbs⟩ : ∃ bs, bs = (d.part frm n).flatten := ⟨_, rfl⟩
  have HRD : Hid (∀ w1, DevAt w1 B P d.flush → Calls Tryd.prog 48 #[.pointer (some ⟨P, 0, none⟩), .int .i64 (frm : Int), .int .i64 (n : Int)] w1 fun e w' => ∃ v', e = .returned (.tuple #[v', .int .i64 0]) ∧ w'.ownsRow w1.heap.size 5 1 v' (n * 64) (u8s bs) ∧ Below w1.heap.size w1 w') := Lib.hid (fun w1 hd => by rw [hbs]; exact read_ok (d := d.flush) hd hup HR.out)
  rw [← hbs] at HSM hlen hl64
  have HLEN := Lib.hid hlen
  have HL64 := Lib.hid hl64
  unfold Wiped
  rw [← hbs]
  clear h hr hup ha hkp hs hbs hfl hlen hl64
  go_enter Tryd.func41, Tryd.ntmps41
  go_wp2_with (go_at_call 37; refine (HF.out).mono ?_; rintro e w1 ⟨rfl, hd1, hk1⟩; have HD1 := Lib.hid hd1; have HK1 := Lib.hid hk1; clear hd1 hk1; dsimp only)
  refine (HRD.out w1 HD1.out).mono ?_
  rintro e w2 ⟨v', rfl, hown, hb2⟩
  have HLI : Hid (Lies w2 v' bs) := Lib.hid (LiesFrom.of_row (B := w1.heap.size) (by rw [HL64.out]; exact hown)).lies
  have HD2 := Lib.hid (HD1.out.beyond hb2)
  have HB2 := Lib.hid hb2
  have HK2 : Hid (Kept P w w2) := Lib.hid (HK1.out.trans (kept_on HD1.out hb2))
  clear hown hb2
  have HWI := Lib.hid (fun hn => jowipe_any (w := w2) (B := B) (P := P) (frm := frm) (n := n) (d := d.flush) HD2.out (Nat.le_trans hB HK2.out.only.size) hn HR.out HAK.out.2.2 HAK.out.1 HAK.out.2.1 (Nat.zero_le _))
  cases hz : zeroL bs with
  | true =>
    have HZ := Lib.hid hz
    clear hz
    go_wp2_with (go_at_call 52; refine (isBlank_any HLI.out HSM.out HLEN.out).mono ?_; rw [HZ.out]; rintro e w3 ⟨rfl, rfl⟩)
    go_ret
    exact ⟨0, d.flush, rfl, .inl ⟨HZ.out, rfl, rfl⟩, HD2.out, HK2.out⟩
  | false =>
    have HZ := Lib.hid hz
    have hn : 1 ≤ n := by
      rcases Nat.eq_zero_or_pos n with h0 | h0
      · have h1 := HL64.out
        rw [h0, Nat.zero_mul] at h1
        rw [List.length_eq_zero_iff.1 h1] at hz
        cases hz
      · exact h0
    have HW := Lib.hid (HWI.out hn)
    clear hz
    go_wp2_with (first | (go_at_call 52; refine (isBlank_any HLI.out HSM.out HLEN.out).mono ?_; rw [HZ.out]; rintro e w3 ⟨rfl, rfl⟩) | (go_at_call 38; with_reducible refine (HW.out).mono ?_; rintro e w4 ⟨c, d4, rfl, hc, hd4, hk4⟩; have HC := Lib.hid hc; have HD4 := Lib.hid hd4; have HK4 := Lib.hid hk4; clear hc hd4 hk4; dsimp only))
    go_ret
    exact ⟨c, d4, rfl, .inr ⟨HZ.out, HC.out⟩, HD4.out, HK2.out.trans HK4.out⟩
end Go.Proofs.YtcdgbmeechnpiaaDoor
/- What isn't current wiped; an image laid. -/
namespace Go.Proofs.YtcdgbmeechnpiaaDoor
open Go.RowKit

/-- a device that is up, whose numbers and bytes are such -/
structure Fit (d : Dev) : Prop where
  up : d.down = false
  after : d.after < 9223372036854775808
  keep : d.keep < 18446744073709551616
  small : SmallD d
  few : d.waits.length ≤ 8192
theorem Fit.flush {d : Dev} (h : Fit d) : Fit d.flush := ⟨h.up, h.after, h.keep, h.small.flush, Nat.zero_le _⟩
theorem Fit.run {d : Dev} (h : Fit d) {off : Nat} {L : List (List Nat)} (hL : SmallL L) : Fit (d.run off L).flush :=
  ⟨h.up, by show d.after - L.length < _; have := h.after; omega, h.keep, (h.small.writes hL off).flush.lies |> fun x => ⟨x, fun y hy => by simp [Dev.flush] at hy⟩, Nat.zero_le _⟩
theorem Wiped.fit {d d' : Dev} {frm n : Nat} {c : Int} (h : Wiped d frm n c d') (hf : Fit d) (hc : c = 0) : Fit d' := by
  rcases h with ⟨_, _, rfl⟩ | ⟨_, ⟨_, _, rfl⟩ | ⟨h1, _, _⟩⟩
  · exact hf.flush
  · exact hf.flush.run (SmallL.nils n)
  · omega
theorem Wiped.len {d d' : Dev} {frm n : Nat} {c : Int} (h : Wiped d frm n c d') : d'.lies.length = d.lies.length := by
  rcases h with ⟨_, _, rfl⟩ | ⟨_, ⟨_, _, rfl⟩ | ⟨_, _, rfl⟩⟩
  · show d.told.length = _; rw [d.told_length]
  · show (Dev.told _).length = _; rw [Dev.told_length]; show d.told.length = _; rw [d.told_length]
  · show (crashed _ _ _ _ _).length = _; rw [crashed_length]; show d.told.length = _; rw [d.told_length]
theorem Wiped.code {d d' : Dev} {frm n : Nat} {c : Int} (h : Wiped d frm n c d') : c = 0 ∨ c = 13 := by
  rcases h with ⟨_, h, _⟩ | ⟨_, ⟨h, _, _⟩ | ⟨h, _, _⟩⟩
  · exact .inl h
  · exact .inl h
  · exact .inr h
theorem Wiped.none {d d' : Dev} {frm : Nat} {c : Int} (h : Wiped d frm 0 c d') : c = 0 ∧ d' = d.flush := by
  rcases h with ⟨_, h1, h2⟩ | ⟨h, _⟩
  · exact ⟨h1, h2⟩
  · simp [Dev.part, zeroL] at h
theorem VAt.kept {w w' : World} {V P h t : Nat} {j : Option Nat} {am : Bool} (H : VAt w V P h t j am) (hk : Kept P w w') (hVd : ¬ DBlk w P V) : VAt w' V P h t j am ∧ ¬ DBlk w' P V :=
  ⟨H.only hk.only hVd, fun hh => (hk.own V hh).elim hVd (fun h1 => by have := H.lt; omega)⟩
/-- what isn't in half k wiped: what is answered, and the device behind it -/
def OthersD (d : Dev) (k N : Nat) (c : Int) (d' : Dev) : Prop := (c = 13 ∧ Wiped d ((1 - k) * N) N 13 d') ∨ (c = 0 ∧ ∃ d1, Wiped d ((1 - k) * N) N 0 d1 ∧ d' = d1.flush)
set_option maxRecDepth 1000000 in
set_option maxHeartbeats 8000000 in
theorem vaothers_any {w : World} {B V P N k T : Nat} {j : Option Nat} {am : Bool} {d : Dev} (hv : VAt w V P k T j am) (hd : DevAt w B P d) (hB : B ≤ w.heap.size) (hVd : ¬ DBlk w P V) (hN : d.lies.length = 2 * N) (hk : k ≤ 1) (hf : Fit d) :
    Calls Tryd.prog 42 #[.pointer (some ⟨V, 0, none⟩)] w fun e w' => ∃ c d', e = .returned (.int .i64 c) ∧ OthersD d k N c d' ∧ DevAt w' B P d' ∧ Kept P w w' := by
  have hL : d.lies.length ≤ 8192 := hd.ok.size
  have hN2 : d.lies.length / 2 = N := by omega
  have hkN : (1 - k) * N + N ≤ d.lies.length := by
    have : k = 0 ∨ k = 1 := by omega
    rcases this with rfl | rfl <;> omega
  obtain ⟨S, hS⟩ : ∃ S, S = (1 - k) * N := ⟨_, rfl⟩
  obtain ⟨c0, c1, c2, c3, c4⟩ := hv.cells
  have HST := Lib.hid (vastart_any (k := 1 - k) hd.drew (by omega))
  have HSZ := Lib.hid (vasize_any hd.drew)
  rw [hN2, ← hS] at HST
  rw [hN2] at HSZ
  have HW1 := Lib.hid (vawipe_any (frm := S) (n := N) hd.drew hB (by rw [hS]; exact hkN) hf.up hf.after hf.keep hf.small)
  have HV := Lib.hid hv
  have HVD := Lib.hid hVd
  have HN := Lib.hid hN
  have HFT := Lib.hid hf
  have HS := Lib.hid hS
  have e1 : IntKind.i64.wrap ((1 : Int) - (k : Int)) = ((1 - k : Nat) : Int) := by rw [IntKind.wrap_i64]; omega
  have HE1 := Lib.hid e1
  have HD := Lib.hid hd
  clear hv hd hVd hN hf hS hkN hN2
  go_enter Tryd.func42, Tryd.ntmps42
  go_wp2_with fail
  refine wp_region_still_tail 19 (by kernel_rfl) (by kernel_rfl) ?_
  simp only [List.take_succ_cons, List.take_zero, List.drop_succ_cons, List.drop_zero]
  iterate 13 still_step
  still_call HST.out
  iterate 4 still_step
  still_call HSZ.out
  refine wpStill_nil ?_
  change wpList _ _ _ _ _ w.drew
  go_wp2_with fail
  refine (HW1.out).mono ?_
  rintro e w1 ⟨cc, d1, rfl, hw1, hd1, hk1⟩
  have HWD := Lib.hid hw1
  have HD1 := Lib.hid hd1
  have HK1 : Hid (Kept P w w1) := Lib.hid ((kept_drew P w).trans hk1)
  have hcode := hw1.code
  have HV1 : Hid (VAt w1 V P k T j am) := Lib.hid (HV.out.kept HK1.out HVD.out).1
  clear hw1 hd1 hk1 c0 c1 c2 c3 c4
  dsimp only
  rcases hcode with rfl | rfl
  · obtain ⟨c0, c1, c2, c3, c4⟩ := HV1.out.cells
    have HL1 : Hid (d1.lies.length = 2 * N) := Lib.hid (by rw [HWD.out.len]; exact HN.out)
    have hN3 : d1.lies.length / 2 = N := by have := HL1.out; omega
    have e2 : IntKind.i64.wrap ((2 : Int) * (N : Int)) = ((2 * N : Nat) : Int) := by have := HN.out; rw [IntKind.wrap_i64]; omega
    have HSZ1 := Lib.hid (vasize_any HD1.out)
    rw [hN3] at HSZ1
    have e3 : IntKind.i64.wrap (((2 * N : Nat) : Int) - ((2 * N : Nat) : Int)) = 0 := by rw [IntKind.wrap_i64]; omega
    obtain ⟨M, hM⟩ : ∃ M, M = 2 * N := ⟨_, rfl⟩
    rw [← hM] at e2 e3
    have HLN := Lib.hid (len_any HD1.out.drew)
    rw [HL1.out, ← hM] at HLN
    have hB1 : B ≤ w1.heap.size := Nat.le_trans hB HK1.out.only.size
    have hf1 := HWD.out.fit HFT.out rfl
    have HW2 := vawipe_any (frm := M) (n := 0) HD1.out.drew hB1 (by rw [hM, HL1.out]; omega) hf1.up hf1.after hf1.keep hf1.small
    have HW2 : Hid (Calls Tryd.prog 41 #[.pointer (some ⟨P, 0, none⟩), .int .i64 (M : Int), .int .i64 0] w1.drew fun e w' => e = .returned (.int .i64 0) ∧ DevAt w' B P d1.flush ∧ Kept P w1.drew w') := Lib.hid (HW2.mono (by
      rintro e w2 ⟨c, d2, rfl, hw2, hd2, hk2⟩
      obtain ⟨rfl, rfl⟩ := hw2.none
      exact ⟨rfl, hd2, hk2⟩))
    clear hM hN3 hf1
    go_wp2_with (go_at_call 23; with_reducible refine (HSZ1.out).mono ?_; rintro e w' ⟨rfl, hw⟩; replace hw := hw.symm; subst hw; dsimp only)
    refine wp_region_still_tail 12 (by kernel_rfl) (by kernel_rfl) ?_
    simp only [List.take_succ_cons, List.take_zero, List.drop_succ_cons, List.drop_zero]
    iterate 9 still_step
    still_call HLN.out
    iterate 2 still_step
    refine wpStill_nil ?_
    change wpList _ _ _ _ _ w1.drew
    go_wp2_with (go_at_call 41; with_reducible refine (HW2.out).mono ?_; rintro e w2 ⟨rfl, hd2, hk2⟩; have HD2 := Lib.hid hd2; have HK2 := Lib.hid hk2; clear hd2 hk2; dsimp only)
    go_ret
    exact ⟨0, d1.flush, rfl, .inr ⟨rfl, d1, by rw [← HS.out]; exact HWD.out, rfl⟩, HD2.out, (HK1.out.trans (kept_drew P w1)).trans HK2.out⟩
  · go_wp2
    go_ret
    exact ⟨13, d1, rfl, .inl ⟨rfl, by rw [← HS.out]; exact HWD.out⟩, HD1.out, HK1.out⟩
theorem Lies.kept {w w' : World} {P : Nat} {v : Value} {D : List Nat} (h : Lies w v D) (hk : Kept P w w') (hfar : ∀ k, v.ownBlock = some k → D ≠ [] → ¬ DBlk w P k) : Lies w' v D := h.only2 hk.only hfar
theorem JKept.fresh {V J P : Nat} {a b c : World} (h : JKept V P a b) (k : JKept J P b c) (hJ : a.heap.size ≤ J) : JKept V P a c :=
  ⟨h.only.trans k.only (fun i hi ht => ht.elim (fun e => absurd hi (by omega)) (fun ht => (h.own i ht).elim .inr fun h1 => absurd hi (by omega))), fun i hi => (k.own i hi).elim (h.own i) fun h1 => .inr (Nat.le_trans h.only.size h1)⟩
theorem JKept.notD {V P q : Nat} {w w' : World} (h : JKept V P w w') (hq : q < w.heap.size) (hn : ¬ DBlk w P q) : ¬ DBlk w' P q := fun hh => (h.own q hh).elim hn (fun h1 => by omega)
theorem dev_notD {w : World} {B P q : Nat} {d : Dev} (h : DevAt w B P d) (hq : w.heap.size ≤ q) : ¬ DBlk w P q := fun hh => by have := h.lt hh; omega
/-- a vault's half, turn and journal set -/
theorem va_set {w : World} {B V P J h t k T S N n : Nat} {j : Option Nat} {am : Bool} {d : Dev} (hv : VAt w V P h t j am) (hd : DevAt w B P d) (hVd : ¬ DBlk w P V) (hJ : JAt w J P S N T n) (hJV : J ≠ V) :
    VAt (((w.setCell ⟨V, 1, none⟩ (.int .i64 (k : Int))).setCell ⟨V, 2, none⟩ (.int .u32 (T : Int))).setCell ⟨V, 3, none⟩ (.pointer (some ⟨J, 0, none⟩))) V P k T (some J) am ∧ DevAt (((w.setCell ⟨V, 1, none⟩ (.int .i64 (k : Int))).setCell ⟨V, 2, none⟩ (.int .u32 (T : Int))).setCell ⟨V, 3, none⟩ (.pointer (some ⟨J, 0, none⟩))) B P d ∧
    JKept V P w (((w.setCell ⟨V, 1, none⟩ (.int .i64 (k : Int))).setCell ⟨V, 2, none⟩ (.int .u32 (T : Int))).setCell ⟨V, 3, none⟩ (.pointer (some ⟨J, 0, none⟩))) ∧ JAt (((w.setCell ⟨V, 1, none⟩ (.int .i64 (k : Int))).setCell ⟨V, 2, none⟩ (.int .u32 (T : Int))).setCell ⟨V, 3, none⟩ (.pointer (some ⟨J, 0, none⟩))) J P S N T n := by
  have ho : Only (fun q => q = V) w (((w.setCell ⟨V, 1, none⟩ (.int .i64 (k : Int))).setCell ⟨V, 2, none⟩ (.int .u32 (T : Int))).setCell ⟨V, 3, none⟩ (.pointer (some ⟨J, 0, none⟩))) :=
    ((Only.setCell (S := fun q => q = V) _ (p := ⟨V, 1, none⟩) rfl _).trans (Only.setCell (S := fun q => q = V) _ (p := ⟨V, 2, none⟩) rfl _) (fun _ _ h => h)).trans (Only.setCell (S := fun q => q = V) _ (p := ⟨V, 3, none⟩) rfl _) (fun _ _ h => h)
  obtain ⟨h1, h2⟩ := jkept_set hd hVd ho
  exact ⟨((Arr.set hv 1 (.int .i64 (k : Int))).set 2 (.int .u32 (T : Int))).set 3 (.pointer (some ⟨J, 0, none⟩)), h2, h1, hJ.only ho hJV⟩
/-- an image laid in half k, from nothing done yet: what is answered, and the device behind it -/
def LaidD (d : Dev) (k N T : Nat) (D : List Nat) (c : Int) (d' : Dev) : Prop :=
  (c = 13 ∧ Wiped d (k * N) N 13 d') ∨ ∃ d1, Wiped d (k * N) N 0 d1 ∧ ((c = 13 ∧ ¬ d1.Goes (pieces D.length) ∧ d' = d1.fell (k * N) ((splitS T 0 D).map secB)) ∨ (d1.Goes (pieces D.length) ∧ OthersD (d1.run (k * N) ((splitS T 0 D).map secB)).flush k N c d'))
set_option maxRecDepth 1000000 in
set_option maxHeartbeats 8000000 in
theorem valay_any {w : World} {B V P N k h t T : Nat} {j : Option Nat} {am : Bool} {d : Dev} {D : List Nat} {v : Value} (hv : VAt w V P h t j am) (hd : DevAt w B P d) (hB : B ≤ w.heap.size) (hgB : 0 < B) (hVd : ¬ DBlk w P V) (hN : d.lies.length = 2 * N) (hN1 : 1 ≤ N) (hk : k ≤ 1)
    (hT : T ≠ 0 ∧ T < 4294967296) (hli : Lies w v D) (hfar : ∀ q, v.ownBlock = some q → D ≠ [] → ¬ DBlk w P q) (hDs : ∀ x ∈ D, x < 256) (hst : StepsLaid w) (hp : pieces D.length ≤ N) (hf : Fit d) :
    Calls Tryd.prog 30 #[.pointer (some ⟨V, 0, none⟩), .int .i64 (k : Int), .int .u32 (T : Int), v] w fun e w' => ∃ c d' h' t' j', e = .returned (.int .i64 c) ∧ LaidD d k N T D c d' ∧ DevAt w' B P d' ∧ JKept V P w w' ∧ VAt w' V P h' t' j' am ∧ ¬ DBlk w' P V ∧
      (c = 0 → h' = k ∧ t' = T ∧ ∃ J, j' = some J ∧ JAt w' J P (k * N) N T (pieces D.length) ∧ w.heap.size ≤ J ∧ ¬ DBlk w' P J) := by
  have hL : d.lies.length ≤ 8192 := hd.ok.size
  have hN2 : d.lies.length / 2 = N := by omega
  have hkN : k * N + N ≤ d.lies.length := by
    have : k = 0 ∨ k = 1 := by omega
    rcases this with rfl | rfl <;> omega
  obtain ⟨S, hS⟩ : ∃ S, S = k * N := ⟨_, rfl⟩
  obtain ⟨c0, c1, c2, c3, c4⟩ := hv.cells
  obtain ⟨av, cv, rfl⟩ := lies_len hli
  obtain ⟨ld, hld⟩ : ∃ l, l = D.length := ⟨_, rfl⟩
  have HST : Hid (∀ w1 d1, DevAt w1 B P d1 → d1.lies.length = 2 * N → Calls Tryd.prog 39 #[.pointer (some ⟨P, 0, none⟩), .int .i64 (k : Int)] w1 fun e w' => e = .returned (.int .i64 (S : Int)) ∧ w' = w1) := Lib.hid (fun w1 d1 h1 h2 => by
    have := vastart_any (k := k) h1 hk
    rwa [show d1.lies.length / 2 = N by omega, ← hS] at this)
  have HSZ : Hid (∀ w1 d1, DevAt w1 B P d1 → d1.lies.length = 2 * N → Calls Tryd.prog 23 #[.pointer (some ⟨P, 0, none⟩)] w1 fun e w' => e = .returned (.int .i64 (N : Int)) ∧ w' = w1) := Lib.hid (fun w1 d1 h1 h2 => by
    have := vasize_any h1
    rwa [show d1.lies.length / 2 = N by omega] at this)
  have HW1 := Lib.hid (vawipe_any (frm := S) (n := N) hd.drew hB (by rw [hS]; exact hkN) hf.up hf.after hf.keep hf.small)
  have HS1 := Lib.hid (HST.out _ _ hd.drew hN)
  have HZ1 := Lib.hid (HSZ.out _ _ hd.drew hN)
  have HV := Lib.hid hv
  have HVD := Lib.hid hVd
  have HN := Lib.hid hN
  have HFT := Lib.hid hf
  have HS := Lib.hid hS
  have HD := Lib.hid hd
  have HLI := Lib.hid hli
  have HFAR := Lib.hid hfar
  have HDS := Lib.hid hDs
  have HSTP := Lib.hid hst
  have HLD := Lib.hid hld
  have HTT := Lib.hid hT
  rw [← hld] at hp HLI HFAR ⊢
  rw [← hS]
  clear hv hd hVd hN hf hS hkN hN2 hli hfar hDs hst hld hT
  go_enter Tryd.func30, Tryd.ntmps30
  go_wp2_with fail
  refine wp_region_still_tail 15 (by kernel_rfl) (by kernel_rfl) ?_
  simp only [List.take_succ_cons, List.take_zero, List.drop_succ_cons, List.drop_zero]
  iterate 9 still_step
  still_call HS1.out
  iterate 4 still_step
  still_call HZ1.out
  refine wpStill_nil ?_
  change wpList _ _ _ _ _ w.drew
  go_wp2_with fail
  refine (HW1.out).mono ?_
  rintro e w1 ⟨cc, d1, rfl, hw1, hd1, hk1⟩
  have HWD := Lib.hid hw1
  have HD1 := Lib.hid hd1
  have HK1 : Hid (Kept P w w1) := Lib.hid ((kept_drew P w).trans hk1)
  have hcode := hw1.code
  have hva := HV.out.kept HK1.out HVD.out
  have HV1 : Hid (VAt w1 V P h t j am) := Lib.hid hva.1
  have HVD1 : Hid (¬ DBlk w1 P V) := Lib.hid hva.2
  clear hw1 hd1 hk1 c0 c1 c2 c3 c4 hva
  dsimp only
  rcases hcode with rfl | rfl
  · obtain ⟨c0, c1, c2, c3, c4⟩ := HV1.out.cells
    have HL1 : Hid (d1.lies.length = 2 * N) := Lib.hid (by rw [HWD.out.len]; exact HN.out)
    have HS2 := Lib.hid (HST.out _ _ HD1.out.drew HL1.out)
    have HZ2 := Lib.hid (HSZ.out _ _ HD1.out.drew HL1.out)
    have HNW := Lib.hid (jonew_ok (frm := S) (n := N) (t := T) HD1.out.drew hN1 (by rw [HL1.out, HS.out]; have : k = 0 ∨ k = 1 := by omega
                                                                                    rcases this with rfl | rfl <;> omega) HTT.out.1)
    go_wp2_with fail
    go_region_held3 (fun w' => w'.cell? ⟨V, 0, none⟩ = some (.pointer (some ⟨P, 0, none⟩))) (first | exact c0 | exact hc2) ((first | (go_at_call 39; refine (HS2.out).mono ?_; rintro e w' ⟨rfl, hw⟩; replace hw := hw.symm; subst hw) | (go_at_call 23; refine (HZ2.out).mono ?_; rintro e w' ⟨rfl, hw⟩; replace hw := hw.symm; subst hw) | (go_at_call 45; refine (HNW.out).mono ?_; rintro e w2 ⟨J, rfl, hj2, hJ, hb2⟩; have hc2 : w2.cell? ⟨V, 0, none⟩ = some (.pointer (some ⟨P, 0, none⟩)) := (hb2.cell (p := ⟨V, 0, none⟩) (cell_lt c0)).trans c0; have HJ2 := Lib.hid hj2; have HJJ := Lib.hid hJ; have HB2 := Lib.hid hb2; clear hj2 hJ hb2)))
    have hB1 : B ≤ w1.heap.size := Nat.le_trans hB HK1.out.only.size
    have hB2 : B ≤ w2.heap.size := Nat.le_trans hB1 HB2.out.size
    have HBW : Hid (Below w1.heap.size w1 w2) := Lib.hid (((Below.refl _ w1).drew).trans HB2.out)
    have HD2 := Lib.hid (HD1.out.beyond HBW.out)
    have HK2 : Hid (Kept P w w2) := Lib.hid (HK1.out.trans (kept_on HD1.out HBW.out))
    have hva2 := HV.out.kept HK2.out HVD.out
    have HV2 := Lib.hid hva2.1
    have HVD2 := Lib.hid hva2.2
    have HJD2 : Hid (¬ DBlk w2 P J) := Lib.hid (fun hh => by have h1 := dblk_on HD1.out HBW.out hh; have h2 := HD1.out.lt h1; have h3 := HJJ.out; rw [h3] at h2; exact absurd h2 (Nat.lt_irrefl _))
    have HLI2 : Hid (Lies w2 (.slice av ld cv) D) := Lib.hid (HLI.out.kept HK2.out HFAR.out)
    have hf1 := HWD.out.fit HFT.out rfl
    have hr1 : S + N ≤ d1.lies.length := by
      rw [HL1.out, HS.out]
      have : k = 0 ∨ k = 1 := by omega
      rcases this with rfl | rfl <;> omega
    have hst2 : StepsLaid w2 := HSTP.out.keep (HD.out.below hB HK2.out) hgB
    have HJV : Hid (J ≠ V) := Lib.hid (fun e => by have h1 := HV1.out.lt; have h2 := HJJ.out; rw [e] at h2; rw [h2] at h1; exact absurd h1 (Nat.lt_irrefl _))
    have hJw : w.heap.size ≤ J := by rw [HJJ.out]; exact HK1.out.only.size
    by_cases hg : d1.Goes (pieces D.length)
    · have HCM := jocommit_goes HJ2.out HD2.out hB2 hgB HJD2.out HLI2.out HDS.out HTT.out hr1 hf1.up hf1.after hf1.keep (by have := hf1.few; omega) hst2 (by rw [Nat.zero_add, ← HLD.out]; exact hp) hg
      rw [Nat.add_zero, Nat.zero_add] at HCM
      replace HCM := Lib.hid HCM
      have HG := Lib.hid hg
      have hLs : SmallL ((splitS T 0 D).map secB) := secs_small HTT.out HDS.out (by rw [Nat.zero_add, ← HLD.out]; have := HN.out; omega)
      have HF3 := Lib.hid (hf1.run (off := S) hLs)
      have hl3 : (d1.run S ((splitS T 0 D).map secB)).flush.lies.length = 2 * N := by
        show (Dev.told _).length = _
        rw [Dev.told_length]; exact HL1.out
      have HL3 := Lib.hid hl3
      obtain ⟨d3, hd3⟩ : ∃ x, x = (d1.run S ((splitS T 0 D).map secB)).flush := ⟨_, rfl⟩
      rw [← hd3] at HCM HF3 HL3
      have HDD := Lib.hid hd3
      clear hg hf1 hr1 hst2 hva2 hLs hl3 hd3 c0 c1 c2 c3 c4 hc2
      go_wp2_with (go_at_call 28; refine (HCM.out).mono ?_; rintro e w3 ⟨rfl, hd3, hj3, hk3⟩; have HD3 := Lib.hid hd3; have HJ3 := Lib.hid hj3; have HK3 := Lib.hid hk3; have HV3 : Hid (VAt w3 V P h t j am) := Lib.hid (HV2.out.only hk3.only (fun hh => hh.elim (fun e => HJV.out e.symm) HVD2.out)); have f1 := Arr.free HV3.out 1; have f2 := Arr.free HV3.out 2; have f3 := Arr.free HV3.out 3; obtain ⟨q0, q1, q2, q3, q4⟩ := HV3.out.cells; clear hd3 hj3 hk3; dsimp only)
      obtain ⟨hs1, hs2, hs3, hs4⟩ := va_set (k := k) (T := T) HV3.out HD3.out (fun hh => (HK3.out.own V hh).elim HVD2.out (fun h1 => by have := HV2.out.lt; omega)) HJ3.out HJV.out
      obtain ⟨W4, hW4⟩ : ∃ W, W = (((w3.setCell ⟨V, 1, none⟩ (.int .i64 (k : Int))).setCell ⟨V, 2, none⟩ (.int .u32 (T : Int))).setCell ⟨V, 3, none⟩ (.pointer (some ⟨J, 0, none⟩))) := ⟨_, rfl⟩
      rw [← hW4] at hs1 hs2 hs3 hs4 ⊢
      have HV4 := Lib.hid hs1
      have HD4 := Lib.hid hs2
      have HJ4 := Lib.hid hs4
      have hk23 : JKept V P w w3 := HK2.out.jo.fresh HK3.out hJw
      have HK4 : Hid (JKept V P w W4) := Lib.hid (hk23.trans hs3)
      have HVD4 : Hid (¬ DBlk W4 P V) := Lib.hid (HK4.out.notD HV.out.lt HVD.out)
      have HJD4 : Hid (¬ DBlk W4 P J) := Lib.hid (hs3.notD (Arr.lt HJ3.out) (HK3.out.notD (Arr.lt HJ2.out) HJD2.out))
      have HOT := Lib.hid (vaothers_any HV4.out HD4.out (Nat.le_trans hB HK4.out.only.size) HVD4.out HL3.out hk HF3.out)
      clear hs1 hs2 hs3 hs4 hk23 hW4 f1 f2 f3 q0 q1 q2 q3 q4
      refine (HOT.out).mono ?_
      rintro e w5 ⟨c5, d5, rfl, ho5, hd5, hk5⟩
      have HO5 := Lib.hid ho5
      have HD5 := Lib.hid hd5
      have HK5 := Lib.hid hk5
      have HV5 := Lib.hid (HV4.out.kept hk5 HVD4.out)
      clear ho5 hd5 hk5
      dsimp only
      go_wp2
      go_ret
      exact ⟨c5, d5, k, T, some J, rfl, .inr ⟨d1, by rw [← HS.out]; exact HWD.out, .inr ⟨HG.out, by rw [← HS.out, ← HDD.out]; exact HO5.out⟩⟩, HD5.out, HK4.out.trans HK5.out.jo, HV5.out.1, HV5.out.2,
        fun _ => ⟨rfl, rfl, J, rfl, by have h1 := HJ4.out.only HK5.out.only HJD4.out; rw [HLD.out]; exact h1, hJw, fun hh => (HK5.out.own J hh).elim HJD4.out (fun h1 => by have := Arr.lt HJ4.out; omega)⟩⟩
    · have HCM := jocommit_falls HJ2.out HD2.out hB2 hgB HJD2.out HLI2.out HDS.out HTT.out hr1 hf1.up hf1.after hf1.keep (by have := hf1.few; omega) hst2 (by rw [Nat.zero_add, ← HLD.out]; exact hp) hg
      rw [Nat.add_zero] at HCM
      replace HCM := Lib.hid HCM
      have HG := Lib.hid hg
      obtain ⟨d3, hd3⟩ : ∃ x, x = d1.fell S ((splitS T 0 D).map secB) := ⟨_, rfl⟩
      rw [← hd3] at HCM
      have HDD := Lib.hid hd3
      clear hg hf1 hr1 hst2 hva2 hd3 c0 c1 c2 c3 c4 hc2
      go_wp2_with (go_at_call 28; refine (HCM.out).mono ?_; rintro e w3 ⟨rfl, hd3, hk3⟩; have HD3 := Lib.hid hd3; have HK3 := Lib.hid hk3; clear hd3 hk3; dsimp only)
      go_ret
      have hva3 := HV2.out.kept HK3.out HVD2.out
      exact ⟨13, d3, h, t, j, rfl, .inr ⟨d1, by rw [← HS.out]; exact HWD.out, .inl ⟨rfl, HG.out, by rw [← HS.out]; exact HDD.out⟩⟩, HD3.out, (HK2.out.trans HK3.out).jo, hva3.1, hva3.2, fun h => by cases h⟩
  · go_wp2
    go_ret
    exact ⟨13, d1, h, t, j, rfl, .inl ⟨rfl, by rw [← HS.out]; exact HWD.out⟩, HD1.out, HK1.out.jo, HV1.out, HVD1.out, fun h => by cases h⟩
end Go.Proofs.YtcdgbmeechnpiaaDoor
/- All sectors' bytes; the greatest turn of all stamped sectors, and the next one: a range over slices.Chunk. -/
namespace Go.Proofs.YtcdgbmeechnpiaaDoor
open Go.RowKit Go.Shelf

attribute [local go_sem] Oper.semAt_some

/-- the greatest turn of these sectors -/
def topT (L : List (List Nat)) : Nat := L.foldl (fun m s => max m (stOf s).turn) 0
theorem topF_le {T : Nat} (L : List (List Nat)) : ∀ m, m ≤ T → (∀ s ∈ L, (stOf s).turn ≤ T) → L.foldl (fun m s => max m (stOf s).turn) m ≤ T := by
  induction L with
  | nil => intro m h _; exact h
  | cons s L ih => intro m h hs; rw [List.foldl_cons]; exact ih _ (by have := hs s List.mem_cons_self; omega) (fun x hx => hs x (List.mem_cons_of_mem _ hx))
theorem topF_ge (L : List (List Nat)) : ∀ m, m ≤ L.foldl (fun m s => max m (stOf s).turn) m ∧ ∀ s ∈ L, (stOf s).turn ≤ L.foldl (fun m s => max m (stOf s).turn) m := by
  induction L with
  | nil => intro m; exact ⟨Nat.le_refl _, fun s h => by simp at h⟩
  | cons s L ih =>
    intro m
    rw [List.foldl_cons]
    obtain ⟨h1, h2⟩ := ih (max m (stOf s).turn)
    refine ⟨by omega, fun x hx => ?_⟩
    rcases List.mem_cons.1 hx with rfl | hx
    · omega
    · exact h2 x hx
theorem topT_le {T : Nat} {L : List (List Nat)} (h : ∀ s ∈ L, (stOf s).turn ≤ T) : topT L ≤ T := topF_le L 0 (Nat.zero_le _) h
theorem topT_ge {L : List (List Nat)} {s : List Nat} (h : s ∈ L) : (stOf s).turn ≤ topT L := (topF_ge L 0).2 s h
theorem topT_eq {T : Nat} {L : List (List Nat)} (h : ∀ s ∈ L, (stOf s).turn ≤ T) {s : List Nat} (hs : s ∈ L) (ht : (stOf s).turn = T) : topT L = T := Nat.le_antisymm (topT_le h) (by rw [← ht]; exact topT_ge hs)
/-- of those told so far -/
def topP (L : List (List Nat)) {N : Nat} (pre : List (Fin N)) : Nat := topT (pre.map (secAt L))
theorem topP_snoc (L : List (List Nat)) {N : Nat} (pre : List (Fin N)) (x : Fin N) : topP L (pre ++ [x]) = max (topP L pre) (stOf (secAt L x)).turn := by
  unfold topP topT
  rw [List.map_append, List.foldl_append]; rfl
theorem topP_all (L : List (List Nat)) {N : Nat} (hN : L.length = N) : topP L (List.finRange N) = topT L := by
  unfold topP
  congr 1
  refine List.ext_getElem (by simp [hN]) fun i h1 h2 => ?_
  simp [secAt, List.getD, h2]
set_option maxRecDepth 1000000 in
set_option maxHeartbeats 4000000 in
theorem vaall_up {w : World} {B P : Nat} {d : Dev} (h : DevAt w B P d) (hup : d.down = false) : Calls Tryd.prog 35 #[.pointer (some ⟨P, 0, none⟩)] w fun e w' => ∃ v', e = .returned v' ∧ w'.ownsRow w.heap.size 5 1 v' (d.lies.length * 64) (u8s d.told.flatten) ∧ Below w.heap.size w w' := by
  have HD := Lib.hid h
  have HRD := Lib.hid (read_ok (f := 0) (n := d.lies.length) h hup (by omega))
  have hT : (d.told.drop 0).take d.lies.length = d.told := by rw [List.drop_zero, List.take_of_length_le (by rw [d.told_length]; exact Nat.le_refl _)]
  rw [hT] at HRD
  have HDW := Lib.hid (down_any h)
  rw [hup] at HDW
  obtain ⟨n, hn⟩ : ∃ n, n = d.lies.length := ⟨_, rfl⟩
  have HN := Lib.hid hn
  rw [← hn] at HRD ⊢
  clear h hT hn
  go_enter Tryd.func35, Tryd.ntmps35
  go_wp2_with (first | (go_at_call 18; refine (HDW.out).mono ?_; rintro e w1 ⟨rfl, hw⟩; replace hw := hw.symm; subst hw) | (go_at_call 21; refine (len_any HD.out).mono ?_; rw [← HN.out]; rintro e w2 ⟨rfl, hw⟩; replace hw := hw.symm; subst hw))
  refine HRD.out.mono ?_
  rintro e w3 ⟨v', rfl, hown, hb3⟩
  have HO := Lib.hid hown
  have HB := Lib.hid hb3
  clear hown hb3
  dsimp only
  go_wp2
  go_ret
  exact ⟨v', rfl, HO.out, HB.out⟩
/-- between two rounds -/
structure TopI (L : List (List Nat)) {N : Nat} (W0 : World) (B4 : Nat) (pre : List (Fin N)) (W : World) : Prop where
  box : Arr W B4 38 [.int .u32 (topP L pre : Int)]
  only : Only (fun k => k = B4) W0 W
theorem TopI.grown {L : List (List Nat)} {N : Nat} {W0 W W' : World} {B4 : Nat} {pre : List (Fin N)} {row : Option Nat} (h : TopI L W0 B4 pre W) (hg : W.grownBy W' row) (hr : ∀ q, row = some q → W0.heap.size ≤ q ∧ ∃ o : Obj, W.heap[q]? = some o ∧ o.isCells = false) : TopI L W0 B4 pre W' := by
  have ho := Only.grown hg
  exact ⟨h.box.only ho (grown_others hr (h.box.cell (i := 0) rfl)), h.only.trans ho (fun i hi e => by have := (hr i e).1; omega)⟩
theorem TopI.step {L : List (List Nat)} {N Q T Z : Nat} {W0 W w3 : World} {B4 : Nat} {pre : List (Fin N)} {x : Fin N} (h : TopI L W0 B4 pre W) (hb : Below W.heap.size W w3) (hQ : Q = topP L pre ∧ T = (stOf (secAt L x)).turn) (hZ : Z = max Q T) : KeepsOthers W (w3.setCell ⟨B4, 0, none⟩ (.int .u32 (Z : Int))) ∧ TopI L W0 B4 (pre ++ [x]) (w3.setCell ⟨B4, 0, none⟩ (.int .u32 (Z : Int))) := by
  have e : Z = topP L (pre ++ [x]) := by rw [topP_snoc, ← hQ.1, ← hQ.2, hZ]
  rw [e]
  have ho : Only (fun _ => False) W w3 := only_beyond hb
  have h1 : Arr w3 B4 38 [.int .u32 (topP L pre : Int)] := h.box.only ho (fun e => e)
  have ho2 : Only (fun k => k = B4) w3 (w3.setCell ⟨B4, 0, none⟩ (.int .u32 ((topP L (pre ++ [x]) : Nat) : Int))) := Only.setCell (S := fun k => k = B4) _ (p := ⟨B4, 0, none⟩) rfl _
  exact ⟨(others_below hb).trans (KeepsOthers.setCell _ _ _), Arr.set h1 0 _, (h.only.trans ho (fun _ _ e => e.elim)).trans ho2 (fun _ _ e => e)⟩
theorem TopI.keepC {L : List (List Nat)} {N : Nat} {W0 W W' : World} {B4 Bs Bn : Nat} {pre pre' : List (Fin N)} (h : TopI L W0 B4 pre W) (h' : TopI L W0 B4 pre' W') (h1 : Bs < W0.heap.size) (h2 : Bn < W0.heap.size) (e1 : Bs ≠ B4) (e2 : Bn ≠ B4) : KeepC Bs Bn W W' := keepC_only h.only h'.only h1 h2 e1 e2
theorem own_bytes {w : World} {B n : Nat} {v : Value} {L : List (List Nat)} (hS : Sect L) (hn : L.length = n) (h1 : 1 ≤ n) (h : w.ownsRow B 5 1 v (n * 64) (u8s L.flatten)) : ∃ g cap, v = .slice (some ⟨g, 0, none⟩) (n * 64 : Nat) cap ∧ n * 64 ≤ cap ∧ B ≤ g ∧ g < w.heap.size ∧ BytesAt w g 0 L.flatten := by
  have hfl : L.flatten.length = n * 64 := by rw [flat_length hS, hn]
  rcases h.2 with ⟨_, h0⟩ | ⟨g, cap, cur, hv, hg, hgg, hc, _⟩
  · omega
  · refine ⟨g, cap, hv, hc, hg, lt_of_block hgg, fun j hj => ?_⟩
    rw [hv] at h
    rw [Nat.zero_add, h.cellAt j (by omega), u8s_getD L.flatten j hj]
set_option maxRecDepth 1000000 in
set_option maxHeartbeats 8000000 in
theorem vanext_any {w : World} {B P : Nat} {d : Dev} (h : DevAt w B P d) (hup : d.down = false) (hs : SmallD d) (htop : topT d.told < 4294967295) : Calls Tryd.prog 24 #[.pointer (some ⟨P, 0, none⟩)] w fun e w' => e = .returned (.tuple #[.int .u32 ((topT d.told + 1 : Nat) : Int), .int .i64 0]) ∧ Below w.heap.size w w' := by
  have hN : d.lies.length ≤ 8192 := h.ok.size
  have hN1 : 1 ≤ d.lies.length := h.ok.pos
  have HALL : Hid (∀ w1, Below w.heap.size w w1 → _) := Lib.hid (fun w1 (hb : Below w.heap.size w w1) => vaall_up (w := w1) (h.beyond hb) hup)
  obtain ⟨N, hn⟩ : ∃ n, n = d.lies.length := ⟨_, rfl⟩
  obtain ⟨L, hL⟩ : ∃ L, L = d.told := ⟨_, rfl⟩
  have hNl : L.length = N := by rw [hL, d.told_length, hn]
  have hSect : Sect L := by rw [hL]; exact h.ok.told
  have hSm : ∀ s ∈ L, ∀ x ∈ s, x < 256 := by rw [hL]; exact hs.told
  rw [← hn] at HALL hN hN1
  rw [← hL] at HALL htop ⊢
  obtain ⟨Z, hZ⟩ : ∃ Z, Z = topT L := ⟨_, rfl⟩
  rw [← hZ] at htop ⊢
  have HZ := Lib.hid hZ
  have HS := Lib.hid hSm
  have HTOP := Lib.hid htop
  have HW0 : Hid (Below w.heap.size w (w.alloc (.cells #[.int .u32 0] 38))) := Lib.hid ((Below.refl _ w).alloc (Nat.le_refl _) _)
  obtain ⟨W0, hW0⟩ : ∃ W, W = w.alloc (.cells #[.int .u32 0] 38) := ⟨_, rfl⟩
  obtain ⟨B4, hB4⟩ : ∃ B, B = w.heap.size := ⟨_, rfl⟩
  have HK4 : Hid (Arr W0 B4 38 [.int .u32 0]) := Lib.hid (by rw [hW0, hB4]; exact arr_new w _ _)
  have HBZ : Hid (W0.heap.size = B4 + 1 ∧ B4 = w.heap.size) := Lib.hid ⟨by rw [hW0, hB4, World.size_alloc], hB4⟩
  have HWA := Lib.hid HW0.out
  rw [← hW0] at HW0
  clear h hup hs hn hL hSm htop hZ
  refine (callsIn_wide (n := 6)).1 ?_
  refine callsIn_of_wp_marks Tryd.func24 rfl trivial ?_ rfl
  simp only [Tryd.ntmps24, List.size_toArray, List.length_cons, List.length_nil, Nat.reduceAdd, Nat.reduceSub, Array.replicate_succ, Array.replicate_zero, List.push_toArray, List.append_toArray, List.nil_append, List.cons_append]
  gi_wp2_with (first | (refine ⟨trivial, ?_⟩; gi_at_call 35; refine (callsIn_wide.2 (HALL.out _ HWA.out)).mono ?_; rintro e w1 ⟨v', rfl, hown, hb1⟩))
  rw [← hW0] at hown hb1
  obtain ⟨g, cap, rfl, hcap, hg, hgw, hat⟩ := own_bytes hSect hNl hN1 hown
  obtain ⟨M, hM⟩ : ∃ M, M = N * 64 := ⟨_, rfl⟩
  have HM := Lib.hid hM
  rw [← hM] at hcap ⊢
  have HB1 := Lib.hid hb1
  have HAT := Lib.hid hat
  rw [← hB4]
  clear hown hb1 hat hM
  gi_wp2_with (first | (refine ⟨trivial, ?_⟩; gi_at_call 34; refine (callsIn_wide.2 (chunk_any _ _ _ _)).mono ?_; rintro e w2 ⟨rfl, hw2⟩))
  obtain ⟨Bs, hBs⟩ : ∃ B, B = w1.heap.size := ⟨_, rfl⟩
  obtain ⟨Bn, hBn⟩ : ∃ B, B = w1.heap.size + 1 := ⟨_, rfl⟩
  rw [← hBn, ← hBs]
  rw [← hw2]
  try rw [← hB4]
  have HKs : Hid (Arr w2 Bs 31 [.slice (some ⟨g, 0, none⟩) M cap]) := Lib.hid (by rw [hw2, hBs]; exact (arr_new w1 _ _).alloc _)
  have HKn : Hid (Arr w2 Bn 3 [.int .i64 64]) := Lib.hid (by
    have h := arr_new (w1.alloc (.cells #[.slice (some ⟨g, 0, none⟩) M cap] 31)) 3 [.int .i64 64]
    rw [World.size_alloc] at h
    rw [hw2, hBn]; exact h)
  have HB2 : Hid (Below w1.heap.size w1 w2) := Lib.hid (by rw [hw2]; exact (((Below.refl _ w1).alloc (Nat.le_refl _) _).alloc (by simp only [World.size_alloc]; omega) _))
  have hsz : w2.heap.size = w1.heap.size + 2 := by rw [hw2]; simp only [World.size_alloc]
  have HBB : Hid (Bs = w1.heap.size ∧ Bn = w1.heap.size + 1 ∧ w2.heap.size = w1.heap.size + 2 ∧ B4 < w1.heap.size ∧ g < w1.heap.size ∧ B4 < g) := Lib.hid ⟨hBs, hBn, hsz, by have := HB1.out.size; have := HBZ.out.1; omega, hgw, by have := HBZ.out.1; omega⟩
  have HK42 : Hid (Arr w2 B4 38 [.int .u32 0]) := Lib.hid ((HK4.out.only (only_beyond (S := fun _ => False) HB1.out) (fun e => e)).only (only_beyond (S := fun _ => False) HB2.out) (fun e => e))
  have HBW : Hid (Below w.heap.size w w2) := Lib.hid ((HW0.out.trans (HB1.out.mono HW0.out.size)).trans (HB2.out.mono (Nat.le_trans HW0.out.size HB1.out.size)))
  clear hw2 hBs hBn hsz hg hgw hW0 hB4
  refine wpIn_rangeFunc_ownF (α := Fin N) rfl (by omega) (gf := 47) (lb := #[.pointer (some ⟨Bs, 0, none⟩), .pointer (some ⟨Bn, 0, none⟩)]) rfl trivial (enters_of Tryd.func47 (by kernel_rfl) rfl)
    (chunk_stops 5 Bs Bn g 0 N cap w2 (by omega) (by have := HBB.out; omega) (by have := HBB.out; omega) hN (by rw [← HM.out]; exact hcap) (by rw [← HM.out]; exact HKs.out.cell rfl) (HKn.out.cell rfl)) (fun h k => h.trans k) (fun W l o o' hl _ _ _ => KeepC.put W l o' (by have := HBB.out; omega) (by have := HBB.out; omega)) (Below.refl _ _) (fun _ => rfl)
    (fun pre W => TopI L w2 B4 pre W)
    (fun cd pre W => False)
    (fun pre W W' row h hg hr => h.grown hg hr)
    (fun cd pre W W' row h hg hr => h)
    ⟨HK42.out, Only.refl _ _⟩
    (fun x => { tmps := #[.pointer (some ⟨P, 0, none⟩), undef, .int .u32 0, .int .i64 0, .pointer (some ⟨B4, 0, none⟩), pieceC g 0 x, .pointer (some ⟨P, 0, none⟩), .slice (some ⟨g, 0, none⟩) M cap, .func (.func 47) #[] #[.pointer (some ⟨Bs, 0, none⟩), .pointer (some ⟨Bn, 0, none⟩)], pieceC g 0 x, undef, undef, undef, undef, undef, undef, undef, undef], defers := [] }) ?assign ?body ?done ?stop
  case assign =>
    intro l x W K hK
    gi_wp2
    exact hK
  case body =>
    rintro l pre x W hI hlt
    obtain ⟨sb, hsb⟩ : ∃ s, s = secAt L x := ⟨_, rfl⟩
    have hxL : x.val < L.length := by rw [hNl]; exact x.isLt
    have hget : L[x.val]? = some sb := by rw [hsb]; unfold secAt; simp [List.getD, hxL]
    have hsl : sb.length = 64 := hSect.get hget
    have hsm : ∀ y ∈ sb, y < 256 := HS.out sb (List.mem_of_getElem? hget)
    have hbW : W.heap[g]? = w1.heap[g]? := (hI.only.block g (by have := HBB.out; omega) (by have := HBB.out; omega)).trans (HB2.out.block g (by have := HBB.out; omega))
    have hlies : Lies W (pieceC g 0 x) sb := .inr (.inr ⟨g, 0 + x.val * 64, 64, by rw [hsl]; rfl, fun j hj => by
      have h1 := HAT.out (x.val * 64 + j) (by rw [flat_length hSect]; omega)
      rw [World.cell?_of_block (a := ⟨g, 0 + x.val * 64 + j, none⟩) hbW, Nat.add_assoc, h1]
      have h2 := flat_get hSect hget (show j < 64 by omega)
      simp only [List.getD, h2]⟩)
    have hld : Lies W.drew (pieceC g 0 x) sb := lies_on hlies ((Below.refl _ W).drew)
    have htn := turn_any hld hsm
    obtain ⟨T, hT⟩ : ∃ T, T = (stOf sb).turn := ⟨_, rfl⟩
    rw [← hT] at htn
    obtain ⟨Q, hQ⟩ : ∃ Q, Q = topP L pre := ⟨_, rfl⟩
    have HTN := Lib.hid htn
    have HI := Lib.hid hI
    have HQ : Hid (Q = topP L pre ∧ T = (stOf (secAt L x)).turn) := Lib.hid ⟨hQ, by rw [← hsb]; exact hT⟩
    have q4 : ∀ W', Below W.heap.size W W' → W'.cell? ⟨B4, 0, none⟩ = some (.int .u32 (Q : Int)) ∧ W'.frozen? ⟨B4, 0, none⟩ = false := fun W' hW' => by
      have h1 : Arr W' B4 38 [.int .u32 (topP L pre : Int)] := HI.out.box.only (only_beyond (S := fun _ => False) hW') (fun e => e)
      exact ⟨by rw [HQ.out.1]; exact h1.cell rfl, h1.free 0⟩
    obtain ⟨c4, f4⟩ := q4 W.drew ((Below.refl _ _).drew)
    have Q4 := Lib.hid q4
    have HDR : Hid (Below W.heap.size W W.drew) := Lib.hid ((Below.refl _ W).drew)
    clear hsb hxL hget hsl hsm hbW hlies hld htn hT hQ hI q4
    gi_wp2_with fail
    gi_region_with (first | (refine ⟨trivial, ?_⟩; gi_at_call 36; refine (CallsIn.inRound l (callsIn_wide.2 HTN.out)).mono ?_; rintro e w3 ⟨rfl, hb3⟩; have HB3 := Lib.hid hb3; obtain ⟨c43, f43⟩ := Q4.out w3 (HDR.out.trans hb3); clear hb3; dsimp only))
    all_goals (try simp only [List.getElem_toArray, List.getElem_cons_succ, List.getElem_cons_zero, Act.put, List.setIfInBounds_toArray, List.set_cons_succ, List.set_cons_zero])
    all_goals gi_wp2
    all_goals (first | (have hst := HI.out.step (Z := T) (HDR.out.trans HB3.out) HQ.out (by omega); exact ⟨hst.1, HI.out.keepC hst.2 (by have := HBB.out; omega) (by have := HBB.out; omega) (by have := HBB.out; omega) (by have := HBB.out; omega), hst.2⟩) | (have hst := HI.out.step (Z := Q) (HDR.out.trans HB3.out) HQ.out (by omega); exact ⟨hst.1, HI.out.keepC hst.2 (by have := HBB.out; omega) (by have := HBB.out; omega) (by have := HBB.out; omega) (by have := HBB.out; omega), hst.2⟩))
  case done =>
    rintro D ys W hD rfl hI hK
    have h' := hI.grown (grownBy_putObj' W D (.deferred none)) (fun q e => by cases e; exact ⟨hD, _, hK, rfl⟩)
    have c4 := hI.box.cell (i := 0) rfl
    rw [topP_all L hNl, ← HZ.out] at c4
    have hZt := HTOP.out
    have t1 : ((Z : Int) == 4294967295) = false := by simp; omega
    have e1 : IntKind.u32.wrap ((Z : Int) + 1) = ((Z + 1 : Nat) : Int) := by rw [IntKind.wrap_u32]; omega
    have HF : Hid (Below w.heap.size w (W.putObj D (.deferred none))) := Lib.hid (HBW.out.trans (h'.only.below (by have := HBW.out.size; omega) (fun k e => by have := HBZ.out; omega)))
    clear h' hI
    gi_wp2
    refine ⟨by simp, .inl ⟨_, _, rfl, run_takeDeferred hK, ?_⟩⟩
    refine ⟨_, results_tmp2 rfl _ _ _, ?_⟩
    exact ⟨rfl, HF.out⟩
  case stop =>
    rintro D cd pre W hD ⟨k, hk, rfl⟩ hf
    exact hf.elim
end Go.Proofs.YtcdgbmeechnpiaaDoor
/- A vault's calls: Commit, Seal, Room, Turn. -/
namespace Go.Proofs.YtcdgbmeechnpiaaDoor
open Go.RowKit

/-- of the old blocks just the vault's, its journal's and its device's are written -/
structure VKept (V J P : Nat) (w w' : World) : Prop where
  only : Only (fun q => q = V ∨ q = J ∨ DBlk w P q) w w'
  own : ∀ k, DBlk w' P k → DBlk w P k ∨ w.heap.size ≤ k
theorem JKept.vault {V J P : Nat} {w w' : World} (h : JKept V P w w') : VKept V J P w w' := ⟨h.only.mono (fun _ _ hk => hk.elim .inl (fun h => .inr (.inr h))), h.own⟩
theorem JKept.journal {V J P : Nat} {w w' : World} (h : JKept J P w w') : VKept V J P w w' := ⟨h.only.mono (fun _ _ hk => .inr hk), h.own⟩
theorem VKept.trans {V J P : Nat} {a b c : World} (h : VKept V J P a b) (k : VKept V J P b c) : VKept V J P a c :=
  ⟨h.only.trans k.only (fun i hi ht => ht.elim .inl (fun ht => ht.elim (fun e => .inr (.inl e)) (fun ht => (h.own i ht).elim (fun h => .inr (.inr h)) fun h1 => absurd hi (by omega)))), fun i hi => (k.own i hi).elim (h.own i) fun h1 => .inr (Nat.le_trans h.only.size h1)⟩
theorem VKept.notD {V J P q : Nat} {w w' : World} (h : VKept V J P w w') (hq : q < w.heap.size) (hn : ¬ DBlk w P q) : ¬ DBlk w' P q := fun hh => (h.own q hh).elim hn (fun h1 => by omega)
/-- a vault with its journal, on its device: half k of N sectors, turn T, n of its sectors used -/
structure VSit (B : Nat) (w : World) (V J P k N T n : Nat) (d : Dev) : Prop where
  dev : DevAt w B P d
  va : VAt w V P k T (some J) false
  jo : JAt w J P (k * N) N T n
  vn : ¬ DBlk w P V
  jn : ¬ DBlk w P J
  vj : J ≠ V
  vb : B ≤ V
  jb : B ≤ J
  half : k ≤ 1
  len : d.lies.length = 2 * N
  pos : 4 ≤ N
  turn : T ≠ 0 ∧ T < 4294967296
section
variable {B : Nat} {w : World} {V J P k N T n : Nat} {d : Dev}
theorem VSit.only {S : Nat → Prop} {w' : World} (h : VSit B w V J P k N T n d) (ho : Only S w w') (h1 : ¬ S V) (h2 : ¬ S J) (h3 : ∀ q, DBlk w P q → ¬ S q) : VSit B w' V J P k N T n d := by
  have hd : ∀ q, DBlk w' P q → DBlk w P q := fun q hh => by
    obtain ⟨g1, g2, wv, hd⟩ := h.dev
    have hP : P < w.heap.size := hd.blk.lt
    rcases hh with h4 | ⟨i, v, hi, hv, hk⟩
    · exact .inl h4
    · exact .inr ⟨i, v, hi, by rw [← hv]; exact (World.cell?_of_block (a := ⟨P, i, none⟩) (ho.block P hP (h3 P hd.isP))).symm, hk⟩
  exact ⟨h.dev.only ho h3, h.va.only ho h1, h.jo.only ho h2, fun hh => h.vn (hd V hh), fun hh => h.jn (hd J hh), h.vj, h.vb, h.jb, h.half, h.len, h.pos, h.turn⟩
theorem VSit.on {w' : World} (h : VSit B w V J P k N T n d) (hb : Below w.heap.size w w') : VSit B w' V J P k N T n d := h.only (only_beyond (S := fun _ => False) hb) (fun e => e) (fun e => e) (fun _ _ e => e)
theorem VSit.below {w' : World} (h : VSit B w V J P k N T n d) (hB : B ≤ w.heap.size) (hk : VKept V J P w w') : Below B w w' := hk.only.below hB (fun q h1 => by
  rcases h1 with e | e | h1
  · rw [e]; exact h.vb
  · rw [e]; exact h.jb
  · exact h.dev.low h1)
theorem VSit.small (h : VSit B w V J P k N T n d) : N ≤ 4096 ∧ d.lies.length / 2 = N := by have h1 := h.dev.ok.size; have h2 := h.len; omega
end
set_option maxRecDepth 1000000 in
set_option maxHeartbeats 4000000 in
theorem vaturn_any {w : World} {V P h t : Nat} {j : Option Nat} {am : Bool} (hv : VAt w V P h t j am) : Calls Tryd.prog 10 #[.pointer (some ⟨V, 0, none⟩)] w fun e w' => e = .returned (.int .u32 (t : Int)) ∧ w' = w := by
  obtain ⟨c0, c1, c2, c3, c4⟩ := hv.cells
  clear hv
  go_enter Tryd.func10, Tryd.ntmps10
  go_wp2
  go_ret
  exact ⟨rfl, rfl⟩
set_option maxRecDepth 1000000 in
set_option maxHeartbeats 4000000 in
theorem varoom_any {w : World} {B V J P k N T n : Nat} {d : Dev} (h : VSit B w V J P k N T n d) (hn : n ≤ N) : Calls Tryd.prog 9 #[.pointer (some ⟨V, 0, none⟩)] w fun e w' => e = .returned (.int .i64 ((47 * (N - n) : Nat) : Int)) ∧ Below w.heap.size w w' := by
  obtain ⟨c0, c1, c2, c3, c4⟩ := h.va.cells
  have HR := Lib.hid (joroom_any h.jo hn (by have := h.small; omega))
  clear h
  go_enter Tryd.func9, Tryd.ntmps9
  go_wp2_with (go_at_call 29; refine (HR.out).mono ?_; rintro e w1 ⟨rfl, hb⟩; have HB := Lib.hid hb; clear hb; dsimp only)
  go_ret
  exact ⟨rfl, HB.out⟩
set_option maxRecDepth 1000000 in
set_option maxHeartbeats 4000000 in
theorem valeft_any {w : World} {B V J P k N T n : Nat} {d : Dev} (h : VSit B w V J P k N T n d) (hn : n ≤ N) : Calls Tryd.prog 26 #[.pointer (some ⟨V, 0, none⟩)] w fun e w' => e = .returned (.int .i64 ((N - n : Nat) : Int)) ∧ Below w.heap.size w w' := by
  obtain ⟨c0, c1, c2, c3, c4⟩ := h.va.cells
  have HSZ : Hid (∀ w1, Below w.heap.size w w1 → Calls Tryd.prog 23 #[.pointer (some ⟨P, 0, none⟩)] w1 fun e w' => e = .returned (.int .i64 (N : Int)) ∧ w' = w1) := Lib.hid (fun w1 hb => by
    have := vasize_any (h.dev.beyond hb)
    rwa [h.small.2] at this)
  have HNX : Hid (∀ w1, Below w.heap.size w w1 → Calls Tryd.prog 40 #[.pointer (some ⟨J, 0, none⟩)] w1 fun e w' => e = .returned (.int .i64 (n : Int)) ∧ w' = w1) := Lib.hid (fun w1 hb => jonext_any (h.jo.on hb))
  have hN := h.small.1
  have e1 : IntKind.i64.wrap ((N : Int) - (n : Int)) = ((N - n : Nat) : Int) := by rw [IntKind.wrap_i64]; omega
  have HD : Hid (∀ q, Below w.heap.size w (w.drewN q)) := Lib.hid (fun q => below_drewN (Below.refl _ _) _)
  clear h
  go_enter Tryd.func26, Tryd.ntmps26
  go_wp2_with fail
  go_quiet (first | (go_at_call 23; with_reducible refine Calls.quiet_of_same (HSZ.out _ (HD.out _))) | (go_at_call 40; with_reducible refine Calls.quiet_of_same (HNX.out _ (HD.out _))))
  go_wp2
  go_ret
  exact ⟨rfl, HD.out _⟩
set_option maxRecDepth 1000000 in
set_option maxHeartbeats 4000000 in
theorem vacommit_full {w : World} {B V J P k N T n : Nat} {d : Dev} {D : List Nat} {v : Value} (h : VSit B w V J P k N T n d) (hn : n ≤ N) (hv : Lies w v D) (hbig : D.length ≤ 1000000000) (hf : N < n + pieces D.length) :
    Calls Tryd.prog 8 #[.pointer (some ⟨V, 0, none⟩), v] w fun e w' => e = .returned (.int .i64 6) ∧ Below w.heap.size w w' := by
  obtain ⟨a, c, rfl⟩ := lies_len hv
  obtain ⟨c0, c1, c2, c3, c4⟩ := h.va.cells
  have HLF := Lib.hid (valeft_any h hn)
  have hN := h.small.1
  obtain ⟨l, hl⟩ : ∃ l, l = D.length := ⟨_, rfl⟩
  obtain ⟨pc, hpc⟩ : ∃ p, p = pieces l := ⟨_, rfl⟩
  obtain ⟨m, hm⟩ : ∃ m, m = N - n := ⟨_, rfl⟩
  rw [← hl, ← hpc] at hf
  rw [← hl] at hbig ⊢
  rw [← hm] at HLF
  have t1 : decide ((m : Int) < (pc : Int)) = true := by simp; omega
  have t2 : m < pc := by omega
  have HP := Lib.hid hpc
  clear h hv hl hpc hm
  go_enter Tryd.func8, Tryd.ntmps8
  go_wp2_with (first | (go_at_call 22; refine (jcost_any _ (m := l) (by omega)).mono ?_; rw [← HP.out]; rintro e w1 ⟨rfl, hw⟩; replace hw := hw.symm; subst hw; dsimp only) | (go_at_call 26; refine (HLF.out).mono ?_; rintro e w2 ⟨rfl, hb⟩; have HB := Lib.hid hb; clear hb; dsimp only))
  go_ret
  exact ⟨rfl, HB.out⟩
/-- something went amiss, or not -/
theorem va_amiss {w : World} {V P h t : Nat} {j : Option Nat} {am : Bool} (H : VAt w V P h t j am) (b : Bool) : VAt (w.setCell ⟨V, 4, none⟩ (.bool b)) V P h t j b ∧ Only (fun q => q = V) w (w.setCell ⟨V, 4, none⟩ (.bool b)) :=
  ⟨Arr.set H 4 (.bool b), Only.setCell (S := fun q => q = V) _ (p := ⟨V, 4, none⟩) rfl _⟩
theorem va_amissK {w w3 : World} {B V J P h t : Nat} {j : Option Nat} {am : Bool} {d : Dev} (H : VAt w3 V P h t j am) (hd : DevAt w3 B P d) (hV : ¬ DBlk w3 P V) (hk : VKept V J P w w3) (b : Bool) :
    VAt (w3.setCell ⟨V, 4, none⟩ (.bool b)) V P h t j b ∧ DevAt (w3.setCell ⟨V, 4, none⟩ (.bool b)) B P d ∧ VKept V J P w (w3.setCell ⟨V, 4, none⟩ (.bool b)) ∧ Only (fun q => q = V) w3 (w3.setCell ⟨V, 4, none⟩ (.bool b)) := by
  obtain ⟨h1, h2⟩ := va_amiss H b
  obtain ⟨h3, h4⟩ := jkept_set hd hV h2
  exact ⟨h1, h4, hk.trans h3.vault, h2⟩
set_option maxRecDepth 1000000 in
set_option maxHeartbeats 8000000 in
theorem vacommit_any {w : World} {B V J P k N T n : Nat} {d : Dev} {D : List Nat} {v : Value} (h : VSit B w V J P k N T n d) (hB : B ≤ w.heap.size) (hgB : 0 < B) (hv : Lies w v D) (hD : ∀ x ∈ D, x < 256) (hl : StepsLaid w) (hf : n + pieces D.length ≤ N) (hfit : Fit d) :
    Calls Tryd.prog 8 #[.pointer (some ⟨V, 0, none⟩), v] w fun e w' => VKept V J P w w' ∧
      ((d.Goes (pieces D.length) ∧ e = .returned (.int .i64 0) ∧ VSit B w' V J P k N T (n + pieces D.length) (d.run (k * N + n) ((splitS T n D).map secB)).flush) ∨
       (¬ d.Goes (pieces D.length) ∧ e = .returned (.int .i64 13) ∧ DevAt w' B P (d.fell (k * N + n) ((splitS T n D).map secB)))) := by
  obtain ⟨a, c, rfl⟩ := lies_len hv
  obtain ⟨c0, c1, c2, c3, c4⟩ := h.va.cells
  have HLF := Lib.hid (valeft_any h (by omega))
  have hN := h.small.1
  have HH := Lib.hid h
  have hkN : k * N + N ≤ d.lies.length := by
    rw [h.len]
    have : k = 0 ∨ k = 1 := by have := h.half; omega
    rcases this with rfl | rfl <;> omega
  have hgo := fun (w1 : World) (hb : Below w.heap.size w w1) (hg : d.Goes (pieces D.length)) => jocommit_goes (h.jo.on hb) (h.dev.beyond hb) (Nat.le_trans hB hb.size) hgB (fun hh => h.jn (dblk_on h.dev hb hh)) (lies_on hv hb) hD h.turn hkN hfit.up hfit.after hfit.keep (by have := hfit.few; omega) (hl.below hb) hf hg
  have hno := fun (w1 : World) (hb : Below w.heap.size w w1) (hg : ¬ d.Goes (pieces D.length)) => jocommit_falls (h.jo.on hb) (h.dev.beyond hb) (Nat.le_trans hB hb.size) hgB (fun hh => h.jn (dblk_on h.dev hb hh)) (lies_on hv hb) hD h.turn hkN hfit.up hfit.after hfit.keep (by have := hfit.few; omega) (hl.below hb) hf hg
  obtain ⟨l, hll⟩ : ∃ l, l = D.length := ⟨_, rfl⟩
  obtain ⟨pc, hpc⟩ : ∃ p, p = pieces l := ⟨_, rfl⟩
  obtain ⟨m, hm⟩ : ∃ m, m = N - n := ⟨_, rfl⟩
  obtain ⟨d3, hd3⟩ : ∃ x, x = (d.run (k * N + n) ((splitS T n D).map secB)).flush := ⟨_, rfl⟩
  obtain ⟨d4, hd4⟩ : ∃ x, x = d.fell (k * N + n) ((splitS T n D).map secB) := ⟨_, rfl⟩
  have hl3 : d3.lies.length = 2 * N := by rw [hd3]; show (Dev.told _).length = _; rw [Dev.told_length]; exact h.len
  have HL3 := Lib.hid hl3
  rw [← hll, ← hpc] at hf hgo hno ⊢
  rw [← hd3] at hgo ⊢
  rw [← hd4] at hno ⊢
  rw [← hm] at HLF
  have t1 : decide ((m : Int) < (pc : Int)) = false := by simp; omega
  have t2 : ¬ (m < pc) := by omega
  have hl1 : l ≤ 1000000000 := by rw [hpc] at hf; unfold pieces at hf; omega
  have HP := Lib.hid hpc
  have HGO := Lib.hid hgo
  have HNO := Lib.hid hno
  clear h hv hD hl hkN hfit hgo hno hll hpc hm hd3 hd4 hl3
  go_enter Tryd.func8, Tryd.ntmps8
  go_wp2_with (first | (go_at_call 22; refine (jcost_any _ (m := l) (by omega)).mono ?_; rw [← HP.out]; rintro e w1 ⟨rfl, hw⟩; replace hw := hw.symm; subst hw; dsimp only) | (go_at_call 26; refine (HLF.out).mono ?_; rintro e w2 ⟨rfl, hb⟩; have HB := Lib.hid hb; obtain ⟨x0, x1, x2, x3, x4⟩ := (HH.out.va.on hb).cells; clear hb; dsimp only))
  have hVw : ¬ DBlk w2 P V := fun hh => HH.out.vn (dblk_on HH.out.dev HB.out hh)
  have HVW := Lib.hid hVw
  have hVJ : V ≠ J := fun e => HH.out.vj e.symm
  have HVJ := Lib.hid hVJ
  have hV2 := HH.out.va.on HB.out
  have HV2 := Lib.hid hV2
  have HJN2 : Hid (¬ DBlk w2 P J) := Lib.hid (fun hh => HH.out.jn (dblk_on HH.out.dev HB.out hh))
  have HKB : Hid (VKept V J P w w2) := Lib.hid (kept_on HH.out.dev HB.out).jo.vault
  clear hVw hVJ hV2 c0 c1 c2 c3 c4
  by_cases hg : d.Goes pc
  · refine (HGO.out w2 HB.out hg).mono ?_
    rintro e w3 ⟨rfl, hd3, hj3, hk3⟩
    have HD3 := Lib.hid hd3
    have HJ3 := Lib.hid hj3
    have HK3 := Lib.hid hk3
    have HV3 : Hid (VAt w3 V P k T (some J) false) := Lib.hid (HV2.out.only hk3.only (fun hh => hh.elim HVJ.out HVW.out))
    have HVW3 : Hid (¬ DBlk w3 P V) := Lib.hid (fun hh => (hk3.own V hh).elim HVW.out (fun h1 => by have := HV2.out.lt; omega))
    have HJN3 : Hid (¬ DBlk w3 P J) := Lib.hid (fun hh => (hk3.own J hh).elim HJN2.out (fun h1 => by have := Arr.lt (HH.out.jo.on HB.out); omega))
    have f4 := Arr.free HV3.out 4
    obtain ⟨q0, q1, q2, q3, q4⟩ := HV3.out.cells
    have HG := Lib.hid hg
    clear hd3 hj3 hk3 hg x0 x1 x2 x3 x4
    dsimp only
    go_wp2
    go_ret
    obtain ⟨z1, z2, z3, z4⟩ := va_amissK HV3.out HD3.out HVW3.out (HKB.out.trans HK3.out.journal) false
    have zk := jkept_set HD3.out HVW3.out z4
    exact ⟨z3, .inl ⟨HG.out, rfl, ⟨z2, z1, HJ3.out.only z4 (fun e => HVJ.out e.symm), zk.1.notD HV3.out.lt HVW3.out, zk.1.notD (Arr.lt HJ3.out) HJN3.out, HH.out.vj, HH.out.vb, HH.out.jb, HH.out.half, HL3.out, HH.out.pos, HH.out.turn⟩⟩⟩
  · refine (HNO.out w2 HB.out hg).mono ?_
    rintro e w3 ⟨rfl, hd3, hk3⟩
    have HD3 := Lib.hid hd3
    have HK3 := Lib.hid hk3
    have HV3 := Lib.hid (HV2.out.kept hk3 HVW.out)
    have f4 := Arr.free HV3.out.1 4
    obtain ⟨q0, q1, q2, q3, q4⟩ := HV3.out.1.cells
    have HG := Lib.hid hg
    clear hd3 hk3 hg x0 x1 x2 x3 x4
    dsimp only
    go_wp2
    go_ret
    obtain ⟨z1, z2, z3, z4⟩ := va_amissK HV3.out.1 HD3.out HV3.out.2 (HKB.out.trans HK3.out.jo.vault) true
    exact ⟨z3, .inr ⟨HG.out, rfl, z2⟩⟩
end Go.Proofs.YtcdgbmeechnpiaaDoor
/- A vault's Seal. -/
namespace Go.Proofs.YtcdgbmeechnpiaaDoor
open Go.RowKit

theorem LaidD.code {d d' : Dev} {k N T : Nat} {D : List Nat} {c : Int} (h : LaidD d k N T D c d') : c = 0 ∨ c = 13 := by
  rcases h with ⟨h, _⟩ | ⟨d1, _, ⟨h, _⟩ | ⟨_, ⟨h, _⟩ | ⟨h, _⟩⟩⟩
  · exact .inr h
  · exact .inr h
  · exact .inr h
  · exact .inl h
theorem LaidD.len {d d' : Dev} {k N T : Nat} {D : List Nat} (h : LaidD d k N T D 0 d') : d'.lies.length = d.lies.length := by
  rcases h with ⟨h, _⟩ | ⟨d1, h1, ⟨h, _⟩ | ⟨_, ⟨h, _⟩ | ⟨_, d2, h2, rfl⟩⟩⟩
  · cases h
  · cases h
  · cases h
  · show d2.told.length = _
    rw [d2.told_length, h2.len]
    show (Dev.told _).length = _
    rw [Dev.told_length]
    exact h1.len
set_option maxRecDepth 1000000 in
set_option maxHeartbeats 8000000 in
theorem vaseal_any {w : World} {B V P N h t T : Nat} {j : Option Nat} {am : Bool} {d : Dev} {D : List Nat} {v : Value} (hv : VAt w V P h t j am) (hd : DevAt w B P d) (hB : B ≤ w.heap.size) (hgB : 0 < B) (hVd : ¬ DBlk w P V) (hVB : B ≤ V) (hh : h ≤ 1) (hN : d.lies.length = 2 * N) (hN4 : 4 ≤ N)
    (hT : T = topT d.told + 1) (hT2 : T < 4294967296) (hli : Lies w v D) (hfar : ∀ q, v.ownBlock = some q → D ≠ [] → ¬ DBlk w P q) (hDs : ∀ x ∈ D, x < 256) (hst : StepsLaid w) (hp : pieces D.length ≤ N) (hf : Fit d) :
    Calls Tryd.prog 11 #[.pointer (some ⟨V, 0, none⟩), v] w fun e w' => ∃ c d', e = .returned (.int .i64 c) ∧ LaidD d (1 - h) N T D c d' ∧ DevAt w' B P d' ∧ JKept V P w w' ∧ (c = 0 → ∃ J, w.heap.size ≤ J ∧ VSit B w' V J P (1 - h) N T (pieces D.length) d') := by
  have hL : d.lies.length ≤ 8192 := hd.ok.size
  have hN2 : d.lies.length / 2 = N := by omega
  obtain ⟨c0, c1, c2, c3, c4⟩ := hv.cells
  obtain ⟨av, cv, rfl⟩ := lies_len hli
  have HSZ : Hid (∀ w1, Below w.heap.size w w1 → Calls Tryd.prog 23 #[.pointer (some ⟨P, 0, none⟩)] w1 fun e w' => e = .returned (.int .i64 (N : Int)) ∧ w' = w1) := Lib.hid (fun w1 hb => by
    have := vasize_any (hd.beyond hb)
    rwa [hN2] at this)
  have HNX : Hid (∀ w1, Below w.heap.size w w1 → Calls Tryd.prog 24 #[.pointer (some ⟨P, 0, none⟩)] w1 fun e w' => e = .returned (.tuple #[.int .u32 (T : Int), .int .i64 0]) ∧ Below w1.heap.size w1 w') := Lib.hid (fun w1 hb => by rw [hT]; exact vanext_any (hd.beyond hb) hf.up hf.small (by omega))
  have hTT : T ≠ 0 ∧ T < 4294967296 := by omega
  have HTT := Lib.hid hTT
  have HLY : Hid (∀ w1, Below w.heap.size w w1 → _) := Lib.hid (fun w1 (hb : Below w.heap.size w w1) => valay_any (k := 1 - h) (hv.on hb) (hd.beyond hb) (Nat.le_trans hB hb.size) hgB (fun hh => hVd (dblk_on hd hb hh)) hN (by omega) (by omega) hTT (lies_on hli hb) (fun q hq hne hh => hfar q hq hne (dblk_on hd hb hh)) hDs (hst.below hb) hp hf)
  have HV := Lib.hid hv
  have HD := Lib.hid hd
  have HVD := Lib.hid hVd
  have HN := Lib.hid hN
  obtain ⟨l, hll⟩ : ∃ l, l = D.length := ⟨_, rfl⟩
  obtain ⟨pc, hpc⟩ : ∃ p, p = pieces l := ⟨_, rfl⟩
  obtain ⟨k, hk⟩ : ∃ k, k = 1 - h := ⟨_, rfl⟩
  rw [← hll, ← hpc] at hp HLY ⊢
  rw [← hk] at HLY ⊢
  have HK := Lib.hid hk
  have t1 : decide ((N : Int) < (pc : Int)) = false := by simp; omega
  have t2 : ¬ (N < pc) := by omega
  have hl1 : l ≤ 1000000000 := by rw [hpc] at hp; unfold pieces at hp; omega
  have e1 : IntKind.i64.wrap ((1 : Int) - (h : Int)) = (k : Int) := by rw [IntKind.wrap_i64]; omega
  have HP := Lib.hid hpc
  have HDN : Hid (∀ q, Below w.heap.size w (w.drewN q)) := Lib.hid (fun q => below_drewN (Below.refl _ _) _)
  clear hv hd hVd hN hli hfar hDs hst hf hll hpc hk hT hT2 hTT hN2
  go_enter Tryd.func11, Tryd.ntmps11
  go_wp2_with fail
  go_quiet (first | (go_at_call 22; with_reducible refine Calls.quiet_of_same ((jcost_any _ (m := l) (by omega)).mono (by rw [← HP.out]; rintro e w' ⟨rfl, rfl⟩; exact ⟨rfl, rfl⟩))) | (go_at_call 23; with_reducible refine Calls.quiet_of_same (HSZ.out _ (HDN.out _))))
  have HDQ := Lib.hid (HDN.out nq)
  go_wp2_with (go_at_call 24; refine (HNX.out _ HDQ.out).mono ?_; rintro e w2 ⟨rfl, hb⟩; have HB2 : Hid (Below w.heap.size w w2) := Lib.hid (HDQ.out.trans (hb.mono HDQ.out.size)); obtain ⟨x0, x1, x2, x3, x4⟩ := (HV.out.on HB2.out).cells; clear hb; dsimp only)
  clear c0 c1 c2 c3 c4
  refine (HLY.out w2 HB2.out).mono ?_
  rintro e w3 ⟨c, d3, h3, t3, j3, rfl, hla, hd3, hk3, hv3, hvd3, hz⟩
  have HLA := Lib.hid hla
  have HD3 := Lib.hid hd3
  have HK3 := Lib.hid hk3
  have HV3 := Lib.hid hv3
  have HVD3 := Lib.hid hvd3
  have HZ := Lib.hid hz
  have f4 := Arr.free hv3 4
  obtain ⟨q0, q1, q2, q3, q4⟩ := hv3.cells
  have hcc := hla.code
  clear hla hd3 hk3 hv3 hvd3 hz x0 x1 x2 x3 x4
  dsimp only
  have HKB : Hid (JKept V P w w3) := Lib.hid ((kept_on HD.out HB2.out).jo.trans HK3.out)
  rcases hcc with rfl | rfl
  · obtain ⟨rfl, rfl, J, rfl, hj3, hJ, hjd3⟩ := HZ.out rfl
    have HJ3 := Lib.hid hj3
    have HJD3 := Lib.hid hjd3
    have HJB : Hid (w.heap.size ≤ J) := Lib.hid (Nat.le_trans HB2.out.size hJ)
    clear hj3 hJ hjd3
    go_wp2
    go_ret
    obtain ⟨z1, z2⟩ := va_amiss HV3.out false
    obtain ⟨z3, z4⟩ := jkept_set HD3.out HVD3.out z2
    have hVlt := HV.out.lt
    have hJV : J ≠ V := fun e => by have := HJB.out; omega
    first | exact ⟨0, d3, rfl, HLA.out, z4, HKB.out.trans z3, fun _ => ⟨J, HJB.out, z4, z1, HJ3.out.only z2 hJV, z3.notD HV3.out.lt HVD3.out, z3.notD (Arr.lt HJ3.out) HJD3.out, hJV, hVB, Nat.le_trans hB HJB.out, by have := HK.out; omega, by rw [HLA.out.len]; exact HN.out, hN4, HTT.out⟩⟩ | exact ⟨0, rfl, d3, HLA.out, z4, HKB.out.trans z3, fun _ => ⟨J, HJB.out, z4, z1, HJ3.out.only z2 hJV, z3.notD HV3.out.lt HVD3.out, z3.notD (Arr.lt HJ3.out) HJD3.out, hJV, hVB, Nat.le_trans hB HJB.out, by have := HK.out; omega, by rw [HLA.out.len]; exact HN.out, hN4, HTT.out⟩⟩
  · go_wp2
    go_ret
    obtain ⟨z1, z2⟩ := va_amiss HV3.out true
    obtain ⟨z3, z4⟩ := jkept_set HD3.out HVD3.out z2
    exact ⟨13, d3, rfl, HLA.out, z4, HKB.out.trans z3, fun h => by cases h⟩
end Go.Proofs.YtcdgbmeechnpiaaDoor
/- The current half, its turn, its records. -/
namespace Go.Proofs.YtcdgbmeechnpiaaDoor
open Go.RowKit

theorem RowsO.less {B B' : Nat} {w : World} {v : Value} {us : List Value} {R : List (List Nat)} (h : RowsO B w v us R) (hb : B' ≤ B) : RowsO B' w v us R := ⟨ownsRow_less h.row hb, h.len, h.data⟩
/-- what is current, and perhaps another half -/
def curS (a : Int × Nat × List (List Nat)) (k : Nat) (t : Nat) (r : List (List Nat)) : Int × Nat × List (List Nat) := if r ≠ [] ∧ a.2.1 < t then ((k : Int), t, r) else a
/-- of the first k halves of N sectors -/
def Dev.curK (d : Dev) (N : Nat) : Nat → Int × Nat × List (List Nat)
  | 0 => (-1, 0, [])
  | k + 1 => curS (d.curK N k) k (turn0 (d.part (k * N) N)) (readsJ (d.part (k * N) N))
/-- what is told of the first k halves -/
def CurI (d : Dev) (N B k : Nat) (W : World) (hv tv rv : Value) : Prop := hv = .int .i64 (d.curK N k).1 ∧ tv = .int .u32 ((d.curK N k).2.1 : Int) ∧ ∃ us, RowsO B W rv us (d.curK N k).2.2
theorem CurI.on {d : Dev} {N B k : Nat} {W W' : World} {hv tv rv : Value} (h : CurI d N B k W hv tv rv) (hb : Below W.heap.size W W') : CurI d N B k W' hv tv rv := ⟨h.1, h.2.1, h.2.2.imp fun _ h => h.on hb⟩
set_option maxRecDepth 1000000 in
set_option maxHeartbeats 8000000 in
theorem vacur_any {w : World} {B P N : Nat} {d : Dev} (h : DevAt w B P d) (hup : d.down = false) (hs : SmallD d) (hN : N = d.lies.length / 2) (hN1 : 1 ≤ N) :
    Calls Tryd.prog 32 #[.pointer (some ⟨P, 0, none⟩)] w fun e w' => ∃ hv tv rv, e = .returned (.tuple #[hv, tv, rv, .int .i64 0]) ∧ CurI d N w.heap.size 2 w' hv tv rv ∧ Below w.heap.size w w' := by
  have hL : d.lies.length ≤ 8192 := h.ok.size
  have HST : Hid (∀ (w1 : World) (k : Nat), Below w.heap.size w w1 → k ≤ 1 → Calls Tryd.prog 39 #[.pointer (some ⟨P, 0, none⟩), .int .i64 (k : Int)] w1 fun e w' => e = .returned (.int .i64 ((k * N : Nat) : Int)) ∧ w' = w1) := Lib.hid (fun w1 k hb hk => by rw [hN]; exact vastart_any (h.beyond hb) hk)
  have HSZ : Hid (∀ w1, Below w.heap.size w w1 → Calls Tryd.prog 23 #[.pointer (some ⟨P, 0, none⟩)] w1 fun e w' => e = .returned (.int .i64 ((N : Nat) : Int)) ∧ w' = w1) := Lib.hid (fun w1 hb => by rw [hN]; exact vasize_any (h.beyond hb))
  have HRD : Hid (∀ (w1 : World) (k : Nat), Below w.heap.size w w1 → k ≤ 1 → Calls Tryd.prog 46 #[.pointer (some ⟨P, 0, none⟩), .int .i64 ((k * N : Nat) : Int), .int .i64 (N : Int)] w1 fun e w' => ∃ v us, e = .returned (.tuple #[v, .int .u32 (turn0 (d.part (k * N) N) : Int), .int .i64 0]) ∧ RowsO w1.heap.size w' v us (readsJ (d.part (k * N) N)) ∧ Below w1.heap.size w1 w') := Lib.hid (fun w1 k hb hk => by
    refine joread_ok (h.beyond hb) hN1 ?_ hup hs
    have : k = 0 ∨ k = 1 := by omega
    rcases this with rfl | rfl <;> omega)
  clear h hup hs hN hL
  go_enter Tryd.func32, Tryd.ntmps32
  go_wp2
  go_loopw [2, 3, 4, 10] (fun hv tv rv x wr => ∃ k : Nat, k ≤ 2 ∧ x = .int .i64 (k : Int) ∧ CurI d N w.heap.size k wr hv tv rv ∧ Below w.heap.size w wr) (fun _ _ _ x _ => 2 - (intOf x).toNat)
  case atStart => exact ⟨0, by omega, rfl, ⟨rfl, rfl, [], RowsO.nil _ _⟩, Below.refl _ _⟩
  case round =>
    obtain ⟨k, hk, rfl, hc, hb⟩ := hrel
    have HC := Lib.hid hc
    obtain ⟨rfl, rfl, us, hro⟩ := hc
    obtain ⟨av, cv, rfl⟩ := hro.slice
    have HB := Lib.hid hb
    clear hb hro
    by_cases hlt : k < 2
    · obtain ⟨T, hT⟩ : ∃ T, T = turn0 (d.part (k * N) N) := ⟨_, rfl⟩
      obtain ⟨R, hR⟩ : ∃ R, R = readsJ (d.part (k * N) N) := ⟨_, rfl⟩
      obtain ⟨hh, hhh⟩ : ∃ z, z = (d.curK N k).1 := ⟨_, rfl⟩
      obtain ⟨tt, htt⟩ : ∃ z, z = (d.curK N k).2.1 := ⟨_, rfl⟩
      obtain ⟨rr, hrr⟩ : ∃ z, z = (d.curK N k).2.2 := ⟨_, rfl⟩
      obtain ⟨S, hS⟩ : ∃ S, S = k * N := ⟨_, rfl⟩
      have HRK := HRD.out wr k HB.out (by omega)
      rw [← hT, ← hR, ← hS] at HRK
      replace HRK := Lib.hid HRK
      have HSK := HST.out wr k HB.out (by omega)
      rw [← hS] at HSK
      replace HSK := Lib.hid HSK
      have HZK := Lib.hid (HSZ.out wr HB.out)
      have hnext : d.curK N (k + 1) = curS (d.curK N k) k T R := by rw [hT, hR]; rfl
      have HX : Hid ((R ≠ [] ∧ tt < T → d.curK N (k + 1) = ((k : Int), T, R)) ∧ (¬ (R ≠ [] ∧ tt < T) → d.curK N (k + 1) = d.curK N k)) := Lib.hid (by
        rw [hnext, htt]
        unfold curS
        exact ⟨fun h => if_pos h, fun h => if_neg h⟩)
      rw [← hhh, ← htt, ← hrr]
      obtain ⟨m, hm⟩ : ∃ m, m = rr.length := ⟨_, rfl⟩
      rw [← hm]
      have HH : Hid (hh = (d.curK N k).1 ∧ tt = (d.curK N k).2.1 ∧ m = ((d.curK N k).2.2).length) := Lib.hid ⟨hhh, htt, by rw [hm, hrr]⟩
      clear hT hR hhh htt hrr hS hnext hm
      have t0 : decide ((k : Int) < 2) = true := by simp; omega
      go_wp2_with (first | (go_at_call 39; refine (HSK.out).mono ?_; rintro e w1 ⟨rfl, hw⟩; replace hw := hw.symm; subst hw; dsimp only) | (go_at_call 23; refine (HZK.out).mono ?_; rintro e w1 ⟨rfl, hw⟩; replace hw := hw.symm; subst hw; dsimp only))
      refine (HRK.out).mono ?_
      rintro e w2 ⟨v2, us2, rfl, hro2, hb2⟩
      obtain ⟨a2, c2, rfl⟩ := hro2.slice
      obtain ⟨mr, hmr⟩ : ∃ m, m = R.length := ⟨_, rfl⟩
      rw [← hmr]
      have HRO : Hid (RowsO w.heap.size w2 (.slice a2 mr c2) us2 R) := Lib.hid (by rw [hmr]; exact hro2.less HB.out.size)
      have HB2 : Hid (Below w.heap.size w w2) := Lib.hid (HB.out.trans (hb2.mono HB.out.size))
      have HC2 : Hid (CurI d N w.heap.size k w2 (.int .i64 hh) (.int .u32 (tt : Int)) (.slice av m cv)) := Lib.hid (by have := HC.out.on hb2; rwa [← HH.out.1, ← HH.out.2.1, ← HH.out.2.2] at this)
      have HMR := Lib.hid hmr
      clear hro2 hb2 hmr
      dsimp only
      by_cases hm0 : mr = 0
      · have t1 : decide ((0 : Int) < (mr : Int)) = false := by simp; omega
        have t1' : ¬ (0 < mr) := by omega
        have HE : Hid (d.curK N (k + 1) = d.curK N k) := Lib.hid (HX.out.2 (fun h => h.1 (List.length_eq_zero_iff.1 (by rw [← HMR.out]; exact hm0))))
        clear hm0
        go_wp2
        go_roundw
        case rel => exact ⟨k + 1, by omega, by simp, by unfold CurI; rw [HE.out]; exact HC2.out, HB2.out⟩
        case measure => simp [intOf]; omega
      · have t1 : decide ((0 : Int) < (mr : Int)) = true := by simp; omega
        have t1' : 0 < mr := by omega
        have hRne : R ≠ [] := fun e => by have := HMR.out; rw [e] at this; exact hm0 this
        by_cases htT : tt < T
        · have t2 : decide ((tt : Int) < (T : Int)) = true := by simp; omega
          have t2' := htT
          have HE : Hid (d.curK N (k + 1) = ((k : Int), T, R)) := Lib.hid (HX.out.1 ⟨hRne, htT⟩)
          clear hm0 hRne
          go_wp2
          go_roundw
          case rel => exact ⟨k + 1, by omega, by simp, by unfold CurI; rw [HE.out]; exact ⟨rfl, rfl, us2, HRO.out⟩, HB2.out⟩
          case measure => simp [intOf]; omega
        · have t2 : decide ((tt : Int) < (T : Int)) = false := by simp; omega
          have t2' := htT
          have HE : Hid (d.curK N (k + 1) = d.curK N k) := Lib.hid (HX.out.2 (fun h => htT h.2))
          clear hm0 hRne
          go_wp2
          go_roundw
          case rel => exact ⟨k + 1, by omega, by simp, by unfold CurI; rw [HE.out]; exact HC2.out, HB2.out⟩
          case measure => simp [intOf]; omega
    · obtain rfl : k = 2 := by omega
      go_wp2
      (try simp only [Exit.inBlock, Exit.then])
      refine bodyPost_ret (ret_four rfl _ _ _) rfl ?_
      exact ⟨_, _, _, rfl, HC.out, HB.out⟩
end Go.Proofs.YtcdgbmeechnpiaaDoor
/- Format of a new device. -/
namespace Go.Proofs.YtcdgbmeechnpiaaDoor
open Go.RowKit

theorem Wiped.calm {d d' : Dev} {frm n : Nat} {c : Int} (h : Wiped d frm n c d') (ha : d.after = 0) : c = 0 ∧ d'.after = 0 := by
  rcases h with ⟨_, h, rfl⟩ | ⟨_, ⟨h, _, rfl⟩ | ⟨_, h, _⟩⟩
  · exact ⟨h, ha⟩
  · exact ⟨h, by show d.after - _ = 0; omega⟩
  · exact absurd (.inl ha) h
theorem LaidD.calm {d d' : Dev} {k N T : Nat} {D : List Nat} {c : Int} (h : LaidD d k N T D c d') (ha : d.after = 0) : c = 0 ∧ d'.after = 0 := by
  rcases h with ⟨_, h⟩ | ⟨d1, h1, h⟩
  · have := (h.calm ha).1; omega
  · have ha1 := (h1.calm ha).2
    rcases h with ⟨_, h, _⟩ | ⟨_, ⟨_, h⟩ | ⟨h, d2, h2, rfl⟩⟩
    · exact absurd (.inl ha1) h
    · have := (h.calm (by show d1.after - _ = 0; omega)).1; omega
    · exact ⟨h, (h2.calm (by show d1.after - _ = 0; omega)).2⟩
theorem set_same {L : List (List Nat)} {z : List Nat} (h : ∀ s ∈ L, s = z) (i : Nat) : L.set i z = L := by
  refine List.ext_getElem? fun j => ?_
  by_cases hj : i = j
  · subst hj
    by_cases hi : i < L.length
    · rw [List.getElem?_set_self hi, List.getElem?_eq_getElem hi, h _ (List.getElem_mem hi)]
    · rw [List.getElem?_eq_none (by simp; omega), List.getElem?_eq_none (by omega)]
  · rw [List.getElem?_set_ne hj]
theorem laid_zero {L : List (List Nat)} (h : ∀ s ∈ L, s = List.replicate 64 0) (n : Nat) : ∀ off, laid L (posW off (List.replicate n [])) = L := by
  induction n with
  | zero => intro off; rfl
  | succ n ih =>
    intro off
    rw [List.replicate_succ]
    show laid (L.set off (padB [])) (posW (off + 1) (List.replicate n [])) = L
    rw [show padB [] = List.replicate 64 0 from rfl, set_same h, ih]
theorem fresh_wiped (m n off : Nat) : ((Dev.fresh m).run off (List.replicate n [])).flush = Dev.fresh m := by
  have e : (((Dev.fresh m).run off (List.replicate n [])).flush).lies = (Dev.fresh m).lies := by
    show laid (Dev.fresh m).lies ([] ++ posW off (List.replicate n [])) = _
    rw [List.nil_append]
    exact laid_zero (fun s hs => (List.mem_replicate.1 hs).2) n off
  show Dev.mk _ _ _ _ _ _ _ = _
  have e2 : (Dev.fresh m).after - (List.replicate n ([] : List Nat)).length = 0 := by show 0 - _ = 0; omega
  show Dev.mk (((Dev.fresh m).run off (List.replicate n [])).flush).lies [] false ((Dev.fresh m).after - (List.replicate n ([] : List Nat)).length) 0 0 0 = _
  rw [e, e2]
  rfl
theorem halfN {k N : Nat} (hk : k ≤ 1) : k * N + N ≤ 2 * N := by
  have : k = 0 ∨ k = 1 := by omega
  rcases this with rfl | rfl <;> omega
theorem fresh_told (m : Nat) : (Dev.fresh m).told = List.replicate m (List.replicate 64 0) := rfl
theorem zero_turn : (stOf (List.replicate 64 0)).turn = 0 := by unfold stOf; rw [unpackE_zero]; rfl
theorem fresh_top (m : Nat) : topT (Dev.fresh m).told = 0 := Nat.le_zero.1 (topT_le (fun s hs => by rw [fresh_told] at hs; rw [(List.mem_replicate.1 hs).2, zero_turn]; exact Nat.le_refl _))
/-- zeros tell nothing -/
theorem zeros_reads {L : List (List Nat)} (h : ∀ s ∈ L, s = List.replicate 64 0) : readsJ L = [] := by
  cases L with
  | nil => rfl
  | cons s L =>
    unfold readsJ
    rw [readJ_cons, if_neg]
    rw [h s List.mem_cons_self]
    unfold accB
    rw [unpackE_zero]; simp
theorem curS_nil (a : Int × Nat × List (List Nat)) (k t : Nat) : curS a k t [] = a := if_neg (fun h => h.1 rfl)
theorem fresh_cur (m N : Nat) : (Dev.fresh m).curK N 2 = (-1, 0, []) := by
  have h : ∀ k, readsJ ((Dev.fresh m).part (k * N) N) = [] := fun k => zeros_reads (fun s hs => (List.mem_replicate.1 (List.mem_of_mem_drop (List.mem_of_mem_take hs))).2)
  show curS (curS (-1, 0, []) 0 _ (readsJ ((Dev.fresh m).part (0 * N) N))) 1 _ (readsJ ((Dev.fresh m).part (1 * N) N)) = _
  rw [h 0, h 1, curS_nil, curS_nil]
theorem fresh_fit {m : Nat} : Fit (Dev.fresh m) := ⟨rfl, by show 0 < _; omega, by show 0 < _; omega, SmallD.fresh m, Nat.zero_le _⟩
set_option maxRecDepth 1000000 in
set_option maxHeartbeats 8000000 in
theorem vabegin_any {w : World} {B V P N h t T : Nat} {D : List Nat} {v : Value} (hv : VAt w V P h t none false) (hd : DevAt w B P (Dev.fresh (2 * N))) (hB : B ≤ w.heap.size) (hgB : 0 < B) (hVd : ¬ DBlk w P V) (hN4 : 4 ≤ N)
    (hT : T ≠ 0 ∧ T < 4294967296) (hli : Lies w v D) (hfar : ∀ q, v.ownBlock = some q → D ≠ [] → ¬ DBlk w P q) (hDs : ∀ x ∈ D, x < 256) (hst : StepsLaid w) (hp : pieces D.length ≤ N) :
    Calls Tryd.prog 25 #[.pointer (some ⟨V, 0, none⟩), .int .u32 (T : Int), v] w fun e w' => ∃ d', e = .returned (.int .i64 0) ∧ LaidD (Dev.fresh (2 * N)) 0 N T D 0 d' ∧ DevAt w' B P d' ∧ JKept V P w w' ∧ ¬ DBlk w' P V ∧ ∃ J, VAt w' V P 0 T (some J) false ∧ JAt w' J P 0 N T (pieces D.length) ∧ w.heap.size ≤ J ∧ ¬ DBlk w' P J := by
  have hln : (Dev.fresh (2 * N)).lies.length = 2 * N := by simp [Dev.fresh]
  have hL : (Dev.fresh (2 * N)).lies.length ≤ 8192 := hd.ok.size
  have hN2 : (Dev.fresh (2 * N)).lies.length / 2 = N := by omega
  obtain ⟨av, cv, rfl⟩ := lies_len hli
  obtain ⟨c0, c1, c2, c3, c4⟩ := hv.cells
  have HST : Hid (∀ (w1 : World) (k : Nat), DevAt w1 B P (Dev.fresh (2 * N)) → k ≤ 1 → Calls Tryd.prog 39 #[.pointer (some ⟨P, 0, none⟩), .int .i64 (k : Int)] w1 fun e w' => e = .returned (.int .i64 ((k * N : Nat) : Int)) ∧ w' = w1) := Lib.hid (fun w1 k h1 hk => by
    have := vastart_any (k := k) h1 hk
    rwa [hN2] at this)
  have HSZ : Hid (∀ w1, DevAt w1 B P (Dev.fresh (2 * N)) → Calls Tryd.prog 23 #[.pointer (some ⟨P, 0, none⟩)] w1 fun e w' => e = .returned (.int .i64 (N : Int)) ∧ w' = w1) := Lib.hid (fun w1 h1 => by
    have := vasize_any h1
    rwa [hN2] at this)
  have HWI : Hid (∀ (w1 : World) (k : Nat), B ≤ w1.heap.size → DevAt w1 B P (Dev.fresh (2 * N)) → k ≤ 1 → Calls Tryd.prog 38 #[.pointer (some ⟨P, 0, none⟩), .int .i64 ((k * N : Nat) : Int), .int .i64 (N : Int)] w1 fun e w' => e = .returned (.int .i64 0) ∧ DevAt w' B P (Dev.fresh (2 * N)) ∧ Kept P w1 w') := Lib.hid (fun w1 k hB1 h1 hk => by
    refine (jowipe_any (frm := k * N) (n := N) h1 hB1 (by omega) (by rw [hln]; exact halfN hk) rfl fresh_fit.after fresh_fit.keep (Nat.zero_le _)).mono ?_
    rintro e w' ⟨c, d', rfl, ⟨rfl, _, rfl⟩ | ⟨_, hg, _⟩, hd', hk'⟩
    · rw [fresh_wiped] at hd'
      exact ⟨rfl, hd', hk'⟩
    · exact absurd (.inl rfl) hg)
  have HFL : Hid (Calls Tryd.prog 37 #[.pointer (some ⟨P, 0, none⟩)] w fun e w' => e = .returned (.int .i64 0) ∧ DevAt w' B P (Dev.fresh (2 * N)) ∧ Kept P w w') := Lib.hid (flush_ok hd rfl)
  have HCU : Hid (∀ w1, DevAt w1 B P (Dev.fresh (2 * N)) → Calls Tryd.prog 32 #[.pointer (some ⟨P, 0, none⟩)] w1 fun e w' => ∃ rv, e = .returned (.tuple #[.int .i64 (-1), .int .u32 0, rv, .int .i64 0]) ∧ Below w1.heap.size w1 w') := Lib.hid (fun w1 h1 => by
    refine (vacur_any (N := N) h1 rfl (SmallD.fresh _) hN2.symm (by omega)).mono ?_
    rintro e w' ⟨hv, tv, rv, rfl, ⟨hh, ht, _⟩, hb⟩
    rw [fresh_cur] at hh ht
    exact ⟨rv, by rw [hh, ht]; rfl, hb⟩)
  have HLY : Hid (∀ w1, Kept P w w1 → DevAt w1 B P (Dev.fresh (2 * N)) → _) := Lib.hid (fun w1 (hk : Kept P w w1) (h1 : DevAt w1 B P (Dev.fresh (2 * N))) => valay_any (k := 0) (hv.kept hk hVd).1 h1 (Nat.le_trans hB hk.only.size) hgB (hv.kept hk hVd).2 hln (by omega) (by omega) hT (hli.kept hk hfar) (fun q hq hne hh => (hk.own q hh).elim (hfar q hq hne) (fun h1 => by have := hli.block hq hne; omega)) hDs (hst.keep (hd.below hB hk) hgB) hp fresh_fit)
  have HV := Lib.hid hv
  have HVD := Lib.hid hVd
  have HD := Lib.hid hd
  clear hv hd hVd hli hfar hDs hst hp hln hL hN2 hT
  go_enter Tryd.func25, Tryd.ntmps25
  go_wp2_with (go_at_call 37; refine (HFL.out).mono ?_; rintro e w1 ⟨rfl, hd1, hk1⟩; have HD1 := Lib.hid hd1; have HK1 := Lib.hid hk1; obtain ⟨x0, x1, x2, x3, x4⟩ := (HV.out.kept hk1 HVD.out).1.cells; clear hd1 hk1 c0 c1 c2 c3 c4; dsimp only)
  refine (HCU.out w1 HD1.out).mono ?_
  rintro e w2 ⟨rv, rfl, hb2⟩
  have HD2 : Hid (DevAt w2 B P (Dev.fresh (2 * N))) := Lib.hid (HD1.out.beyond hb2)
  have HK2 : Hid (Kept P w w2) := Lib.hid (HK1.out.trans (kept_on HD1.out hb2))
  clear hb2 x0 x1 x2 x3 x4
  dsimp only
  go_wp2_with fail
  go_loopw [36] (fun x wr => ∃ k : Nat, k ≤ 2 ∧ x = .int .i64 (k : Int) ∧ DevAt wr B P (Dev.fresh (2 * N)) ∧ Kept P w wr) (fun x _ => 2 - (intOf x).toNat)
  case atStart => exact ⟨0, by omega, rfl, HD2.out, HK2.out⟩
  case round =>
    obtain ⟨k, hk, rfl, hdk, hkk⟩ := hrel
    have HDK := Lib.hid hdk
    have HKK := Lib.hid hkk
    obtain ⟨c0, c1, c2, c3, c4⟩ := (HV.out.kept hkk HVD.out).1.cells
    clear hdk hkk
    by_cases hlt : k < 2
    · have t0 : decide ((k : Int) < 2) = true := by simp; omega
      have t1 : ((k : Int) == -1) = false := by simp
      have HS1 := HST.out _ k HDK.out.drew (by omega)
      have HZ1 := Lib.hid (HSZ.out _ HDK.out.drew)
      have HW1 := HWI.out wr.drew k (Nat.le_trans hB HKK.out.only.size) HDK.out.drew (by omega)
      obtain ⟨S, hS⟩ : ∃ S, S = k * N := ⟨_, rfl⟩
      rw [← hS] at HS1 HW1
      replace HS1 := Lib.hid HS1
      replace HW1 := Lib.hid HW1
      clear hS
      go_wp2_with fail
      refine wp_region_still_tail 15 (by kernel_rfl) (by kernel_rfl) ?_
      simp only [List.take_succ_cons, List.take_zero, List.drop_succ_cons, List.drop_zero]
      iterate 9 still_step
      still_call HS1.out
      iterate 4 still_step
      still_call HZ1.out
      refine wpStill_nil ?_
      change wpList _ _ _ _ _ wr.drew
      go_wp2_with (go_at_call 38; with_reducible refine (HW1.out).mono ?_; rintro e w4 ⟨rfl, hd4, hk4⟩; have HD4 := Lib.hid hd4; have HK4 : Hid (Kept P w w4) := Lib.hid (HKK.out.drewK.trans hk4); clear hd4 hk4; dsimp only)
      go_roundw
      case rel => exact ⟨k + 1, by omega, by simp, HD4.out, HK4.out⟩
      case measure => simp [intOf]; omega
    · obtain rfl : k = 2 := by omega
      go_wp2_with fail
      refine (HLY.out wr HKK.out HDK.out).mono ?_
      rintro e w5 ⟨c, d5, h5, t5, j5, rfl, hla, hd5, hk5, hv5, hvd5, hz⟩
      obtain ⟨rfl, _⟩ := hla.calm rfl
      have HLA := Lib.hid hla
      have HD5 := Lib.hid hd5
      have HK5 := Lib.hid hk5
      have HVD5 := Lib.hid hvd5
      obtain ⟨rfl, rfl, J, rfl, hj5, hJ, hjd5⟩ := hz rfl
      have HV5 := Lib.hid hv5
      have HF := Lib.hid (And.intro hj5 (And.intro hJ hjd5))
      clear hla hd5 hk5 hv5 hvd5 hz hj5 hJ hjd5
      dsimp only
      go_wp2
      go_ret
      have hj := HF.out.1
      rw [Nat.zero_mul] at hj
      exact ⟨d5, rfl, HLA.out, HD5.out, HKK.out.jo.trans HK5.out, HVD5.out, J, HV5.out, hj, Nat.le_trans HKK.out.only.size HF.out.2.1, HF.out.2.2⟩
theorem JKept.old {V P : Nat} {a b c : World} (h : Kept P a b) (k : JKept V P b c) (hV : a.heap.size ≤ V) : Kept P a c :=
  ⟨h.only.trans k.only (fun i hi ht => ht.elim (fun e => absurd hi (by omega)) (fun ht => (h.own i ht).elim id fun h1 => absurd hi (by omega))), fun i hi => (k.own i hi).elim (h.own i) fun h1 => .inr (Nat.le_trans h.only.size h1)⟩
theorem Kept.notD {P q : Nat} {w w' : World} (h : Kept P w w') (hq : q < w.heap.size) (hn : ¬ DBlk w P q) : ¬ DBlk w' P q := fun hh => (h.own q hh).elim hn (fun h1 => by omega)
set_option maxRecDepth 1000000 in
set_option maxHeartbeats 8000000 in
theorem vaformat_any {w : World} {B P N : Nat} {D : List Nat} {v : Value} (hd : DevAt w B P (Dev.fresh (2 * N))) (hB : B ≤ w.heap.size) (hgB : 0 < B) (hN4 : 4 ≤ N)
    (hli : Lies w v D) (hfar : ∀ q, v.ownBlock = some q → D ≠ [] → ¬ DBlk w P q) (hDs : ∀ x ∈ D, x < 256) (hst : StepsLaid w) (hp : pieces D.length ≤ N) :
    Calls Tryd.prog 7 #[.pointer (some ⟨P, 0, none⟩), v] w fun e w' => ∃ V J d', e = .returned (.tuple #[.pointer (some ⟨V, 0, none⟩), .int .i64 0]) ∧ LaidD (Dev.fresh (2 * N)) 0 N 1 D 0 d' ∧ VSit B w' V J P 0 N 1 (pieces D.length) d' ∧ Kept P w w' ∧ w.heap.size ≤ V ∧ w.heap.size ≤ J := by
  have hln : (Dev.fresh (2 * N)).lies.length = 2 * N := by simp [Dev.fresh]
  have hL : (Dev.fresh (2 * N)).lies.length ≤ 8192 := hd.ok.size
  have hN2 : (Dev.fresh (2 * N)).lies.length / 2 = N := by omega
  obtain ⟨av, cv, rfl⟩ := lies_len hli
  have HLN := Lib.hid (len_any hd)
  rw [hln] at HLN
  have HSZ := Lib.hid (vasize_any hd)
  rw [hN2] at HSZ
  have HDW : Hid (Calls Tryd.prog 18 #[.pointer (some ⟨P, 0, none⟩)] w fun e w' => e = .returned (.bool false) ∧ w' = w) := Lib.hid (down_any hd)
  have HNX : Hid (Calls Tryd.prog 24 #[.pointer (some ⟨P, 0, none⟩)] w fun e w' => e = .returned (.tuple #[.int .u32 1, .int .i64 0]) ∧ Below w.heap.size w w') := Lib.hid (by
    have h := vanext_any hd rfl (SmallD.fresh _) (by rw [fresh_top]; omega)
    rw [fresh_top] at h
    exact h)
  have HBG : Hid (∀ (w1 : World) (V h t : Nat), Below w.heap.size w w1 → VAt w1 V P h t none false → w.heap.size ≤ V → _) := Lib.hid (fun w1 V h t (hb : Below w.heap.size w w1) (hv : VAt w1 V P h t none false) (hV : w.heap.size ≤ V) => vabegin_any (T := 1) hv (hd.beyond hb) (Nat.le_trans hB hb.size) hgB (fun hh => by have := hd.lt (dblk_on hd hb hh); omega) hN4 (by omega) (lies_on hli hb) (fun q hq hne hh => hfar q hq hne (dblk_on hd hb hh)) hDs (hst.below hb) hp)
  have HD := Lib.hid hd
  obtain ⟨l, hll⟩ : ∃ l, l = D.length := ⟨_, rfl⟩
  obtain ⟨pc, hpc⟩ : ∃ p, p = pieces l := ⟨_, rfl⟩
  obtain ⟨M, hM⟩ : ∃ M, M = 2 * N := ⟨_, rfl⟩
  have hM8 : 8 ≤ M := by omega
  rw [← hll, ← hpc] at hp HBG ⊢
  rw [← hM] at HLN
  have t0 : decide ((M : Int) < 8) = false := by simp; omega
  have t1 : decide ((N : Int) < (pc : Int)) = false := by simp; omega
  have t2 : ¬ (N < pc) := by omega
  have hl1 : l ≤ 1000000000 := by rw [hpc] at hp; unfold pieces at hp; omega
  have HP := Lib.hid hpc
  have HN : Hid (M = 2 * N) := Lib.hid hM
  clear hd hli hfar hDs hst hll hpc hM hln hL hN2
  go_enter Tryd.func7, Tryd.ntmps7
  go_wp2_with (first | (go_at_call 21; refine (HLN.out).mono ?_; rintro e w' ⟨rfl, hw⟩; replace hw := hw.symm; subst hw; dsimp only) | (go_at_call 22; refine (jcost_any _ (m := l) (by omega)).mono ?_; rw [← HP.out]; rintro e w1 ⟨rfl, hw⟩; replace hw := hw.symm; subst hw; dsimp only) | (go_at_call 23; refine (HSZ.out).mono ?_; rintro e w' ⟨rfl, hw⟩; replace hw := hw.symm; subst hw; dsimp only) | (go_at_call 18; refine (HDW.out).mono ?_; rintro e w' ⟨rfl, hw⟩; replace hw := hw.symm; subst hw; dsimp only) | (go_at_call 24; refine (HNX.out).mono ?_; rintro e w2 ⟨rfl, hb⟩; have HB2 := Lib.hid hb; clear hb; dsimp only))
  obtain ⟨V, hV⟩ : ∃ V, V = w2.heap.size := ⟨_, rfl⟩
  obtain ⟨W1, hW1⟩ : ∃ W, W = w2.alloc (.cells #[.pointer (some ⟨P, 0, none⟩), .int .i64 0, .int .u32 0, .pointer none, .bool false] 64) := ⟨_, rfl⟩
  rw [← hV, ← hW1]
  have hv1 : VAt W1 V P 0 0 none false := by rw [hW1, hV]; exact arr_new w2 _ _
  have hb1 : Below w.heap.size w W1 := by rw [hW1]; exact HB2.out.alloc HB2.out.size _
  have hV1 : w.heap.size ≤ V := by rw [hV]; exact HB2.out.size
  have HBN := HBG.out W1 V 0 0 hb1 hv1 hV1
  rw [show ((1 : Nat) : Int) = 1 from rfl] at HBN
  refine HBN.mono ?_
  rintro e w3 ⟨d3, rfl, hla, hd3, hk3, hvd3, J, hv3, hj3, hJ, hjd3⟩
  have HLA := Lib.hid hla
  have HD3 := Lib.hid hd3
  have HK3 : Hid (Kept P w w3) := Lib.hid (JKept.old (kept_on HD.out hb1) hk3 hV1)
  have HX := Lib.hid (And.intro hvd3 (And.intro hv3 (And.intro hj3 (And.intro hJ hjd3))))
  have HV1 := Lib.hid hv1
  have HJB : Hid (w.heap.size ≤ J) := Lib.hid (Nat.le_trans hb1.size hJ)
  have HVB := Lib.hid hV1
  clear hla hd3 hk3 hvd3 hv3 hj3 hJ hjd3 HBN hV hW1 hb1 hv1 hV1
  dsimp only
  go_wp2
  go_ret2
  obtain ⟨h1, h2, h3, h4, h5⟩ := HX.out
  have hVlt := HV1.out.lt
  exact ⟨V, J, d3, rfl, HLA.out, ⟨HD3.out, h2, by rw [Nat.zero_mul]; exact h3, h1, h5, by omega, Nat.le_trans hB HVB.out, Nat.le_trans hB HJB.out, by omega, by rw [HLA.out.len]; simp [Dev.fresh], hN4, by omega⟩, HK3.out, HVB.out, HJB.out⟩
end Go.Proofs.YtcdgbmeechnpiaaDoor
/- A vault opened. -/
namespace Go.Proofs.YtcdgbmeechnpiaaDoor
open Go.RowKit

theorem RowsO.head {B : Nat} {w : World} {a : Option Addr} {m c : Nat} {us : List Value} {r : List Nat} {R : List (List Nat)} (h : RowsO B w (.slice a m c) us (r :: R)) : ∃ g u, a = some ⟨g, 0, none⟩ ∧ w.cell? ⟨g, 0, none⟩ = some u ∧ Lies w u r ∧ m ≤ c ∧ m = R.length + 1 ∧ ∀ i bs, R[i]? = some bs → ∃ u, w.cell? ⟨g, 1 + i, none⟩ = some u ∧ Lies w u bs := by
  have hl := h.len
  rw [List.length_cons] at hl
  rcases h.row.2 with ⟨_, h0⟩ | ⟨g, cap, cur, hv, hgb, hgg, hc, _⟩
  · omega
  · injection hv with e1 e2 e3
    subst e1
    subst e3
    have hrow := h.row
    have hcell : ∀ i, i < us.length → ∃ u, us[i]? = some u ∧ w.cell? ⟨g, i, none⟩ = some u := fun i hi => by
      have hu : us[i]? = some us[i] := List.getElem?_eq_getElem hi
      rw [e2] at hrow
      exact ⟨us[i], hu, by rw [hrow.cellAt i (by omega), hu]⟩
    obtain ⟨u, hu, hc0⟩ := hcell 0 (by omega)
    refine ⟨g, u, rfl, hc0, (h.data 0 u r hu rfl).1, by omega, by omega, fun i bs hi => ?_⟩
    obtain ⟨u', hu', hc'⟩ := hcell (1 + i) (by have := (List.getElem?_eq_some_iff.1 hi).1; omega)
    exact ⟨u', hc', (h.data (1 + i) u' bs hu' (by rw [Nat.add_comm, List.getElem?_cons_succ]; exact hi)).1⟩
theorem RowsAt.onB {w w' : World} {v : Value} {A : List (List Nat)} (h : RowsAt w v A) (hb : Below w.heap.size w w') : RowsAt w' v A := by
  obtain ⟨a, c, hv, hh⟩ := h
  refine ⟨a, c, hv, fun hne => ?_⟩
  obtain ⟨b, off, ha, hc⟩ := hh hne
  refine ⟨b, off, ha, fun i bs hi => ?_⟩
  obtain ⟨u, hu, hl⟩ := hc i bs hi
  exact ⟨u, (hb.cell (cell_lt hu)).trans hu, lies_on hl hb⟩
theorem open_end {w w1 : World} {P k t g m c' : Nat} {u : Value} {r : List Nat} {R : List (List Nat)} (hm : m = R.length + 1) (a : Option Addr) (ha : a = some ⟨g, 1, none⟩ ∨ R = []) (hu : Lies w1 u r) (hA : ∀ (i : Nat) (bs : List Nat), R[i]? = some bs → ∃ u, w1.cell? ⟨g, 1 + i, none⟩ = some u ∧ Lies w1 u bs) (hb : Below w.heap.size w w1) :
    VAt ((w1.alloc (.cells #[.pointer (some ⟨P, 0, none⟩), .int .i64 (k : Int), .int .u32 (t : Int), .pointer none, .bool false] 64)).drew) w1.heap.size P k t none false ∧ Lies ((w1.alloc (.cells #[.pointer (some ⟨P, 0, none⟩), .int .i64 (k : Int), .int .u32 (t : Int), .pointer none, .bool false] 64)).drew) u r ∧
      RowsAt ((w1.alloc (.cells #[.pointer (some ⟨P, 0, none⟩), .int .i64 (k : Int), .int .u32 (t : Int), .pointer none, .bool false] 64)).drew) (.slice a (m - 1) c') R ∧ w.heap.size ≤ w1.heap.size ∧ Below w.heap.size w ((w1.alloc (.cells #[.pointer (some ⟨P, 0, none⟩), .int .i64 (k : Int), .int .u32 (t : Int), .pointer none, .bool false] 64)).drew) := by
  have h1 : Below w1.heap.size w1 ((w1.alloc (.cells #[.pointer (some ⟨P, 0, none⟩), .int .i64 (k : Int), .int .u32 (t : Int), .pointer none, .bool false] 64)).drew) := ((Below.refl _ _).alloc (Nat.le_refl _) _).drew
  have hr : RowsAt w1 (.slice a (m - 1) c') R := by
    refine ⟨a, c', by rw [hm, Nat.add_sub_cancel], fun hne => ?_⟩
    exact ⟨g, 1, ha.resolve_right hne, hA⟩
  exact ⟨(arr_new w1 _ _).only (Only.drew (fun _ => False) _) (fun h => h), lies_on hu h1, hr.onB h1, hb.size, hb.trans (h1.mono hb.size)⟩
set_option maxRecDepth 1000000 in
set_option maxHeartbeats 8000000 in
theorem vaopen_any {w : World} {B P N k t : Nat} {r : List Nat} {R : List (List Nat)} {d : Dev} (h : DevAt w B P d) (hup : d.down = false) (hs : SmallD d) (hN : d.lies.length = 2 * N) (hN4 : 4 ≤ N) (hcur : d.curK N 2 = ((k : Int), t, r :: R)) :
    Calls Tryd.prog 15 #[.pointer (some ⟨P, 0, none⟩)] w fun e w' => ∃ V u v, e = .returned (.tuple #[.pointer (some ⟨V, 0, none⟩), u, v, .int .i64 0]) ∧ VAt w' V P k t none false ∧ Lies w' u r ∧ RowsAt w' v R ∧ w.heap.size ≤ V ∧ Below w.heap.size w w' := by
  have HLN := Lib.hid (len_any h)
  have HC := Lib.hid (vacur_any (N := N) h hup hs (by omega) (by omega))
  obtain ⟨M, hM⟩ : ∃ M, M = d.lies.length := ⟨_, rfl⟩
  rw [← hM] at HLN hN
  have HX := Lib.hid hcur
  have t1 : decide ((M : Int) < 8) = false := by simp; omega
  have t2 : ((k : Int) == -1) = false := by simp
  clear h hup hs hM hcur
  go_enter Tryd.func15, Tryd.ntmps15
  go_wp2_with (go_at_call 21; refine (HLN.out).mono ?_; rintro e w' ⟨rfl, hw⟩; replace hw := hw.symm; subst hw; dsimp only)
  refine (HC.out).mono ?_
  rintro e w1 ⟨hv, tv, rv, rfl, ⟨hh, ht, us, hro⟩, hb1⟩
  rw [HX.out] at hh ht hro
  simp only at hh ht hro
  subst hh
  subst ht
  obtain ⟨av, cv, rfl⟩ := hro.slice
  obtain ⟨g, u, rfl, cg, hu, hmc, hm, hall⟩ := hro.head
  obtain ⟨m, hmm⟩ : ∃ m, m = (r :: R).length := ⟨_, rfl⟩
  rw [← hmm] at hmc hm ⊢
  have HU := Lib.hid hu
  have HA := Lib.hid hall
  have HB1 := Lib.hid hb1
  have HM : Hid (m = R.length + 1) := Lib.hid hm
  have t3 : (0 : Int) < (m : Int) := by omega
  have t4 : 0 < m := by omega
  have t5 : 1 ≤ m := by omega
  clear hro hu hall hb1 hmm hm
  dsimp only
  have cg2 : (w1.alloc (.cells #[.pointer (some ⟨P, 0, none⟩), .int .i64 (k : Int), .int .u32 (t : Int), .pointer none, .bool false] 64)).cell? ⟨g, 0, none⟩ = some u := (Below.cell ((Below.refl w1.heap.size w1).alloc (Nat.le_refl _) _) (p := ⟨g, 0, none⟩) (cell_lt cg)).trans cg
  by_cases hc1 : 1 < cv
  · go_wp2_with fail
    go_region
    go_wp2
    (try simp only [Exit.inBlock, Exit.then])
    refine bodyPost_ret (ret_four rfl _ _ _) rfl ?_
    refine ⟨_, _, _, rfl, ?_⟩
    exact open_end HM.out (some ⟨g, 1, none⟩) (.inl rfl) HU.out HA.out HB1.out
  · go_wp2_with fail
    go_region
    go_wp2
    (try simp only [Exit.inBlock, Exit.then])
    refine bodyPost_ret (ret_four rfl _ _ _) rfl ?_
    refine ⟨_, _, _, rfl, ?_⟩
    exact open_end HM.out (some ⟨g, 0, none⟩) (.inr (List.length_eq_zero_iff.1 (by have := HM.out; omega))) HU.out HA.out HB1.out
end Go.Proofs.YtcdgbmeechnpiaaDoor
