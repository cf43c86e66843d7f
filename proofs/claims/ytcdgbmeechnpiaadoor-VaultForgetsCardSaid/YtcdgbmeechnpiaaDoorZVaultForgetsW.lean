/- VaultForgets, walked. -/
import Derived.Test.YtcdgbmeechnpiaaDoorZVaRun
namespace Go.Proofs.YtcdgbmeechnpiaaDoor
open Go.RowKit

set_option maxRecDepth 1000000 in
set_option maxHeartbeats 16000000 in
theorem vaultForgets_walk {w : World} {v0 v1 v3 : Value} {A Bs : List (List Nat)} {zi : Int} {img : List Nat} (hv0 : RowsAt w v0 A) (hb0 : ∀ bs ∈ A, ∀ x ∈ bs, x < 256) (_hm0 : A.length ≤ maxLen) (hv1 : RowsAt w v1 Bs) (hb1 : ∀ bs ∈ Bs, ∀ x ∈ bs, x < 256) (_hm1 : Bs.length ≤ maxLen)
    (hk1 : 0 ≤ zi) (hk2 : zi ≤ 255) (hv3 : Lies w v3 img) (_hf3 : Fits v3) (hb3 : ∀ x ∈ img, x < 256) (_hm3 : img.length ≤ maxLen) (hl : StepsLaid w) :
    Calls Tryd.prog 4 #[v0, v1, .int .u8 zi, v3] w fun e w' => e = .returned (.bool true) ∧ Below w.heap.size w w' := by
  obtain ⟨s0, rfl⟩ : ∃ s : Nat, zi = (s : Int) := ⟨zi.toNat, by omega⟩
  have HR0 := Lib.hid hv0
  have HR1 := Lib.hid hv1
  obtain ⟨aA, cA, rfl, -⟩ := hv0
  obtain ⟨aB, cB, rfl, -⟩ := hv1
  obtain ⟨ai, ci, rfl⟩ := lies_len hv3
  obtain ⟨W1, hW1⟩ : ∃ W, W = w.alloc (.cells #[.int .u8 (s0 : Int)] 5) := ⟨_, rfl⟩
  obtain ⟨W2, hW2⟩ : ∃ W, W = W1.alloc (.cells #[.slice ai img.length ci] 31) := ⟨_, rfl⟩
  obtain ⟨B6, hB6⟩ : ∃ B, B = w.heap.size := ⟨_, rfl⟩
  obtain ⟨B7, hB7⟩ : ∃ B, B = W1.heap.size := ⟨_, rfl⟩
  have hb12 : Below w.heap.size w W2 := by rw [hW2, hW1]; exact ((Below.refl _ _).alloc (Nat.le_refl _) _).alloc (by rw [World.size_alloc]; omega) _
  have c6 : W2.cell? ⟨B6, 0, none⟩ = some (.int .u8 (s0 : Int)) := by
    rw [hW2, hB6, hW1]
    exact ((arr_new w 5 [.int .u8 (s0 : Int)]).alloc _).cell rfl
  have c7 : W2.cell? ⟨B7, 0, none⟩ = some (.slice ai img.length ci) := by
    rw [hW2, hB7]
    exact (arr_new W1 31 [.slice ai img.length ci]).cell rfl
  have HLV : Hid (∀ w1, Below w.heap.size w w1 → Calls Tryd.prog 5 #[] w1 fun e w' => e = .returned (.bool true) ∧ Below w1.heap.size w1 w') := Lib.hid (fun w1 h => lives11_any w1 (hl.below h))
  have HB2 := Lib.hid hb12
  have HL := Lib.hid hl
  have HX := Lib.hid (And.intro hb0 (And.intro hb1 hb3))
  have HI := Lib.hid hv3
  have HC67 := Lib.hid (And.intro c6 c7)
  obtain ⟨la, hla⟩ : ∃ n, n = A.length := ⟨_, rfl⟩
  obtain ⟨lb, hlb⟩ : ∃ n, n = Bs.length := ⟨_, rfl⟩
  obtain ⟨li, hli⟩ : ∃ n, n = img.length := ⟨_, rfl⟩
  have HLEN : Hid (la = A.length ∧ lb = Bs.length ∧ li = img.length) := Lib.hid ⟨hla, hlb, hli⟩
  have hs256 : s0 < 256 := by omega
  rw [← hla, ← hlb, ← hli]
  rw [← hli] at hW2 c7
  clear hb12 hl hb0 hb1 hb3 hv3 hla hlb hli hk1 hk2
  go_enter Tryd.func4, Tryd.ntmps4
  go_wp2_with fail
  have hB7' : B7 = w.heap.size + 1 := by rw [hB7, hW1, World.size_alloc]
  rw [← hB7', ← hB6, ← hW1, ← hW2]
  refine (HLV.out W2 HB2.out).mono ?_
  rintro e w3 ⟨rfl, hb3⟩
  have HB3 : Hid (Below w.heap.size w w3) := Lib.hid (HB2.out.trans (hb3.mono HB2.out.size))
  have d6 : w3.cell? ⟨B6, 0, none⟩ = some (.int .u8 (s0 : Int)) := (hb3.cell (cell_lt HC67.out.1)).trans HC67.out.1
  have d7 : w3.cell? ⟨B7, 0, none⟩ = some (.slice ai img.length ci) := (hb3.cell (cell_lt HC67.out.2)).trans HC67.out.2
  have HD67 := Lib.hid (And.intro d6 d7)
  rw [← HLEN.out.2.2] at d7
  clear hb3 hB7' hB7 hB6 hW1 hW2 c6 c7 d6
  dsimp only
  by_cases hbad : 20 < la ∨ 20 < lb ∨ 300 < li
  · have HFIN : Hid (∀ (w4 : World), Below w.heap.size w w4 → Calls Tryd.prog 5 #[] w4 fun e w' => e = .returned (.bool true) ∧ Below w.heap.size w w') := Lib.hid (fun w4 h => (HLV.out w4 h).mono (by rintro e w' ⟨h1, h2⟩; exact ⟨h1, h.trans (h2.mono h.size)⟩))
    have HL3 := Lib.hid (HFIN.out w3 HB3.out)
    by_cases h1 : 20 < la
    · have t1 : decide ((20 : Int) < (la : Int)) = true := by simp; omega
      clear hbad h1
      go_wp2_with (go_at_call 5; refine (HL3.out).mono ?_; rintro e w4 ⟨rfl, hb4⟩; have HB4 := Lib.hid hb4; clear hb4; dsimp only)
      go_ret
      exact ⟨rfl, HB4.out⟩
    · have t1 : decide ((20 : Int) < (la : Int)) = false := by simp; omega
      by_cases h2 : 20 < lb
      · have t2 : decide ((20 : Int) < (lb : Int)) = true := by simp; omega
        clear hbad h1 h2
        go_wp2_with (go_at_call 5; refine (HL3.out).mono ?_; rintro e w4 ⟨rfl, hb4⟩; have HB4 := Lib.hid hb4; clear hb4; dsimp only)
        go_ret
        exact ⟨rfl, HB4.out⟩
      · have t2 : decide ((20 : Int) < (lb : Int)) = false := by simp; omega
        have t3 : decide ((300 : Int) < (li : Int)) = true := by simp; omega
        clear hbad h1 h2
        go_wp2_with (go_at_call 5; refine (HL3.out).mono ?_; rintro e w4 ⟨rfl, hb4⟩; have HB4 := Lib.hid hb4; clear hb4; dsimp only)
        go_ret
        exact ⟨rfl, HB4.out⟩
  · have t1 : decide ((20 : Int) < (la : Int)) = false := by simp; omega
    have t2 : decide ((20 : Int) < (lb : Int)) = false := by simp; omega
    have t3 : decide ((300 : Int) < (li : Int)) = false := by simp; omega
    have HRUN : Hid (∀ (w4 : World) (vl : Value) (Ls : List (List Nat)) (fs : ByteArray), Below w3.heap.size w3 w4 → RowsAt w vl Ls → SmallL Ls → Ls.length ≤ 20 → fs.size ≤ 100 → Calls Tryd.prog 19 #[vl, .string fs, .pointer (some ⟨B6, 0, none⟩), .pointer (some ⟨B7, 0, none⟩)] w4 fun e w' => ∃ v ok, e = .returned (.tuple #[v, .bool ok]) ∧ Below w4.heap.size w4 w' ∧ (ok = true → ∃ d, VState 60 ((s0 % 5 + 1) % 2) (s0 % 5 + 2) [img] d ∧ Lies w' v d.lies.flatten)) := Lib.hid (fun w4 vl Ls fs hb hr hs hn hf => by
      have hbw : Below w.heap.size w w4 := HB3.out.trans (hb.mono HB3.out.size)
      exact vrun_any (hr.onB hbw) hs hn hf ((hb.cell (cell_lt HD67.out.1)).trans HD67.out.1) hs256 ((hb.cell (cell_lt HD67.out.2)).trans HD67.out.2) (lies_on HI.out hbw) HX.out.2.2 (by have := HLEN.out; omega) (HL.out.below hbw))
    have HA1 := HRUN.out w3 _ A ⟨#[102, 105, 114, 115, 116]⟩ (Below.refl _ _) HR0.out HX.out.1 (by have := HLEN.out; omega) (by decide)
    rw [← HLEN.out.1] at HA1
    replace HA1 := Lib.hid HA1
    go_wp2_with fail
    refine (HA1.out).mono ?_
    rintro e w4 ⟨v1, ok1, rfl, hb4, hz1⟩
    have HZ1 := Lib.hid hz1
    have HB4 := Lib.hid hb4
    have HA2 := HRUN.out w4 _ Bs ⟨#[97, 110, 111, 116, 104, 101, 114, 32, 111, 110, 101]⟩ hb4 HR1.out HX.out.2.1 (by have := HLEN.out; omega) (by decide)
    rw [← HLEN.out.2.1] at HA2
    replace HA2 := Lib.hid HA2
    clear hz1 hb4
    dsimp only
    go_wp2_with fail
    refine (HA2.out).mono ?_
    rintro e w5 ⟨v2, ok2, rfl, hb5, hz2⟩
    have HZ2 := Lib.hid hz2
    have HB5 := Lib.hid hb5
    have HBF : Hid (Below w.heap.size w w5) := Lib.hid ((HB3.out.trans (HB4.out.mono HB3.out.size)).trans (hb5.mono (Nat.le_trans HB3.out.size HB4.out.size)))
    clear hz2 hb5 d7
    dsimp only
    cases ok1 with
    | false =>
      go_wp2
      go_ret
      exact ⟨rfl, HBF.out⟩
    | true =>
      cases ok2 with
      | false =>
        go_wp2
        go_ret
        exact ⟨rfl, HBF.out⟩
      | true =>
        obtain ⟨d1, hs1, l1⟩ := HZ1.out rfl
        obtain ⟨d2, hs2, l2⟩ := HZ2.out rfl
        rw [← hs1.same hs2] at l2
        have l1' := lies_on l1 HB5.out
        obtain ⟨a1, c1, rfl⟩ := lies_len l1'
        obtain ⟨a2, c2, rfl⟩ := lies_len l2
        have x1 := text_of l1' _ Tryd.underlying9
        have x2 := text_of l2 _ Tryd.underlying9
        obtain ⟨S, hS⟩ : ∃ s, s = strOf d1.lies.flatten := ⟨_, rfl⟩
        obtain ⟨m, hm⟩ : ∃ s, s = d1.lies.flatten.length := ⟨_, rfl⟩
        rw [← hS, ← hm] at x1 x2
        rw [← hm]
        clear hs1 hs2 l1 l2 l1' hS hm HZ1 HZ2
        go_wp2
        go_ret
        exact ⟨by simp, HBF.out⟩
end Go.Proofs.YtcdgbmeechnpiaaDoor
