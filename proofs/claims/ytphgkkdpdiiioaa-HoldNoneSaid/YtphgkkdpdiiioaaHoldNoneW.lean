/- HoldNone, walked. -/
import Derived.Test.YtphgkkdpdiiioaaHoMarks
import Derived.Test.YtphgkkdpdiiioaaHoNoneL
import Derived.Test.YtphgkkdpdiiioaaHoLives
import Derived.Test.YtphgkkdpdiiioaaHoRel
import Derived.Test.YtphgkkdpdiiioaaBase
import Derived.Deep.Cut
import Derived.Test.YtphgkkdpdiiioaaHoNSt
namespace Go.Proofs.Ytphgkkdpdiiioaa
open Go.RowKit Go.Shelf

set_option maxHeartbeats 16000000 in
set_option maxRecDepth 1000000 in
theorem holdNone_walk (s : ByteArray) {w : World} (_hs : s.size ≤ maxLen) {t : Int} (_ht0 : -9223372036854775808 ≤ t) (_ht1 : t ≤ 9223372036854775807) {ra rb : Int} (_x : -9223372036854775808 ≤ ra ∧ ra ≤ 9223372036854775807) (_y : -9223372036854775808 ≤ rb ∧ rb ≤ 9223372036854775807) :
    Calls Try.prog 4 #[.string s, .int .i64 t, .agg #[.int .i64 ra, .int .i64 rb]] w fun e w' => e = .returned (.bool true) ∧ Below w.heap.size w w' := by
  have HLV : Hid (∀ W, Calls Try.prog 6 #[] W fun e w' => e = .returned (.bool true) ∧ Below W.heap.size W w') := Lib.hid fun W => hollives_any W
  refine (callsIn_wide (n := 4)).1 ?_
  refine callsIn_of_wp_marks Try.func4 rfl trivial ?_ rfl
  simp only [Try.ntmps4, List.size_toArray, List.length_cons, List.length_nil, Nat.reduceAdd, Nat.reduceSub, Array.replicate_succ, Array.replicate_zero, List.push_toArray, List.append_toArray, List.nil_append, List.cons_append]
  refine wpIn_wide.2 ?_
  go_wp2_with fail
  refine calls_name ?_
  intro W0 hW0
  obtain ⟨q5, hq5⟩ : ∃ q, q = w.heap.size := ⟨_, rfl⟩
  have e6 : (w.alloc (.cells #[.int .i64 ra, .int .i64 rb] 24)).heap.size = q5 + 1 := by rw [hq5]; simp
  have HR0 : Hid (RgAt W0 q5 ra rb) := Lib.hid (by rw [hW0.out, hq5]; exact (RgAt.new w ra rb).old _)
  have HD0 : Hid (W0.heap[q5 + 1]? = some (.cells #[.bool false] 4 (0, 0))) := Lib.hid (by rw [hW0.out, ← e6]; exact heap_alloc_new _ _)
  have HB0 : Hid (Below w.heap.size w W0) := Lib.hid (by rw [hW0.out]; exact ((Below.refl _ _).alloc (Nat.le_refl _) _).alloc (by simp) _)
  have HS0 : Hid (NSt w q5 (q5 + 1) ra rb false W0) := Lib.hid ⟨HR0.out, HD0.out, HB0.out, by omega, by omega⟩
  rw [← hq5]
  clear hW0 hq5 e6 HR0 HD0 HB0
  refine (HLV.out W0).mono ?_
  rintro e W1 ⟨rfl, hb1⟩
  have HS1 := Lib.hid (HS0.out.beyond hb1)
  clear hb1 HS0
  by_cases h100 : 100 < s.size
  · have t100 : decide ((100 : Int) < (s.size : Int)) = true := by simp only [decide_eq_true_eq]; omega
    clear h100
    go_wp2_with (go_at_call 6; refine (HLV.out _).mono ?_; rintro e W2 ⟨rfl, hb2⟩; have HS2 := Lib.hid (HS1.out.beyond hb2); obtain ⟨r0, r1, c0, f0⟩ := HS2.out.cells; clear hb2)
    refine marks_end (Q := q5 + 1) rfl rfl (MarksAt.nil _ _) (HS2.out.set true).res (HS2.out.set true).bel (HS2.out.set true).bel.size
  · have t100 : decide ((100 : Int) < (s.size : Int)) = false := by simp only [decide_eq_false_iff_not]; omega
    clear h100
    have HALL := Lib.hid (hoall_none W1)
    go_wp2_with fail
    refine HALL.out.mono ?_
    rintro e W2 ⟨B, v, xs, rfl, hall⟩
    obtain ⟨h1, h2, h3, h4, h5, h6, h7⟩ := hall
    obtain rfl : xs = [] := h3.eq_nil
    have HS2 := Lib.hid (HS1.out.beyond h7)
    have HSQ := Lib.hid (hoall_seq 3 B W2 v [] (by omega) h1 h5 (fun k hk => (h6 k hk).2) (by simp) (by simp))
    have HVL := Lib.hid (fun k hk => (h6 k hk).2)
    clear h1 h2 h3 h4 h5 h6 h7 HS1
    go_wp2_with fail
    obtain ⟨n₀, hn₀⟩ : ∃ n, n = W2.heap.size := ⟨_, rfl⟩
    have HN0 := Lib.hid hn₀
    clear hn₀
    refine (wpIn_wide (n := 4)).1 ?_
    refine wpIn_rangeFunc_ownH (α := Fin ([] : List Hld).length) rfl (by omega) (gf := 35) (lb := #[.pointer (some ⟨B, 0, none⟩)]) rfl trivial (enters_of Try.func35 (by kernel_rfl) rfl)
      HSQ.out (fun h k => KeepV.trans h k) (keepV_b HVL.out) (Below.refl _ _) (fun _ => rfl)
      (fun _ W' => Below W2.heap.size W2 W') (fun _ _ _ => False)
      (ownFrom_below (Nat.le_refl _) (Nat.le_refl _)) (fun _ _ _ _ _ hs _ _ => hs)
      (Below.refl _ _)
      (fun _ _ _ => False) (fun _ _ _ _ _ _ hs _ _ => hs) ?assign ?body ?done ?stop
    case assign =>
      intro l pre x
      exact x.elim0
    case body =>
      intro l pre x
      exact x.elim0
    case stop =>
      intro D c pre W _ _ h _
      exact h.elim
    case done =>
      rintro K ys W3 hK hys hbW hKO
      have HB3 : Hid (Below W2.heap.size W2 W3) := Lib.hid hbW
      have HS3 := Lib.hid (HS2.out.beyond hbW)
      have HM3 : Hid (MarksAt w.heap.size [markOf K] W3) := Lib.hid ((MarksAt.nil w.heap.size W2).cons hbW hK HS2.out.bel.size hKO)
      have HA : Hid (∀ W, Calls Try.prog 11 #[.pointer none, .agg #[.string ⟨#[]⟩, .string ⟨#[]⟩, .int .i64 0, .int .i64 0]] W fun e w' => e = .returned (.int .i64 1) ∧ Below W.heap.size W w') := Lib.hid fun W => hoadd_none W default
      have HR : Hid (∀ W, Calls Try.prog 12 #[.pointer none, .string ⟨#[97]⟩] W fun e w' => e = .returned (.int .i64 1) ∧ w' = W) := Lib.hid fun W => horel_none W _
      have HC : Hid (∀ W, Calls Try.prog 15 #[.pointer none, .string s, .int .i64 t] W fun e w' => e = .returned (.bool false) ∧ Below W.heap.size W w') := Lib.hid fun W => hocov_none W s t
      have HME : Hid (∀ W, Calls Try.prog 16 #[.pointer none, .string s, .agg #[.int .i64 ra, .int .i64 rb]] W fun e w' => e = .returned (.bool false) ∧ Below W.heap.size W w') := Lib.hid fun W => homeet_none W s ra rb
      have HAN : Hid (∀ W, Calls Try.prog 17 #[.pointer none, .string s] W fun e w' => e = .returned (.bool false) ∧ Below W.heap.size W w') := Lib.hid fun W => hoany_none W s
      have HLE : Hid (∀ W, Calls Try.prog 14 #[.pointer none] W fun e w' => e = .returned (.int .i64 0) ∧ w' = W) := Lib.hid fun W => holen_none W
      have HCP : Hid (∀ W, Calls Try.prog 13 #[.pointer none] W fun e w' => e = .returned (.pointer none) ∧ w' = W) := Lib.hid fun W => hocopy_none W
      have HNW : Hid (∀ W, Calls Try.prog 7 #[] W fun e w' => ∃ p, e = .returned (.pointer (some ⟨p, 0, none⟩)) ∧ TabAt w' p none [] ∧ W.heap.size ≤ p ∧ Below W.heap.size W w') := Lib.hid fun W => honew_any W
      clear hbW hKO hys hK HLV HVL HSQ
      go_wp2_with (first
        | (go_at_call 11; refine (HA.out _).mono ?_; clear HA; rintro e W4 ⟨rfl, hb4⟩; have HS4 := Lib.hid (HS3.out.beyond hb4); have HM4 := Lib.hid (HM3.out.below hb4); clear hb4)
        | (go_at_call 12; refine (HR.out _).mono ?_; clear HR; rintro e W5 ⟨rfl, hw⟩; replace hw := hw.symm; subst hw)
        | (go_at_call 15; refine (HC.out _).mono ?_; clear HC; rintro e W5 ⟨rfl, hb5⟩; have HS5 := Lib.hid (HS4.out.beyond hb5); have HM5 := Lib.hid (HM4.out.below hb5); obtain ⟨r0, r1, -, -⟩ := HS5.out.cells; clear hb5)
        | (go_at_call 16; refine (HME.out _).mono ?_; clear HME; rintro e W6 ⟨rfl, hb6⟩; have HS6 := Lib.hid (HS5.out.beyond hb6); have HM6 := Lib.hid (HM5.out.below hb6); clear hb6)
        | (go_at_call 17; refine (HAN.out _).mono ?_; clear HAN; rintro e W7 ⟨rfl, hb7⟩; have HS7 := Lib.hid (HS6.out.beyond hb7); have HM7 := Lib.hid (HM6.out.below hb7); clear hb7)
        | (go_at_call 14; refine (HLE.out _).mono ?_; clear HLE; rintro e W8 ⟨rfl, hw⟩; replace hw := hw.symm; subst hw)
        | (go_at_call 13; refine (HCP.out _).mono ?_; clear HCP; rintro e W8 ⟨rfl, hw⟩; replace hw := hw.symm; subst hw)
        | (go_at_call 7; refine (HNW.out _).mono ?_; clear HNW; rintro e W8 ⟨p, rfl, ht8, hp8, hb8⟩; have HS8 := Lib.hid (HS7.out.beyond hb8); have HM8 := Lib.hid (HM7.out.below hb8); have HT8 : Hid (TSt w p none [] W8) := Lib.hid ⟨ht8, TabM.nil, fun k hk => (by have := HS7.out.bel.size; rcases hk with rfl | hk; omega; cases hk), HS8.out.bel⟩; clear ht8 hp8 hb8))
      clear HS2 HB3 HS3 HM3 HS4 HM4 HS5 HM5 HS6 HM6 HS7 HM7 HN0 HALL r0 r1
      go_loopw [59] (fun i W => ∃ (k : Nat) (b : Option Nat), k ≤ 17 ∧ i = .int .i64 (k : Int) ∧ TSt w p b (mN k) W ∧ NSt w q5 (q5 + 1) ra rb false W ∧ MarksAt w.heap.size [markOf K] W) (fun i _ => 17 - (intOf i).toNat)
      case atStart => exact ⟨0, none, by omega, rfl, HT8.out, HS8.out, HM8.out⟩
      case round =>
        obtain ⟨k, b, hk, rfl, ht, hs, hm⟩ := hrel
        have HT9 := Lib.hid ht
        have HS9 := Lib.hid hs
        have HM9 := Lib.hid hm
        clear ht hs hm HT8 HS8 HM8
        by_cases hlt : k < 17
        · have hot := one_text wr (97 + k) (u := 97 + (k : Int)) (by omega)
          have hmo : (97 + (k : Int)) % 256 = 97 + (k : Int) := by omega
          have hcat : (⟨#[104]⟩ : ByteArray) ++ strOf [97 + k] = (hN k).name := by unfold hN; rw [show strOf [104, 97 + k] = strOf [104] ++ strOf [97 + k] from strOf_append [104] [97 + k]]; rfl
          go_upto_region 13 with fail
          refine wp_name fun W9 hW9 => ?_
          obtain ⟨q, hq⟩ : ∃ q, q = wr.heap.size := ⟨_, rfl⟩
          have hb9 : Below wr.heap.size wr W9 := by rw [hW9.out]; exact ((Below.refl _ _).alloc (Nat.le_refl _) _).alloc (by simp) _
          have HTA := Lib.hid (HT9.out.beyond hb9)
          have HSA := Lib.hid (HS9.out.beyond hb9)
          have HMA := Lib.hid (HM9.out.below hb9)
          have e9 : (wr.alloc (.cells #[.int .u8 (97 + (k : Int))] 5)).heap.size = q + 1 := by rw [hq]; simp
          have hx : W9.heap[q + 1]? = some (.cells #[.string (hN k).name, .string ⟨#[]⟩, .int .i64 (k : Int), .int .i64 ((k : Int) + 1)] 30 (0, 0)) := by rw [hW9.out, ← e9]; exact heap_alloc_new _ _
          have X : Arr W9 (q + 1) 30 [.string (hN k).name, .string ⟨#[]⟩, .int .i64 (k : Int), .int .i64 ((k : Int) + 1)] := hx
          have x0 := X.cell (i := 0) rfl
          have x1 := X.cell (i := 1) rfl
          have x2 := X.cell (i := 2) rfl
          have x3 := X.cell (i := 3) rfl
          obtain ⟨hae, ham⟩ := mN_add k hlt
          have HADD : Hid (Calls Try.prog 11 #[.pointer (some ⟨p, 0, none⟩), .agg #[.string (hN k).name, .string ⟨#[]⟩, .int .i64 (k : Int), .int .i64 ((k : Int) + 1)]] W9 fun e w' => e = .returned (.int .i64 (if k < 16 then 0 else 6)) ∧ ∃ b', TSt w p b' (mN (k + 1)) w' ∧ NSt w q5 (q5 + 1) ra rb false w' ∧ MarksAt w.heap.size [markOf K] w') := Lib.hid (by
            have h := hoadd_any HTA.out.at_ (hN k) (by rw [mN_small]; decide) (by show (0 : Nat) ≤ maxLen; omega)
            rw [hae, ← ham] at h
            refine h.mono fun e w' ⟨he, b', h1, h2, h3⟩ => ⟨he, b', HTA.out.turn h1 (by rw [ham]; exact HTA.out.tab.add _) h2 h3, ?_, ?_⟩
            · obtain ⟨o1, o2⟩ := HSA.out.toff HTA.out.at_
              exact HSA.out.only h2 o1 o2 HTA.out.mine
            · exact HMA.out.only h2 (fun J o hJ hf => by
                rcases hf with rfl | hf
                · have := HTA.out.at_.blk; rw [hJ] at this; cases this
                · obtain ⟨es, c, hc⟩ := (HTA.out.at_.own J hf).obj; rw [hJ] at hc; cases hc))
          rw [← hq]
          clear hb9 hW9 hq e9 hx X hae ham hot hmo hcat
          by_cases h16 : k < 16
          · have t16 : decide ((k : Int) < 16) = true := by simp only [decide_eq_true_eq]; omega
            rw [if_pos h16] at HADD
            clear h16
            go_wp2_with (go_at_call 11; refine (HADD.out).mono ?_; rintro e WB ⟨rfl, b', htb, hsb, hmb⟩; have HTB := Lib.hid htb; have HSB := Lib.hid hsb; have HMB := Lib.hid hmb; clear htb hsb hmb)
            go_roundw
            case rel => exact ⟨k + 1, b', by omega, by go_num, HTB.out, HSB.out, HMB.out⟩
            case measure => simp [intOf]; omega
          · have t16 : decide ((k : Int) < 16) = false := by simp only [decide_eq_false_iff_not]; omega
            rw [if_neg h16] at HADD
            clear h16
            go_wp2_with (go_at_call 11; refine (HADD.out).mono ?_; rintro e WB ⟨rfl, b', htb, hsb, hmb⟩; have HTB := Lib.hid htb; have HSB := Lib.hid hsb; have HMB := Lib.hid hmb; clear htb hsb hmb)
            go_roundw
            case rel => exact ⟨k + 1, b', by omega, by go_num, HTB.out, HSB.out, HMB.out⟩
            case measure => simp [intOf]; omega
        · obtain rfl : k = 17 := by omega
          have HADD : Hid (Calls Try.prog 11 #[.pointer (some ⟨p, 0, none⟩), .agg #[.string ⟨#[109, 111, 114, 101]⟩, .string ⟨#[]⟩, .int .i64 0, .int .i64 5]] wr fun e w' => e = .returned (.int .i64 6) ∧ Below wr.heap.size wr w') := Lib.hid (by
            have h := hoadd_no HT9.out.at_ moreN (by decide) (by decide) (by rw [more_full]; decide)
            rwa [more_full] at h)
          have HC1 : Hid (∀ W, TabAt W p b (mN 17) → Calls Try.prog 15 #[.pointer (some ⟨p, 0, none⟩), .string s, .int .i64 15] W fun e w' => e = .returned (.bool true) ∧ Below W.heap.size W w') := Lib.hid fun W hW => by have h := hocov_any hW HT9.out.tab s 15; rwa [mN_15] at h
          have HC2 : Hid (∀ W, TabAt W p b (mN 17) → Calls Try.prog 15 #[.pointer (some ⟨p, 0, none⟩), .string s, .int .i64 16] W fun e w' => e = .returned (.bool false) ∧ Below W.heap.size W w') := Lib.hid fun W hW => by have h := hocov_any hW HT9.out.tab s 16; rwa [mN_16] at h
          go_wp2_with (first
            | (go_at_call 11; refine (HADD.out).mono ?_; clear HADD; rintro e WB ⟨rfl, hb⟩; have HTB := Lib.hid (HT9.out.beyond hb); have HSB := Lib.hid (HS9.out.beyond hb); have HMB := Lib.hid (HM9.out.below hb); clear hb)
            | (go_at_call 15; with_reducible refine (HC1.out _ HTB.out.at_).mono ?_; clear HC1; rintro e WC ⟨rfl, hb⟩; have HTC := Lib.hid (HTB.out.beyond hb); have HSC := Lib.hid (HSB.out.beyond hb); have HMC := Lib.hid (HMB.out.below hb); clear hb)
            | (go_at_call 15; with_reducible refine (HC2.out _ HTC.out.at_).mono ?_; clear HC2; rintro e WD ⟨rfl, hb⟩; have HSD := Lib.hid (HSC.out.beyond hb); have HMD := Lib.hid (HMC.out.below hb); obtain ⟨-, -, d0, f0⟩ := HSD.out.cells; clear hb))
          refine marks_end (Q := q5 + 1) rfl rfl (HMD.out.only (Only.setCell (S := fun j => j = q5 + 1) _ rfl _) (fun J o hJ e => by have := HSD.out.res; rw [← e, hJ] at this; cases this)) (HSD.out.set true).res (HSD.out.set true).bel (HSD.out.set true).bel.size
end Go.Proofs.Ytphgkkdpdiiioaa
