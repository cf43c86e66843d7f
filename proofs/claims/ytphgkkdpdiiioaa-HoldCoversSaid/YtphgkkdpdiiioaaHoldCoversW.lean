/- HoldCovers, walked. -/
import Derived.Test.YtphgkkdpdiiioaaHoLives
import Derived.Test.YtphgkkdpdiiioaaHoOpen
import Derived.Test.YtphgkkdpdiiioaaHoNSt
import Derived.Test.YtphgkkdpdiiioaaHoAll
namespace Go.Proofs.Ytphgkkdpdiiioaa
open Go.RowKit

/-- has one tick from f on, ahead of t, been covered? -/
def covU (m : List Hld) (s : ByteArray) (f t : Int) : Prop := ∃ u, f ≤ u ∧ u < t ∧ (someH m s fun a b => inR a b u) = true
theorem covU_start (m : List Hld) (s : ByteArray) (f : Int) : ¬ covU m s f f := fun ⟨u, h1, h2, _⟩ => by omega
theorem covU_yes {m : List Hld} {s : ByteArray} {f t : Int} (h : covU m s f t) : covU m s f (t + 1) := by obtain ⟨u, h1, h2, h3⟩ := h; exact ⟨u, h1, by omega, h3⟩
theorem covU_next {m : List Hld} {s : ByteArray} {f t : Int} (hf : f ≤ t) (h : ¬ covU m s f t) : covU m s f (t + 1) ↔ (someH m s fun a b => inR a b t) = true := by
  constructor
  · rintro ⟨u, h1, h2, h3⟩
    rcases Int.lt_or_le u t with h4 | h4
    · exact absurd ⟨u, h1, h4, h3⟩ h
    · rwa [show u = t by omega] at h3
  · exact fun h3 => ⟨t, hf, by omega, h3⟩
theorem covU_meets (m : List Hld) (s : ByteArray) (f t : Int) : (someH m s fun a b => meetsR a b f t) = true ↔ covU m s f t := by
  unfold someH covU someH
  simp only [List.any_eq_true, Bool.and_eq_true, meetsR, inR, decide_eq_true_eq]
  constructor
  · rintro ⟨x, hx, ho, hm⟩
    exact ⟨max x.a f, by omega, by omega, x, hx, ho, by omega, by omega⟩
  · rintro ⟨u, h1, h2, x, hx, ho, h3, h4⟩
    exact ⟨x, hx, ho, by omega⟩
theorem covU_any {m : List Hld} {s : ByteArray} {f t : Int} (h : covU m s f t) : (someH m s fun _ _ => true) = true := by
  obtain ⟨u, _, _, h3⟩ := h
  unfold someH at *
  rw [List.any_eq_true] at *
  obtain ⟨x, hx, h4⟩ := h3
  simp only [Bool.and_eq_true] at h4
  exact ⟨x, hx, by simp [h4.1]⟩
set_option maxHeartbeats 16000000 in
set_option maxRecDepth 1000000 in
theorem holdCovers_walk {w : World} {v : Value} {L : List Hld} (hl : HLies w v L) (hin : ∀ x ∈ L, x.In) (_hm : L.length ≤ maxLen) (s : ByteArray) (_hs : s.size ≤ maxLen) {f : Int} (hf0 : 0 ≤ f) (hf1 : f ≤ 4294967295) {n : Int} (hn0 : 0 ≤ n) (hn1 : n ≤ 255) :
    Calls Try.prog 5 #[v, .string s, .int .u32 f, .int .u8 n] w fun e w' => e = .returned (.bool true) ∧ Below w.heap.size w w' := by
  have HLV : Hid (∀ W, Calls Try.prog 6 #[] W fun e w' => e = .returned (.bool true) ∧ Below W.heap.size W w') := Lib.hid fun W => hollives_any W
  obtain ⟨a0, c0, ev⟩ := hl.slice
  subst ev
  obtain ⟨N, hN⟩ : ∃ N, N = L.length := ⟨_, rfl⟩
  have HL := Lib.hid hl
  have HIN := Lib.hid hin
  have HN := Lib.hid hN
  rw [← hN]
  clear hl hin hN _hm
  have HLW := Lib.hid (HLV.out w)
  by_cases h20 : 20 < N
  · have t20 : decide ((20 : Int) < (N : Int)) = true := by simp only [decide_eq_true_eq]; omega
    clear h20
    go_enter Try.func5, Try.ntmps5
    go_wp2_with (first | (go_at_call 6; with_reducible refine (HLW.out).mono ?_; rintro e W1 ⟨rfl, hb1⟩; have HB1 := Lib.hid hb1; clear hb1) | (go_at_call 6; refine (HLV.out _).mono ?_; rintro e W2 ⟨rfl, hb2⟩; have HB2 := Lib.hid (HB1.out.trans (hb2.mono HB1.out.size)); clear hb2))
    go_ret
    exact ⟨rfl, HB2.out⟩
  · have t20 : decide ((20 : Int) < (N : Int)) = false := by simp only [decide_eq_false_iff_not]; omega
    by_cases h60 : 60 < s.size
    · have t60 : decide ((60 : Int) < (s.size : Int)) = true := by simp only [decide_eq_true_eq]; omega
      clear h20 h60
      go_enter Try.func5, Try.ntmps5
      go_wp2_with (first | (go_at_call 6; with_reducible refine (HLW.out).mono ?_; rintro e W1 ⟨rfl, hb1⟩; have HB1 := Lib.hid hb1; clear hb1) | (go_at_call 6; refine (HLV.out _).mono ?_; rintro e W2 ⟨rfl, hb2⟩; have HB2 := Lib.hid (HB1.out.trans (hb2.mono HB1.out.size)); clear hb2))
      go_ret
      exact ⟨rfl, HB2.out⟩
    · have t60 : decide ((60 : Int) < (s.size : Int)) = false := by simp only [decide_eq_false_iff_not]; omega
      have HNW : Hid (∀ W, Calls Try.prog 7 #[] W fun e w' => ∃ p, e = .returned (.pointer (some ⟨p, 0, none⟩)) ∧ TabAt w' p none [] ∧ W.heap.size ≤ p ∧ Below W.heap.size W w') := Lib.hid fun W => honew_any W
      clear HLV
      go_enter Try.func5, Try.ntmps5
      go_wp2_with (first | (go_at_call 6; with_reducible refine (HLW.out).mono ?_; rintro e W1 ⟨rfl, hb1⟩; have HB1 := Lib.hid hb1; clear hb1) | (go_at_call 7; refine (HNW.out _).mono ?_; clear HNW; rintro e W2 ⟨p, rfl, ht2, hp2, hb2⟩; have HT2 : Hid (TSt w p none [] W2) := Lib.hid ⟨ht2, TabM.nil, fun k hk => (by have := HB1.out.size; rcases hk with rfl | hk; omega; cases hk), HB1.out.trans (hb2.mono HB1.out.size)⟩; clear ht2 hp2 hb2))
      clear HB1 HLW
      go_loopw [31] (fun i wr => ∃ (k : Nat) (b : Option Nat) (m : List Hld), k ≤ N ∧ i = .int .i64 (k : Int) ∧ TSt w p b m wr) (fun i _ => N - (intOf i).toNat)
      case atStart => exact ⟨0, none, [], Nat.zero_le _, rfl, HT2.out⟩
      case round =>
        obtain ⟨k, b, m, hk, rfl, hst⟩ := hrel
        have HST := Lib.hid hst
        clear hst HT2
        by_cases hlt : k < N
        · have hlt2 : k < L.length := by rw [← HN.out]; exact hlt
          obtain ⟨a, bb, off, c, ev, ea, hcells⟩ := HL.out.beyond HST.out.bel
          injection ev with e1 e2 e3
          have ea := ea (by rintro rfl; simp at hlt2)
          rw [← e1] at ea
          subst ea
          obtain ⟨x, hx⟩ : ∃ x, L[k]? = some x := ⟨_, List.getElem?_eq_getElem hlt2⟩
          have x0 := hcells k x hx 0 _ rfl
          rw [Nat.add_zero] at x0
          have x1 := hcells k x hx 1 _ rfl
          have x2 := hcells k x hx 2 _ rfl
          have x3 := hcells k x hx 3 _ rfl
          have HXI := Lib.hid (HIN.out x (List.mem_iff_getElem?.2 ⟨k, hx⟩))
          have HADD : Hid (∀ W, TSt w p b m W → Calls Try.prog 11 #[.pointer (some ⟨p, 0, none⟩), x.val] W fun e w' => (∃ u, e = .returned (.int .i64 u)) ∧ ∃ b', TSt w p b' (addM m x) w') := Lib.hid fun W hW => (hoadd_any hW.at_ x HXI.out.n0 HXI.out.s0).mono fun e w' ⟨he, b', h1, h2, h3⟩ => ⟨⟨_, he⟩, b', hW.turn h1 (hW.tab.add x) h2 h3⟩
          have HS2 := Lib.hid (HST.out.beyond ((Below.refl _ wr).alloc (Nat.le_refl _) (.cells #[.string x.name, .string x.ser, .int .i64 x.a, .int .i64 x.b] 30)))
          clear hcells e1 e2 e3 hx hlt2
          obtain ⟨nm, se, xa, xb⟩ := x
          unfold Hld.val at HADD
          dsimp only at *
          by_cases h1 : 60 < nm.size
          · have t1 : decide ((60 : Int) < (nm.size : Int)) = true := by simp only [decide_eq_true_eq]; omega
            clear h1
            go_wp2
            go_ret
            exact ⟨rfl, HS2.out.bel⟩
          · have t1 : decide ((60 : Int) < (nm.size : Int)) = false := by simp only [decide_eq_false_iff_not]; omega
            clear h1
            by_cases h2 : 60 < se.size
            · have t2 : decide ((60 : Int) < (se.size : Int)) = true := by simp only [decide_eq_true_eq]; omega
              clear h2
              go_wp2
              go_ret
              exact ⟨rfl, HS2.out.bel⟩
            · have t2 : decide ((60 : Int) < (se.size : Int)) = false := by simp only [decide_eq_false_iff_not]; omega
              clear h2
              go_wp2_with (go_at_call 11; refine (HADD.out _ HS2.out).mono ?_; rintro e W3 ⟨⟨u, rfl⟩, b', hs3⟩; have HS3 := Lib.hid hs3; clear hs3)
              go_roundw
              case rel => exact ⟨k + 1, b', _, by omega, by go_num, HS3.out⟩
              case measure => simp [intOf]; omega
        · obtain rfl : k = N := by omega
          have hT0 : 0 ≤ n % 200 := Int.emod_nonneg _ (by omega)
          have hT1 : n % 200 < 200 := Int.emod_lt_of_pos _ (by omega)
          have HS5 : Hid (TSt w p b m (wr.alloc (.cells #[.int .i64 f, .int .i64 (f + n % 200)] 24))) := Lib.hid (HST.out.beyond ((Below.refl _ wr).alloc (Nat.le_refl _) _))
          have HR5 : Hid (RgAt (wr.alloc (.cells #[.int .i64 f, .int .i64 (f + n % 200)] 24)) wr.heap.size f (f + n % 200)) := Lib.hid (RgAt.new wr _ _)
          obtain ⟨cf, cT, -, -⟩ := HR5.out.cells
          obtain ⟨T, hT⟩ : ∃ T, T = f + n % 200 := ⟨_, rfl⟩
          obtain ⟨q, hq⟩ : ∃ q, q = wr.heap.size := ⟨_, rfl⟩
          have HTT := Lib.hid hT
          have HQ := Lib.hid hq
          clear HL HIN HN hT hq
          go_wp2_with fail
          rw [← HTT.out] at HS5 HR5 ⊢
          rw [← HQ.out] at HR5 ⊢
          have hTf : f ≤ T := by rw [HTT.out]; omega
          have hTm : T ≤ 4294967495 := by rw [HTT.out]; omega
          obtain ⟨W5, hW5⟩ : ∃ W5, W5 = wr.alloc (.cells #[.int .i64 f, .int .i64 T] 24) := ⟨_, rfl⟩
          rw [← hW5] at HS5 HR5 ⊢
          clear hW5 cf cT hT0 hT1
          go_loopw [13, 14] (fun sm i W => ∃ (t : Int) (y : Bool), f ≤ t ∧ t ≤ T ∧ i = .int .i64 t ∧ sm = .bool y ∧ (y = true ↔ covU m s f t) ∧ TSt w p b m W ∧ RgAt W q f T) (fun _ i _ => (T - intOf i).toNat)
          case atStart => exact ⟨f, false, by omega, hTf, rfl, rfl, ⟨fun h => (by cases h), fun h => absurd h (covU_start m s f)⟩, HS5.out, HR5.out⟩
          case round =>
            obtain ⟨t, y, ht0, ht1, rfl, rfl, hy, hst, hrg⟩ := hrel
            obtain ⟨cf, cT, -, -⟩ := hrg.cells
            have HY := Lib.hid hy
            have HS6 := Lib.hid hst
            have HR6 := Lib.hid hrg
            clear hy hst hrg
            by_cases htT : t < T
            · have tt : decide (t < T) = true := decide_eq_true htT
              cases y with
              | true =>
                have HC := Lib.hid (covU_yes (HY.out.1 rfl))
                clear HY
                go_wp2
                go_roundw
                case rel => exact ⟨t + 1, true, by omega, by omega, by go_num, rfl, ⟨fun _ => HC.out, fun _ => rfl⟩, HS6.out, HR6.out⟩
                case measure => simp [intOf]; omega
              | false =>
                have HC := Lib.hid (covU_next (m := m) (s := s) ht0 (fun h => by have := HY.out.2 h; cases this))
                have HCO := Lib.hid (hocov_any HS6.out.at_ HS6.out.tab s t)
                obtain ⟨V, hV⟩ : ∃ V, V = someH m s fun a b => inR a b t := ⟨_, rfl⟩
                rw [← hV] at HC HCO
                clear HY hV
                go_wp2_with (go_at_call 15; refine (HCO.out).mono ?_; rintro e W7 ⟨rfl, hb7⟩; have HS7 := Lib.hid (HS6.out.beyond hb7); have HR7 := Lib.hid (HR6.out.keep hb7); clear hb7)
                go_roundw
                case rel => exact ⟨t + 1, V, by omega, by omega, by go_num, rfl, HC.out.symm, HS7.out, HR7.out⟩
                case measure => simp [intOf]; omega
            · have tt : decide (t < T) = false := decide_eq_false htT
              obtain rfl : t = T := by omega
              have HME := Lib.hid (homeet_any HS6.out.at_ HS6.out.tab s f t)
              have hmy : (someH m s fun a b => meetsR a b f t) = y := by
                rw [Bool.eq_iff_iff, covU_meets]
                exact HY.out.symm
              rw [hmy] at HME
              clear hmy
              cases y with
              | false =>
                go_wp2_with (go_at_call 16; refine (HME.out).mono ?_; rintro e W7 ⟨rfl, hb7⟩; have HS7 := Lib.hid (HS6.out.beyond hb7); clear hb7)
                go_ret
                exact ⟨rfl, HS7.out.bel⟩
              | true =>
                have HAN : Hid (∀ W, TabAt W p b m → Calls Try.prog 17 #[.pointer (some ⟨p, 0, none⟩), .string s] W fun e w' => e = .returned (.bool true) ∧ Below W.heap.size W w') := Lib.hid fun W hW => by have := hoany_any hW HS6.out.tab s; rwa [covU_any (HY.out.1 rfl)] at this
                go_wp2_with (first | (go_at_call 16; refine (HME.out).mono ?_; rintro e W7 ⟨rfl, hb7⟩; have HS7 := Lib.hid (HS6.out.beyond hb7); clear hb7) | (go_at_call 17; refine (HAN.out _ HS7.out.at_).mono ?_; rintro e W8 ⟨rfl, hb8⟩; have HS8 := Lib.hid (HS7.out.beyond hb8); clear hb8))
                go_ret
                exact ⟨rfl, HS8.out.bel⟩
end Go.Proofs.Ytphgkkdpdiiioaa
