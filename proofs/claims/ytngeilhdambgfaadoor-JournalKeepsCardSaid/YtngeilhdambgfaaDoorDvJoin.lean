/- Sectors' bytes, one behind the other. -/
import Derived.Test.YtngeilhdambgfaaDoorDvAt
namespace Go.Proofs.YtngeilhdambgfaaDoor
open Go.RowKit

set_option maxHeartbeats 8000000 in
set_option maxRecDepth 1000000 in
theorem join_any {w : World} {a : Option Addr} {n c : Nat} {bs : List Nat} (hform : n ≠ 0 → ∃ b off, a = some ⟨b, off, none⟩ ∧ BytesAt w b off bs) (hl : bs.length = n * 64) (hn : n ≤ 100000) :
    Calls Tryd.prog 36 #[.slice a n c] w fun e w' => ∃ v', e = .returned v' ∧ w'.ownsRow w.heap.size 5 1 v' (n * 64) (u8s bs) ∧ Below w.heap.size w w' := by
  obtain ⟨iU, hiU, hzU, hsU, hbU⟩ := info_u8
  have HF := Lib.hid hform
  have HL := Lib.hid hl
  clear hform hl
  obtain ⟨m, hm⟩ : ∃ m, m = n * 64 := ⟨_, rfl⟩
  have e2 : IntKind.i64.wrap ((n : Int) * 64) = (m : Int) := by rw [IntKind.wrap_i64]; omega
  have e3 : (n : Int) * 64 = (m : Int) := by omega
  have hm2 : m ≤ 6400000 := by omega
  have HM := Lib.hid hm
  rw [← hm]
  clear hm
  go_enter Tryd.func36, Tryd.ntmps36
  repeat (first | (refine wpList_make_own w rfl (.const (.int .i64 0)) (.tmp 7) 33 rfl w.heap.size 5 iU (.int .u8 0) 1 Tryd.underlying33 hiU hzU hsU .i64 .i64 _ m rfl rfl rfl (by rw [hbU]; omega) (by unfold maxLen; omega) (Nat.le_refl _) ?_; intro W1 hown1 hg1; have HO1 := Lib.hid hown1; have HB1 : Hid (Below w.heap.size w W1) := Lib.hid ((Below.refl w.heap.size w).grown hg1 (Nat.le_refl _) (fun k hk => by cases hk)); clear hown1 hg1) | go_values | go_skip | go_guarded | go_step)
  go_loopw [3, 11] (fun v3 i wr => ∃ k : Nat, k ≤ n ∧ i = .int .i64 k ∧ wr.ownsRow w.heap.size 5 1 v3 (k * 64) (u8s (bs.take (k * 64))) ∧ Below w.heap.size w wr) (fun _ i _ => n - (intOf i).toNat)
  case atStart => exact ⟨0, by omega, rfl, by simpa [u8s] using HO1.out, HB1.out⟩
  case round =>
    obtain ⟨k, hk, rfl, hown, hbw⟩ := hrel
    have HO := Lib.hid hown
    have HBW := Lib.hid hbw
    clear hown hbw
    by_cases hlt : k < n
    · have t3 : decide ((k : Int) < (n : Int)) = true := by simp only [decide_eq_true_eq]; omega
      have hti : (k : Int) < (n : Int) := by omega
      obtain ⟨b, off, rfl, hby⟩ := HF.out (by omega)
      have HLI : Hid (Lies wr (.slice (some ⟨b, off + k * 64, none⟩) 64 64) ((bs.drop (k * 64)).take 64)) := Lib.hid (by
        have hlen : ((bs.drop (k * 64)).take 64).length = 64 := by rw [List.length_take, List.length_drop, HL.out]; omega
        refine .inr (.inr ⟨b, off + k * 64, 64, by rw [hlen], fun j hj => ?_⟩)
        rw [hlen] at hj
        have h := hby (k * 64 + j) (by rw [HL.out]; omega)
        rw [Nat.add_assoc, HBW.out.cell (p := ⟨b, off + (k * 64 + j), none⟩) (cell_lt h), h]
        simp [List.getD, hj])
      clear hby
      have hlen : ((bs.drop (k * 64)).take 64).length = 64 := by rw [List.length_take, List.length_drop, HL.out]; omega
      have hbase : w.heap.size ≤ wr.heap.size := HBW.out.size
      go_wp2_with (at_builtin; refine wpList_append_bytes _ rfl (.tmp 14) (.tmp 18) 33 rfl w.heap.size 5 iU Tryd.underlying33 hiU hzU hsU hbU u3 _ _ rfl HO.out (.slice (some ⟨b, off + k * 64, none⟩) 64 64) _ rfl HLI.out (by rw [hlen]; omega) hbase ?_; intro v2 w2 hown2 hgrow hat; have HO2 := Lib.hid hown2; have HG2 := Lib.hid hgrow; clear hown2 hgrow hat)
      go_roundw
      case rel =>
        refine ⟨k + 1, by omega, by go_num, ?_, HBW.out.grown HG2.out hbase (fun i hi => (HO.out.lt i hi).1)⟩
        have h := HO2.out
        rw [hlen, ← u8s_append, show k * 64 + 64 = (k + 1) * 64 by omega] at h
        rw [show bs.take ((k + 1) * 64) = bs.take (k * 64) ++ (bs.drop (k * 64)).take 64 by rw [show (k + 1) * 64 = k * 64 + 64 by omega, List.take_add]]
        exact h
      case measure => simp [intOf]; omega
    · have t3 : decide ((k : Int) < (n : Int)) = false := by simp only [decide_eq_false_iff_not]; omega
      obtain rfl : k = n := by omega
      go_wp2
      go_ret
      exact ⟨_, rfl, by rw [HM.out]; rw [List.take_of_length_le (by rw [HL.out]; omega)] at HO; exact HO.out, HBW.out⟩

set_option maxHeartbeats 1000000 in
theorem read_none (w : World) (x y : Value) : Calls Tryd.prog 27 #[.pointer none, x, y] w fun e w' => e = .returned (.tuple #[.slice none 0 0, .int .i64 13]) ∧ w' = w := by
  go_enter Tryd.func27, Tryd.ntmps27
  go_wp2_with (go_at_call 35; refine (down_none _).mono ?_; rintro e w' ⟨rfl, rfl⟩)
  go_ret2
  exact ⟨rfl, rfl⟩
set_option maxHeartbeats 2000000 in
theorem read_ok {w : World} {B P f n : Nat} {d : Dev} (h : DevAt w B P d) (hup : d.down = false) (hfn : f + n ≤ d.lies.length) : Calls Tryd.prog 27 #[.pointer (some ⟨P, 0, none⟩), .int .i64 (f : Int), .int .i64 (n : Int)] w fun e w' =>
    ∃ v', e = .returned (.tuple #[v', .int .i64 0]) ∧ w'.ownsRow w.heap.size 5 1 v' (n * 64) (u8s ((d.told.drop f).take n).flatten) ∧ Below w.heap.size w w' := by
  have HD := Lib.hid h
  obtain ⟨g1, g2, wv, h⟩ := h
  obtain ⟨_, c1, _⟩ := h.cells
  have hN : d.lies.length ≤ 8192 := h.ok.size
  have HB : Hid (n ≠ 0 → BytesAt w g2 (f * 64) ((d.told.drop f).take n).flatten) := Lib.hid (fun _ j hj => by
    have hs1 : Sect (d.told.drop f) := fun s hs => h.ok.told s (List.mem_of_mem_drop hs)
    rw [flat_take hs1, flat_drop h.ok.told] at hj ⊢
    rw [List.length_take] at hj
    have h1 := arr_bytes h.told (f * 64 + j) (by rw [List.length_drop] at hj; omega)
    rw [Nat.zero_add] at h1
    rw [h1]
    simp [List.getD, show j < n * 64 by omega])
  have HL : Hid (((d.told.drop f).take n).flatten.length = n * 64) := Lib.hid (by
    rw [flat_length (fun s hs => h.ok.told s (List.mem_of_mem_drop (List.mem_of_mem_take hs))), List.length_take, List.length_drop, d.told_length, Nat.min_eq_left (by omega)])
  obtain ⟨N, hNN⟩ : ∃ N, N = d.lies.length := ⟨_, rfl⟩
  rw [← hNN] at c1 hN hfn
  have HNN := Lib.hid hNN
  clear h hNN
  have t1 : decide ((f : Int) < 0) = false := by simp
  have t2 : decide ((n : Int) < 0) = false := by simp
  have t3 : decide ((N : Int) < (f : Int)) = false := by simp; omega
  have e1 : IntKind.i64.wrap ((N : Int) - f) = ((N - f : Nat) : Int) := by rw [IntKind.wrap_i64]; omega
  have e2 : IntKind.i64.wrap ((f : Int) + n) = ((f + n : Nat) : Int) := by rw [IntKind.wrap_i64]; omega
  have e3 : (N : Int) - f = ((N - f : Nat) : Int) := by omega
  have t4 : decide (((N - f : Nat) : Int) < (n : Int)) = false := by simp; omega
  have hf0 : f ≤ f + n := by omega
  go_enter Tryd.func27, Tryd.ntmps27
  go_wp2_with (first | (go_at_call 35; refine (down_any HD.out).mono ?_; rw [hup]; rintro e w' ⟨rfl, rfl⟩) | (go_at_call 32; refine (len_any HD.out).mono ?_; rw [← HNN.out]; rintro e w' ⟨rfl, rfl⟩))
  all_goals
    refine (join_any (bs := ((d.told.drop f).take n).flatten) (fun hn0 => by first | exact ⟨g2, _, rfl, HB.out hn0⟩ | (exfalso; omega)) HL.out (by omega)).mono ?_
    rintro e w3 ⟨v', rfl, hown, hbel⟩
    have HO := Lib.hid hown
    have HBE := Lib.hid hbel
    clear hown hbel
    dsimp only
    go_wp2
    go_ret2
    exact ⟨_, rfl, HO.out, HBE.out⟩
end Go.Proofs.YtngeilhdambgfaaDoor
