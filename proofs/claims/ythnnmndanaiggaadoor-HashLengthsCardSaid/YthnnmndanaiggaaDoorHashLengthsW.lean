/- HashLengths, walked. -/
import Derived.Test.YthnnmndanaiggaaDoorHashSumsW
import Derived.OwnWalk
namespace Go.Proofs.YthnnmndanaiggaaDoor
open Go.RowKit

theorem made_arr {w : World} {B g k : Nat} (h : w.ownsRow B 5 1 (.slice (some ⟨g, 0, none⟩) k k) k (madeCells (Value.cells (.int .u8 0)) (k * 1)).toList) : k = 0 ∨ Arr w g 5 (u8s (List.replicate k 0)) := by
  rcases h.2 with ⟨hv, h0⟩ | ⟨g', cap, cur, hv, _, hg, _, _, hcs, ht⟩
  · exact .inl h0
  · cases hv
    right
    have e : cur.toList = u8s (List.replicate k 0) := by
      rw [List.take_of_length_le (by simp [hcs])] at ht
      rw [ht]
      apply List.ext_getElem?
      intro i
      by_cases hi : i < k
      · simp [madeCells, Value.cells, u8s, hi, Nat.mod_one]
      · simp [madeCells, Value.cells, u8s, hi]
    unfold Arr
    rw [← e]; simpa using hg
theorem arr_lies {w : World} {g : Nat} {l : List Nat} (h : Arr w g 5 (u8s l)) : Lies w (.slice (some ⟨g, 0, none⟩) l.length l.length) l :=
  .inr (.inr ⟨g, 0, l.length, rfl, fun j hj => by rw [Nat.zero_add]; exact h.cell (u8s_getD l j hj)⟩)

set_option maxHeartbeats 8000000 in
set_option maxRecDepth 1000000 in
theorem hashLengths_walk {a0 a1 : Int} (l0 : 0 ≤ a0) (u0 : a0 ≤ 65535) (l1 : 0 ≤ a1) (u1 : a1 ≤ 255) (w : World) (h0 : WordsLaid w) (h1 : RootsLaid w) :
    Calls Tryd.prog 5 #[.int .u16 a0, .int .u8 a1] w fun e w' => e = .returned (.bool true) ∧ Below w.heap.size w w' := by
  have HT : Hid (Tabs w) := Lib.hid ⟨h1, h0⟩
  obtain ⟨x, rfl⟩ : ∃ x : Nat, a1 = (x : Int) := ⟨a1.toNat, by omega⟩
  obtain ⟨n, rfl⟩ : ∃ n : Nat, a0 = (n : Int) := ⟨a0.toNat, by omega⟩
  obtain ⟨k, hk⟩ : ∃ k, k = n % 301 := ⟨_, rfl⟩
  have e1 : Int.tmod (n : Int) 301 = (k : Int) := by rw [Int.tmod_eq_emod_of_nonneg (by omega)]; omega
  have e2 : (n : Int) % 301 = (k : Int) := by omega
  have hk301 : k < 301 := by omega
  have hx : x < 256 := by omega
  have HXB : Hid (∀ y ∈ List.replicate k x, y < 256) := Lib.hid fun y hy => by rw [(List.mem_replicate.1 hy).2]; exact hx
  obtain ⟨iU, hiU, hzU, hsU, hbU⟩ : ∃ i, Tryd.prog.info? 5 = some i ∧ i.zero = some (.int .u8 0) ∧ i.size = 1 ∧ i.bytes = 1 := by
    have h := infoU8
    cases hi : Tryd.prog.info? 5 with
    | none => rw [hi] at h; simp at h
    | some i => rw [hi] at h; simp at h; exact ⟨i, rfl, h.1, h.2.1, h.2.2⟩
  have hn65 : n ≤ 65535 := by omega
  have e0 : IntKind.i64.wrap (n : Int) = (n : Int) := by rw [IntKind.wrap_i64]; omega
  clear h0 h1 hk u0 u1 l0 l1
  go_enter Tryd.func5, Tryd.ntmps5
  repeat (first | (go_at_call 6; refine (lives_any w HT.out).mono ?_; rintro e W1 ⟨rfl, hb1⟩; have HB1 := Lib.hid hb1; clear hb1; dsimp only) | (refine wpList_make_full _ rfl (.tmp 11) (.tmp 11) 22 rfl W1.heap.size 5 iU (.int .u8 0) 1 Tryd.underlying22 hiU hzU hsU .i64 .i64 _ _ k rfl rfl rfl rfl (by rw [hbU]; omega) (by unfold maxLen; omega) (Nat.le_refl _) ?_; intro W2 hown2 hg2; have HO2 := Lib.hid hown2; have HB2 := Lib.hid (HB1.out.trans (((Below.refl W1.heap.size W1).grown hg2 (Nat.le_refl _) (fun k hk => by cases hk)).mono HB1.out.size)); clear hown2 hg2) | go_values | go_skip | go_guarded | go_step | go_upon)
  obtain ⟨g, hg⟩ : ∃ g, g = W1.heap.size := ⟨_, rfl⟩
  rw [← hg] at HO2 ⊢
  have hgw : w.heap.size ≤ g := by rw [hg]; exact HB1.out.size
  have HM : Hid (k = 0 ∨ Arr W2 g 5 (u8s (fillL (List.replicate k x) k 0))) := Lib.hid (by
    have h := made_arr HO2.out
    rw [show fillL (List.replicate k x) k 0 = List.replicate k 0 by simp [fillL]]; exact h)
  clear hg HO2
  go_loopw [15] (fun c wr => ∃ i : Nat, i ≤ k ∧ c = .int .i64 i ∧ (k = 0 ∨ Arr wr g 5 (u8s (fillL (List.replicate k x) k i))) ∧ Below w.heap.size w wr) (fun c _ => k - (intOf c).toNat)
  case atStart => exact ⟨0, by omega, rfl, HM.out, HB2.out⟩
  case round =>
    obtain ⟨i, hi, rfl, harr, hbw⟩ := hrel
    have HBW := Lib.hid hbw
    have HA := Lib.hid harr
    clear HM harr hbw
    by_cases hlt : i < k
    · have t1 : decide ((i : Int) < (k : Int)) = true := by simp only [decide_eq_true_eq]; omega
      have hti : (i : Int) < (k : Int) := by omega
      have HAA : Hid (Arr wr g 5 (u8s (fillL (List.replicate k x) k i))) := Lib.hid (by
        rcases HA.out with h | h
        · omega
        · exact h)
      have HX : Hid ((List.replicate k x)[i]? = some x) := Lib.hid (by simp [hlt])
      obtain ⟨o1, ho1⟩ : ∃ u, wr.cell? ⟨g, i, none⟩ = some u := ⟨_, HAA.out.cell (List.getElem?_eq_getElem (by simp [u8s, fillL]; omega))⟩
      have q1 := HAA.out.free i
      clear HA
      repeat (first | go_values | go_skip | go_guarded | go_step | go_upon)
      go_roundw
      case rel => exact ⟨i + 1, by omega, by go_num, .inr (by rw [← fill8_set hlt HX.out]; exact HAA.out.set i _), HBW.out.trans ((Only.setCell (S := fun b => b = g) wr (p := ⟨g, i, none⟩) rfl _).below (by have := HBW.out.size; omega) (fun b hb => by omega))⟩
      case measure => simp [intOf]; omega
    · have t1 : decide ((i : Int) < (k : Int)) = false := by simp only [decide_eq_false_iff_not]; omega
      have hik : i = k := by omega
      have HL : Hid (Lies wr (.slice (some ⟨g, 0, none⟩) k k) (List.replicate k x)) := Lib.hid (by
        rcases HA.out with h | h
        · subst h; exact .inr (.inl ⟨_, _, rfl, rfl⟩)
        · rw [hik, fill_full (by simp)] at h
          have h2 := arr_lies h
          rw [List.length_replicate] at h2; exact h2)
      obtain ⟨L, hL⟩ : ∃ L, L = u8s (digest (List.replicate k x)) := ⟨_, rfl⟩
      have HS := Lib.hid (hsum_any HL.out (fits_slice (Nat.le_refl _)) HXB.out (by simp; omega) (HT.out.keep HBW.out))
      have HRS : Hid (∀ W, Below wr.heap.size wr W → Calls Tryd.prog 8 #[.slice (some ⟨g, 0, none⟩) k k] W fun e w' => e = .returned (.agg L.toArray) ∧ Below W.heap.size W w') := Lib.hid fun W hW => by
        rw [hL]; exact rsum_any (lies_keep HL.out hW) HXB.out (by simp; omega)
      have HEQ : Hid (∀ W, (Op.equalIn 10000 25 (.agg L.toArray) (.agg L.toArray)).run Tryd.prog W = .ok true W) := Lib.hid fun W => by rw [hL]; exact dig_same _ (digest_length _) W
      rw [← hL] at HS
      clear hL hik HA hi
      repeat (first | go_values | go_skip | go_guarded | go_step | go_upon)
      refine HS.out.mono ?_
      rintro e W3 ⟨rfl, hw3⟩
      dsimp only
      repeat (first | go_values | go_skip | go_guarded | go_step | go_upon)
      refine (HRS.out W3 hw3).mono ?_
      rintro e W4 ⟨rfl, hw4⟩
      have hq := HEQ.out W4
      have HB4 : Hid (Below w.heap.size w W4) := Lib.hid ((HBW.out.trans (hw3.mono HBW.out.size)).trans (hw4.mono (by have := HBW.out.size; have := hw3.size; omega)))
      clear hw3 hw4
      dsimp only
      repeat (first | go_values | go_skip | go_guarded | go_step | go_upon)
      go_ret
      exact ⟨rfl, HB4.out⟩
end Go.Proofs.YthnnmndanaiggaaDoor
