/- StampTorn, walked. -/
import Derived.Test.YtmclhnbilghnjaaStSame
import Derived.Test.YtmclhnbilghnjaaStLives
import Derived.Test.YtmclhnbilghnjaaOpenSect
import Derived.Deep.DeepCutAuto
namespace Go.Proofs.Ytmclhnbilghnjaa
open Go.RowKit

theorem sec_one {x y : Nat} {b : Bool} {u : Value} (h : u.oneCell' = true) : ∀ v ∈ [Value.int .u32 (x : Int), .int .u32 (y : Int), .bool b, u], v.oneCell' = true := by
  intro v hv
  simp only [List.mem_cons, List.not_mem_nil, or_false] at hv
  rcases hv with rfl | rfl | rfl | rfl
  · rfl
  · rfl
  · rfl
  · exact h
theorem no_sec : ∀ (k : Nat) (x : Int), (#[.int .u32 0, .int .u32 0, .bool false, .slice none 0 0] : Array Value)[k]? ≠ some (Value.int .u8 x) := by
  intro k x h
  rcases (show k = 0 ∨ k = 1 ∨ k = 2 ∨ k = 3 ∨ 4 ≤ k by omega) with rfl | rfl | rfl | rfl | h2
  · simp at h
  · simp at h
  · simp at h
  · simp at h
  · rw [Array.getElem?_eq_none (by simpa using h2)] at h; cases h
theorem ends_sec {s : Sec} (h : s.Ok) : (secB s).take 8 = (secB s).drop 56 := by rw [secB_take, secB_drop h.2.1]
theorem ends_zero : (List.replicate 64 0).take 8 = (List.replicate 64 0).drop 56 := rfl
theorem ne_sec {s s' : Sec} (h : s.Ok) (h' : s'.Ok) (hne : ¬ (s.turn = s'.turn ∧ s.place = s'.place)) : (secB s).take 8 ≠ (secB s').take 8 := by
  rw [secB_take, secB_take]
  exact fun he => hne (stampB_inj h.2.2.1 h.2.2.2.1 h'.2.2.1 h'.2.2.2.1 he)
theorem ne_zero {s : Sec} (h : s.Ok) : (secB s).take 8 ≠ (List.replicate 64 0).take 8 := by
  rw [secB_take]
  intro he
  refine h.1 (numB_zero (zeroL_iff.2 fun x hx => ?_) h.2.2.1)
  have h1 : x ∈ stampB s.turn s.place := by unfold stampB; exact List.mem_append_left _ hx
  rw [he] at h1
  exact (List.mem_replicate.1 (List.mem_of_mem_take h1)).2
theorem rep_small : ∀ x ∈ List.replicate 64 0, x < 256 := by intro x hx; rw [(List.mem_replicate.1 hx).2]; omega
set_option maxHeartbeats 16000000 in
set_option maxRecDepth 1000000 in
theorem stampTorn_walk {w : World} {s0 s1 : Sec} {u0 u1 : Value} {k q : Int} (hu0 : Lies w u0 s0.data) (_hf0 : Fits u0) (hi0 : s0.In) (_hm0 : s0.data.length ≤ maxLen) (hu1 : Lies w u1 s1.data) (_hf1 : Fits u1) (hi1 : s1.In) (_hm1 : s1.data.length ≤ maxLen) (hk0 : 0 ≤ k) (hk1 : k ≤ 255) (hq0 : 0 ≤ q) (_hq1 : q ≤ 255) :
    Calls Try.prog 3 #[secV s0 u0, secV s1 u1, .int .u8 k, .int .u8 q] w fun e w' => e = .returned (.bool true) ∧ Below w.heap.size w w' := by
  obtain ⟨a0, c0, rfl⟩ := lies_len hu0
  obtain ⟨a1, c1, rfl⟩ := lies_len hu1
  obtain ⟨t0, p0, L0, D0⟩ := s0
  obtain ⟨t1, p1, L1, D1⟩ := s1
  obtain ⟨n0, hn0⟩ : ∃ n, n = D0.length := ⟨_, rfl⟩
  obtain ⟨n1, hn1⟩ : ∃ n, n = D1.length := ⟨_, rfl⟩
  unfold secV
  simp only at hu0 hu1 ⊢
  rw [← hn0] at hu0
  rw [← hn1] at hu1
  rw [← hn0, ← hn1]
  have HU0 := Lib.hid hu0
  have HU1 := Lib.hid hu1
  have HN0 := Lib.hid hn0
  have HN1 := Lib.hid hn1
  have HI0 := Lib.hid hi0
  have HI1 := Lib.hid hi1
  clear hu0 hu1 hn0 hn1 hi0 hi1 _hf0 _hf1 _hm0 _hm1 _hq1
  have HLV : Hid (∀ W, Calls Try.prog 5 #[] W fun e w' => e = .returned (.bool true) ∧ Below W.heap.size W w') := Lib.hid lives_any
  go_enter Try.func3, Try.ntmps3
  go_upto_region 1 with fail
  obtain ⟨V4, hV4⟩ : ∃ V, V = w.heap.size := ⟨_, rfl⟩
  obtain ⟨V5, hV5⟩ : ∃ V, V = w.heap.size + 1 := ⟨_, rfl⟩
  rw [← hV5, ← hV4]
  refine wp_name fun W0 hW0 => ?_
  have HV40 : Hid (W0.heap[V4]? = some (.cells #[.int .u32 (t0 : Int), .int .u32 (p0 : Int), .bool L0, .slice a0 n0 c0] 27 (0, 0))) := Lib.hid (by rw [hW0, hV4, Below.heap_alloc _ _ _ (by simp)]; exact heap_alloc_new _ _)
  have HV50 : Hid (W0.heap[V5]? = some (.cells #[.int .u32 (t1 : Int), .int .u32 (p1 : Int), .bool L1, .slice a1 n1 c1] 27 (0, 0))) := Lib.hid (by rw [hW0, hV5]; simpa using heap_alloc_new (w.alloc (.cells #[.int .u32 (t0 : Int), .int .u32 (p0 : Int), .bool L0, .slice a0 n0 c0] 27)) (.cells #[.int .u32 (t1 : Int), .int .u32 (p1 : Int), .bool L1, .slice a1 n1 c1] 27))
  have HB0 : Hid (Below w.heap.size w W0) := Lib.hid (by rw [hW0]; exact ((Below.refl _ w).alloc (Nat.le_refl _) _).alloc (by simp) _)
  clear hW0 hV4 hV5
  go_cut [46] (fun s46 W => s46 = .bool (decide ((t0 = t1 ∧ p0 = p1) ∨ t0 = 0 ∨ t1 = 0 ∨ 47 < n0 ∨ 47 < n1)) ∧ W.heap[V4]? = some (.cells #[.int .u32 (t0 : Int), .int .u32 (p0 : Int), .bool L0, .slice a0 n0 c0] 27 (0, 0)) ∧ W.heap[V5]? = some (.cells #[.int .u32 (t1 : Int), .int .u32 (p1 : Int), .bool L1, .slice a1 n1 c1] 27 (0, 0)) ∧ Below w.heap.size w W)
  case first =>
    go_wp2_with fail
    refine (HLV.out _).mono ?_
    rintro e w1 ⟨rfl, hb1⟩
    have HB1 : Hid (Below w.heap.size w w1) := Lib.hid (HB0.out.trans (hb1.mono HB0.out.size))
    have hv4 : w1.heap[V4]? = some (.cells #[.int .u32 (t0 : Int), .int .u32 (p0 : Int), .bool L0, .slice a0 n0 c0] 27 (0, 0)) := (hb1.block V4 (lt_of_block HV40.out)).trans HV40.out
    have hv5 : w1.heap[V5]? = some (.cells #[.int .u32 (t1 : Int), .int .u32 (p1 : Int), .bool L1, .slice a1 n1 c1] 27 (0, 0)) := (hb1.block V5 (lt_of_block HV50.out)).trans HV50.out
    have HV41 := Lib.hid hv4
    have HV51 := Lib.hid hv5
    obtain ⟨⟨g0, g1, g2, g3⟩, _, _, _, _⟩ := cells4 hv4
    obtain ⟨⟨k0, k1, k2, k3⟩, _, _, _, _⟩ := cells4 hv5
    obtain ⟨A0, hA0⟩ : ∃ A : Int, A = t0 := ⟨_, rfl⟩
    obtain ⟨B0, hB0⟩ : ∃ A : Int, A = p0 := ⟨_, rfl⟩
    obtain ⟨A1, hA1⟩ : ∃ A : Int, A = t1 := ⟨_, rfl⟩
    obtain ⟨B1, hB1⟩ : ∃ A : Int, A = p1 := ⟨_, rfl⟩
    rw [← hA0] at g0
    rw [← hB0] at g1
    rw [← hA1] at k0
    rw [← hB1] at k1
    have HAB : Hid (A0 = t0 ∧ B0 = p0 ∧ A1 = t1 ∧ B1 = p1) := Lib.hid ⟨hA0, hB0, hA1, hB1⟩
    clear hb1 hv4 hv5 hA0 hB0 hA1 hB1
    by_cases e1 : t0 = t1
    · by_cases e2 : p0 = p1
      · have f1 : (A0 == A1) = true := by have := HAB.out; simp; omega
        have f2 : (B0 == B1) = true := by have := HAB.out; simp; omega
        have E1 := Lib.hid e1
        clear e1
        have E2 := Lib.hid e2
        clear e2
        go_wp2_with fail
        all_goals go_meet
        all_goals exact ⟨congrArg Value.bool (decide_eq_true (p := ((t0 = t1 ∧ p0 = p1) ∨ t0 = 0 ∨ t1 = 0 ∨ 47 < n0 ∨ 47 < n1)) (by have := E1.out; have := E2.out; omega)).symm, HV41.out, HV51.out, HB1.out⟩
      · have f2 : (B0 == B1) = false := by have := HAB.out; simp; omega
        have E1 := Lib.hid e1
        clear e1
        have E2 := Lib.hid e2
        clear e2
        by_cases z0 : t0 = 0
        · have f3 : (A0 == 0) = true := by have := HAB.out; simp; omega
          have Z0 := Lib.hid z0
          clear z0
          go_wp2_with fail
          all_goals go_meet
          all_goals exact ⟨congrArg Value.bool (decide_eq_true (p := ((t0 = t1 ∧ p0 = p1) ∨ t0 = 0 ∨ t1 = 0 ∨ 47 < n0 ∨ 47 < n1)) (by have := E1.out; have := E2.out; have := Z0.out; omega)).symm, HV41.out, HV51.out, HB1.out⟩
        · have f3 : (A0 == 0) = false := by have := HAB.out; simp; omega
          have Z0 := Lib.hid z0
          clear z0
          by_cases z1 : t1 = 0
          · have f4 : (A1 == 0) = true := by have := HAB.out; simp; omega
            have Z1 := Lib.hid z1
            clear z1
            go_wp2_with fail
            all_goals go_meet
            all_goals exact ⟨congrArg Value.bool (decide_eq_true (p := ((t0 = t1 ∧ p0 = p1) ∨ t0 = 0 ∨ t1 = 0 ∨ 47 < n0 ∨ 47 < n1)) (by have := E1.out; have := E2.out; have := Z0.out; have := Z1.out; omega)).symm, HV41.out, HV51.out, HB1.out⟩
          · have f4 : (A1 == 0) = false := by have := HAB.out; simp; omega
            have Z1 := Lib.hid z1
            clear z1
            by_cases y0 : 47 < n0
            · have f5 : decide ((47 : Int) < (n0 : Int)) = true := by simp; omega
              have Y0 := Lib.hid y0
              clear y0
              go_wp2_with fail
              all_goals go_meet
              all_goals exact ⟨congrArg Value.bool (decide_eq_true (p := ((t0 = t1 ∧ p0 = p1) ∨ t0 = 0 ∨ t1 = 0 ∨ 47 < n0 ∨ 47 < n1)) (by have := E1.out; have := E2.out; have := Z0.out; have := Z1.out; have := Y0.out; omega)).symm, HV41.out, HV51.out, HB1.out⟩
            · have f5 : decide ((47 : Int) < (n0 : Int)) = false := by simp; omega
              have Y0 := Lib.hid y0
              clear y0
              by_cases y1 : 47 < n1
              · have f6 : decide ((47 : Int) < (n1 : Int)) = true := by simp; omega
                have Y1 := Lib.hid y1
                clear y1
                go_wp2_with fail
                all_goals go_meet
                all_goals exact ⟨congrArg Value.bool (decide_eq_true (p := ((t0 = t1 ∧ p0 = p1) ∨ t0 = 0 ∨ t1 = 0 ∨ 47 < n0 ∨ 47 < n1)) (by have := E1.out; have := E2.out; have := Z0.out; have := Z1.out; have := Y0.out; have := Y1.out; omega)).symm, HV41.out, HV51.out, HB1.out⟩
              · have f6 : decide ((47 : Int) < (n1 : Int)) = false := by simp; omega
                have Y1 := Lib.hid y1
                clear y1
                go_wp2_with fail
                all_goals go_meet
                all_goals exact ⟨congrArg Value.bool (decide_eq_false (p := ((t0 = t1 ∧ p0 = p1) ∨ t0 = 0 ∨ t1 = 0 ∨ 47 < n0 ∨ 47 < n1)) (by have := E1.out; have := E2.out; have := Z0.out; have := Z1.out; have := Y0.out; have := Y1.out; omega)).symm, HV41.out, HV51.out, HB1.out⟩
    · have f1 : (A0 == A1) = false := by have := HAB.out; simp; omega
      have E1 := Lib.hid e1
      clear e1
      by_cases z0 : t0 = 0
      · have f3 : (A0 == 0) = true := by have := HAB.out; simp; omega
        have Z0 := Lib.hid z0
        clear z0
        go_wp2_with fail
        all_goals go_meet
        all_goals exact ⟨congrArg Value.bool (decide_eq_true (p := ((t0 = t1 ∧ p0 = p1) ∨ t0 = 0 ∨ t1 = 0 ∨ 47 < n0 ∨ 47 < n1)) (by have := E1.out; have := Z0.out; omega)).symm, HV41.out, HV51.out, HB1.out⟩
      · have f3 : (A0 == 0) = false := by have := HAB.out; simp; omega
        have Z0 := Lib.hid z0
        clear z0
        by_cases z1 : t1 = 0
        · have f4 : (A1 == 0) = true := by have := HAB.out; simp; omega
          have Z1 := Lib.hid z1
          clear z1
          go_wp2_with fail
          all_goals go_meet
          all_goals exact ⟨congrArg Value.bool (decide_eq_true (p := ((t0 = t1 ∧ p0 = p1) ∨ t0 = 0 ∨ t1 = 0 ∨ 47 < n0 ∨ 47 < n1)) (by have := E1.out; have := Z0.out; have := Z1.out; omega)).symm, HV41.out, HV51.out, HB1.out⟩
        · have f4 : (A1 == 0) = false := by have := HAB.out; simp; omega
          have Z1 := Lib.hid z1
          clear z1
          by_cases y0 : 47 < n0
          · have f5 : decide ((47 : Int) < (n0 : Int)) = true := by simp; omega
            have Y0 := Lib.hid y0
            clear y0
            go_wp2_with fail
            all_goals go_meet
            all_goals exact ⟨congrArg Value.bool (decide_eq_true (p := ((t0 = t1 ∧ p0 = p1) ∨ t0 = 0 ∨ t1 = 0 ∨ 47 < n0 ∨ 47 < n1)) (by have := E1.out; have := Z0.out; have := Z1.out; have := Y0.out; omega)).symm, HV41.out, HV51.out, HB1.out⟩
          · have f5 : decide ((47 : Int) < (n0 : Int)) = false := by simp; omega
            have Y0 := Lib.hid y0
            clear y0
            by_cases y1 : 47 < n1
            · have f6 : decide ((47 : Int) < (n1 : Int)) = true := by simp; omega
              have Y1 := Lib.hid y1
              clear y1
              go_wp2_with fail
              all_goals go_meet
              all_goals exact ⟨congrArg Value.bool (decide_eq_true (p := ((t0 = t1 ∧ p0 = p1) ∨ t0 = 0 ∨ t1 = 0 ∨ 47 < n0 ∨ 47 < n1)) (by have := E1.out; have := Z0.out; have := Z1.out; have := Y0.out; have := Y1.out; omega)).symm, HV41.out, HV51.out, HB1.out⟩
            · have f6 : decide ((47 : Int) < (n1 : Int)) = false := by simp; omega
              have Y1 := Lib.hid y1
              clear y1
              go_wp2_with fail
              all_goals go_meet
              all_goals exact ⟨congrArg Value.bool (decide_eq_false (p := ((t0 = t1 ∧ p0 = p1) ∨ t0 = 0 ∨ t1 = 0 ∨ 47 < n0 ∨ 47 < n1)) (by have := E1.out; have := Z0.out; have := Z1.out; have := Y0.out; have := Y1.out; omega)).symm, HV41.out, HV51.out, HB1.out⟩
  case rest =>
  obtain ⟨rfl, hv4, hv5, hb1⟩ := hcut
  have HV4 := Lib.hid hv4
  have HV5 := Lib.hid hv5
  have HB1 := Lib.hid hb1
  clear hv4 hv5 hb1
  by_cases hbad : ((t0 = t1 ∧ p0 = p1) ∨ t0 = 0 ∨ t1 = 0 ∨ 47 < n0 ∨ 47 < n1)
  · rw [decide_eq_true hbad]
    clear hbad
    go_wp2_with (go_at_call 5; refine (HLV.out _).mono ?_; rintro e w2 ⟨rfl, hb2⟩; have HB2 : Hid (Below w.heap.size w w2) := Lib.hid (HB1.out.trans (hb2.mono HB1.out.size)); clear hb2)
    go_ret
    exact ⟨rfl, HB2.out⟩
  · rw [decide_eq_false hbad]
    have HNE : Hid (¬ (t0 = t1 ∧ p0 = p1)) := Lib.hid fun h => hbad (.inl h)
    have HOK0 : Hid (Sec.Ok ⟨t0, p0, L0, D0⟩) := Lib.hid ⟨fun h => hbad (.inr (.inl h)), by have := HN0.out; simp only; omega, HI0.out⟩
    have HOK1 : Hid (Sec.Ok ⟨t1, p1, L1, D1⟩) := Lib.hid ⟨fun h => hbad (.inr (.inr (.inl h))), by have := HN1.out; simp only; omega, HI1.out⟩
    clear hbad
    go_upto_region 3 with fail
    refine wp_region_held_drew (S := fun W => W.heap[V4]? = some (.cells #[.int .u32 (t0 : Int), .int .u32 (p0 : Int), .bool L0, .slice a0 n0 c0] 27 (0, 0)) ∧ W.heap[V5]? = some (.cells #[.int .u32 (t1 : Int), .int .u32 (p1 : Int), .bool L1, .slice a1 n1 c1] 27 (0, 0)) ∧ Below w.heap.size w W) (by kernel_rfl) ⟨HV4.out, HV5.out, below_drew HB1.out⟩ (fun _ => ?_)
    refine anyH_take (i := 0) (some 48) (v := _) rfl rfl (by kernel_rfl) (by kernel_rfl) (by kernel_rfl) (fun _ _ _ h => h) (by rfl) (⟨HV4.out, HV5.out, below_drew HB1.out⟩) (by intro w hSw; obtain ⟨⟨q0, q1, q2, q3⟩, _⟩ := cells4 hSw.1; go_simp; try with_reducible rfl) ?_
    (try simp only [Act.put, List.setIfInBounds_toArray, List.set_cons_zero, List.set_cons_succ])
    refine anyH_take (i := 2) (some 50) (v := _) rfl rfl (by kernel_rfl) (by kernel_rfl) (by kernel_rfl) (fun _ _ _ h => h) (by rfl) (⟨HV4.out, HV5.out, below_drew HB1.out⟩) (by intro w hSw; obtain ⟨⟨q0, q1, q2, q3⟩, _⟩ := cells4 hSw.2.1; go_simp; try with_reducible rfl) ?_
    (try simp only [Act.put, List.setIfInBounds_toArray, List.set_cons_zero, List.set_cons_succ])
    refine wpAnyH_ready (rs := [1]) (by kernel_rfl) (by simp) (AllReadyH.cons rfl (fun K hK => ?_) AllReadyH.nil)
    go_simp
    refine (bytes_any HOK0.out (u := .slice a0 n0 c0) (lies_keep HU0.out (below_drew HB1.out))).mono ?_
    rintro e w2 ⟨rfl, hb2⟩
    have HB2 : Hid (Below w.heap.size w w2) := Lib.hid (((below_drew HB1.out)).trans (hb2.mono ((below_drew HB1.out)).size))
    have HV42 : Hid (w2.heap[V4]? = some (.cells #[.int .u32 (t0 : Int), .int .u32 (p0 : Int), .bool L0, .slice a0 n0 c0] 27 (0, 0))) := Lib.hid ((hb2.block V4 (lt_of_block (And.intro HV4.out HV5.out).1)).trans (And.intro HV4.out HV5.out).1)
    have HV52 : Hid (w2.heap[V5]? = some (.cells #[.int .u32 (t1 : Int), .int .u32 (p1 : Int), .bool L1, .slice a1 n1 c1] 27 (0, 0))) := Lib.hid ((hb2.block V5 (lt_of_block (And.intro HV4.out HV5.out).2)).trans (And.intro HV4.out HV5.out).2)
    clear hb2
    go_wp2_with fail
    refine hK.out _ _ ⟨HV42.out, HV52.out, HB2.out⟩ (fun _ => ?_)
    clear hK K
    (try simp only [Act.put, List.setIfInBounds_toArray, List.set_cons_zero, List.set_cons_succ])
    refine wpAnyH_ready (rs := [3]) (by kernel_rfl) (by simp) (AllReadyH.cons rfl (fun K hK => ?_) AllReadyH.nil)
    go_simp
    refine (bytes_any HOK1.out (u := .slice a1 n1 c1) (lies_keep HU1.out HB2.out)).mono ?_
    rintro e w3 ⟨rfl, hb3⟩
    have HB3 : Hid (Below w.heap.size w w3) := Lib.hid ((HB2.out).trans (hb3.mono (HB2.out).size))
    have HV43 : Hid (w3.heap[V4]? = some (.cells #[.int .u32 (t0 : Int), .int .u32 (p0 : Int), .bool L0, .slice a0 n0 c0] 27 (0, 0))) := Lib.hid ((hb3.block V4 (lt_of_block (And.intro HV42.out HV52.out).1)).trans (And.intro HV42.out HV52.out).1)
    have HV53 : Hid (w3.heap[V5]? = some (.cells #[.int .u32 (t1 : Int), .int .u32 (p1 : Int), .bool L1, .slice a1 n1 c1] 27 (0, 0))) := Lib.hid ((hb3.block V5 (lt_of_block (And.intro HV42.out HV52.out).2)).trans (And.intro HV42.out HV52.out).2)
    clear hb3
    go_wp2_with fail
    refine hK.out _ _ ⟨HV43.out, HV53.out, HB3.out⟩ (fun _ => ?_)
    clear hK K
    (try simp only [Act.put, List.setIfInBounds_toArray, List.set_cons_zero, List.set_cons_succ])
    refine anyH_take (i := 4) (some 9) (v := _) rfl rfl (by kernel_rfl) (by kernel_rfl) (by kernel_rfl) (fun _ _ _ h => h) (by rfl) (⟨HV43.out, HV53.out, HB3.out⟩) (by intro w hSw; go_simp; try with_reducible rfl) ?_
    (try simp only [Act.put, List.setIfInBounds_toArray, List.set_cons_zero, List.set_cons_succ])
    refine anyH_take (i := 5) (some 10) (v := _) rfl rfl (by kernel_rfl) (by kernel_rfl) (by kernel_rfl) (fun _ _ _ h => h) (by rfl) (⟨HV43.out, HV53.out, HB3.out⟩) (by intro w hSw; go_simp; try with_reducible rfl) ?_
    (try simp only [Act.put, List.setIfInBounds_toArray, List.set_cons_zero, List.set_cons_succ])
    refine wpAnyH_done (by kernel_rfl) ?_ _
    obtain ⟨YS, hYS⟩ : ∃ Y, Y = strOf (secB ⟨t0, p0, L0, D0⟩) := ⟨_, rfl⟩
    obtain ⟨XS, hXS⟩ : ∃ Y, Y = strOf (secB ⟨t1, p1, L1, D1⟩) := ⟨_, rfl⟩
    rw [← hYS, ← hXS]
    have hys : YS.size = 64 := by rw [hYS, strOf_size]; exact secB_length HOK0.out.2.1
    have hxs : XS.size = 64 := by rw [hXS, strOf_size]; exact secB_length HOK1.out.2.1
    have HXS := Lib.hid hXS
    have HYS := Lib.hid hYS
    obtain ⟨ZS, hZS⟩ : ∃ Y, Y = strOf (List.replicate 64 0) := ⟨_, rfl⟩
    have hzs : ZS.size = 64 := by rw [hZS, strOf_size]; simp
    have HZS := Lib.hid hZS
    clear hXS hYS hZS
    obtain ⟨kk, hkk⟩ : ∃ n : Nat, k % 65 = n := ⟨(k % 65).toNat, by omega⟩
    have hk64 : kk ≤ 64 := by omega
    have ek : (wrap64 k).tmod 65 = (kk : Int) := by have h : wrap64 k = k := (by unfold wrap64; omega); rw [h, Int.tmod_eq_emod_of_nonneg hk0]; exact hkk
    obtain ⟨m, hm⟩ : ∃ m : Int, q % 3 = m := ⟨_, rfl⟩
    obtain ⟨i0, hi0, hi1, hi2, hi3⟩ := info_parts infoU8
    have HI : Hid (Try.prog.info? 5 = some i0 ∧ i0.zero = some (.int .u8 0) ∧ i0.size = 1 ∧ i0.bytes * 64 ≤ 281474976710656) := Lib.hid ⟨hi0, hi1, hi2, by rw [hi3]; omega⟩
    clear hi0 hi1 hi2 hi3
    rcases (show m = 0 ∨ m = 1 ∨ m = 2 by omega) with rfl | rfl | rfl
    · go_upto_region 9 with fail
      obtain ⟨W4, hW4⟩ : ∃ W, W = w3 := ⟨_, rfl⟩
      have HB4 : Hid (Below w3.heap.size w3 W4) := Lib.hid (hW4 ▸ Below.refl _ _)
      rw [← hW4]
      clear hW4
      try rw [hkk]
      clear hkk ek
      obtain ⟨XL, hXL⟩ : ∃ Z, Z = secB ⟨t1, p1, L1, D1⟩ := ⟨_, rfl⟩
      obtain ⟨YL, hYL⟩ : ∃ Z, Z = secB ⟨t0, p0, L0, D0⟩ := ⟨_, rfl⟩
      have hX : XS = strOf XL := by rw [hXL]; exact HXS.out
      have hY : YS = strOf YL := by rw [hYL]; exact HYS.out
      obtain ⟨ZL, hZL⟩ : ∃ Z, Z = XL.take kk ++ YL.drop kk := ⟨_, rfl⟩
      have hX64 : XL.length = 64 := by rw [← strOf_size, ← hX]; exact hxs
      have hY64 : YL.length = 64 := by rw [← strOf_size, ← hY]; exact hys
      have hZ64 : ZL.length = 64 := by rw [hZL]; exact torn_length hX64 hY64 hk64
      have hXb : ∀ x ∈ XL, x < 256 := by rw [hXL]; exact secB_small HOK1.out
      have hYb : ∀ x ∈ YL, x < 256 := by rw [hYL]; exact secB_small HOK0.out
      have hZb : ∀ x ∈ ZL, x < 256 := by rw [hZL]; intro x hx; rcases List.mem_append.1 hx with h | h; exact hXb x (List.mem_of_mem_take h); exact hYb x (List.mem_of_mem_drop h)
      obtain ⟨R1, hR1⟩ : ∃ R, R = XS.extract 0 kk := ⟨_, rfl⟩
      obtain ⟨R2, hR2⟩ : ∃ R, R = YS.extract kk YS.size := ⟨_, rfl⟩
      obtain ⟨R, hR⟩ : ∃ R, R = R1 ++ R2 := ⟨_, rfl⟩
      have hRZ : R = strOf ZL := by rw [hR, hR1, hR2, hZL, strOf_append, hys, hX, hY, strOf_extract, strOf_extract, List.drop_zero, Nat.sub_zero, List.take_of_length_le (l := YL.drop kk) (by rw [List.length_drop]; omega)]
      have hRs : R.size = 64 := by rw [hRZ, strOf_size]; exact hZ64
      have HR1 := Lib.hid hR1
      have HR2 := Lib.hid hR2
      have HR := Lib.hid hR
      have HRZ := Lib.hid hRZ
      have HXL := Lib.hid hXL
      have HYL := Lib.hid hYL
      have HZL := Lib.hid hZL
      have HZb := Lib.hid hZb
      have HXb := Lib.hid hXb
      have HYb := Lib.hid hYb
      have HL3 := Lib.hid (And.intro hX64 (And.intro hY64 hZ64))
      clear hR1 hR2 hR hRZ hXL hYL hZL hZb hXb hYb hX hY hX64 hY64 hZ64
      have HBw4 : Hid (Below w.heap.size w W4) := Lib.hid (HB3.out.trans (HB4.out.mono HB3.out.size))
      have HV44 : Hid (W4.heap[V4]? = some (.cells #[.int .u32 (t0 : Int), .int .u32 (p0 : Int), .bool L0, .slice a0 n0 c0] 27 (0, 0))) := Lib.hid ((HB4.out.block V4 (lt_of_block HV43.out)).trans HV43.out)
      have HV54 : Hid (W4.heap[V5]? = some (.cells #[.int .u32 (t1 : Int), .int .u32 (p1 : Int), .bool L1, .slice a1 n1 c1] 27 (0, 0))) := Lib.hid ((HB4.out.block V5 (lt_of_block HV53.out)).trans HV53.out)
      obtain ⟨SU, hSU⟩ : ∃ s, s = stOf ZL := ⟨_, rfl⟩
      obtain ⟨eu, hEU⟩ : ∃ s, s = unpackE ZL := ⟨_, rfl⟩
      obtain ⟨st, sp, sl, sd⟩ := SU
      have HSU := Lib.hid hSU
      have HEU := Lib.hid hEU
      clear hSU hEU
      go_cut [12, 13] (fun s12 s13 W => ∃ (V : Nat) (u : Value), s12 = .pointer (some ⟨V, 0, none⟩) ∧ s13 = .int .i64 eu ∧ W.heap[V]? = some (.cells #[.int .u32 (st : Int), .int .u32 (sp : Int), .bool sl, u] 27 (0, 0)) ∧ Lies W u sd ∧ W.heap[V4]? = some (.cells #[.int .u32 (t0 : Int), .int .u32 (p0 : Int), .bool L0, .slice a0 n0 c0] 27 (0, 0)) ∧ W.heap[V5]? = some (.cells #[.int .u32 (t1 : Int), .int .u32 (p1 : Int), .bool L1, .slice a1 n1 c1] 27 (0, 0)) ∧ Below w.heap.size w W)
      case first =>
        refine wp_region_held_drew (S := fun W => W.heap[V4]? = some (.cells #[.int .u32 (t0 : Int), .int .u32 (p0 : Int), .bool L0, .slice a0 n0 c0] 27 (0, 0)) ∧ W.heap[V5]? = some (.cells #[.int .u32 (t1 : Int), .int .u32 (p1 : Int), .bool L1, .slice a1 n1 c1] 27 (0, 0)) ∧ Below w.heap.size w W) (by kernel_rfl) ⟨HV44.out, HV54.out, below_drew HBw4.out⟩ (fun _ => ?_)
        refine anyH_take (i := 0) (some 66) (v := _) rfl rfl (by kernel_rfl) (by kernel_rfl) (by kernel_rfl) (fun _ _ _ h => h) (by rfl) (⟨HV44.out, HV54.out, below_drew HBw4.out⟩) (by intro w hSw; go_simp; try with_reducible rfl) ?_
        (try simp only [Act.put, List.setIfInBounds_toArray, List.set_cons_zero, List.set_cons_succ])
        refine anyH_take (i := 1) (some 67) (v := _) rfl rfl (by kernel_rfl) (by kernel_rfl) (by kernel_rfl) (fun _ _ _ h => h) (by rfl) (⟨HV44.out, HV54.out, below_drew HBw4.out⟩) (by intro w hSw; go_simp; try with_reducible rfl) ?_
        (try simp only [Act.put, List.setIfInBounds_toArray, List.set_cons_zero, List.set_cons_succ])
        refine anyH_take (i := 2) (some 68) (v := _) rfl rfl (by kernel_rfl) (by kernel_rfl) (by kernel_rfl) (fun _ _ _ h => h) (by rfl) (⟨HV44.out, HV54.out, below_drew HBw4.out⟩) (fun W _ => run_text_hi W (.tmp 66) (.tmp 67) rfl XS R1 kk rfl rfl (by omega) HR1.out.symm) ?_
        (try simp only [Act.put, List.setIfInBounds_toArray, List.set_cons_zero, List.set_cons_succ])
        refine anyH_take (i := 3) (some 69) (v := _) rfl rfl (by kernel_rfl) (by kernel_rfl) (by kernel_rfl) (fun _ _ _ h => h) (by rfl) (⟨HV44.out, HV54.out, below_drew HBw4.out⟩) (by intro w hSw; go_simp; try with_reducible rfl) ?_
        (try simp only [Act.put, List.setIfInBounds_toArray, List.set_cons_zero, List.set_cons_succ])
        refine anyH_take (i := 4) (some 70) (v := _) rfl rfl (by kernel_rfl) (by kernel_rfl) (by kernel_rfl) (fun _ _ _ h => h) (by rfl) (⟨HV44.out, HV54.out, below_drew HBw4.out⟩) (by intro w hSw; go_simp; try with_reducible rfl) ?_
        (try simp only [Act.put, List.setIfInBounds_toArray, List.set_cons_zero, List.set_cons_succ])
        refine anyH_take (i := 5) (some 71) (v := _) rfl rfl (by kernel_rfl) (by kernel_rfl) (by kernel_rfl) (fun _ _ _ h => h) (by rfl) (⟨HV44.out, HV54.out, below_drew HBw4.out⟩) (fun W _ => run_text_lo W (.tmp 69) (.tmp 70) rfl YS R2 kk rfl rfl (by omega) HR2.out.symm) ?_
        (try simp only [Act.put, List.setIfInBounds_toArray, List.set_cons_zero, List.set_cons_succ])
        refine anyH_take (i := 6) (some 72) (v := _) rfl rfl (by kernel_rfl) (by kernel_rfl) (by kernel_rfl) (fun _ _ _ h => h) (by rfl) (⟨HV44.out, HV54.out, below_drew HBw4.out⟩) (fun W _ => run_cat_op W (.tmp 68) (.tmp 71) rfl R1 R2 R rfl rfl HR.out.symm (by omega)) ?_
        (try simp only [Act.put, List.setIfInBounds_toArray, List.set_cons_zero, List.set_cons_succ])
        refine wpAnyH_ready (rs := [7, 12]) (by kernel_rfl) (by simp) (AllReadyH.cons rfl (fun K hK => ?_) (AllReadyH.cons rfl (fun K hK => ?_) AllReadyH.nil))
        · obtain ⟨W5, bz, cz, hr5, _, hb5, hz5⟩ := text_bytes W4.drew R
          have HZL5 : Hid (Lies W5 (.slice (some ⟨bz, 0, none⟩) 64 cz) ZL) := Lib.hid (.inr (.inr ⟨bz, 0, cz, by rw [HL3.out.2.2], by have h := hz5; rw [HRZ.out, ords_strOf HZb.out] at h; exact h⟩))
          rw [hRs] at hr5
          refine step_runs (some 73) rfl rfl (run_text_op (.tmp 72) rfl rfl hr5) ?_
          clear hr5 hz5
          have HBw5 : Hid (Below w.heap.size w W5) := Lib.hid ((below_drew HBw4.out).trans (hb5.mono (below_drew HBw4.out).size))
          have HV45 : Hid (W5.heap[V4]? = some (.cells #[.int .u32 (t0 : Int), .int .u32 (p0 : Int), .bool L0, .slice a0 n0 c0] 27 (0, 0))) := Lib.hid ((hb5.block V4 (lt_of_block HV44.out)).trans HV44.out)
          have HV55 : Hid (W5.heap[V5]? = some (.cells #[.int .u32 (t1 : Int), .int .u32 (p1 : Int), .bool L1, .slice a1 n1 c1] 27 (0, 0))) := Lib.hid ((hb5.block V5 (lt_of_block HV54.out)).trans HV54.out)
          clear hb5
          refine hK.out _ _ (⟨HV45.out, HV55.out, HBw5.out⟩) (fun _ => ?_)
          clear hK K
          (try simp only [Act.put, List.setIfInBounds_toArray, List.set_cons_zero, List.set_cons_succ])
          refine wpAnyH_ready (rs := [8, 12]) (by kernel_rfl) (by simp) (AllReadyH.cons rfl (fun K hK => ?_) (AllReadyH.cons rfl (fun K hK => ?_) AllReadyH.nil))
          · go_simp
            have hun := unpack_any HZL5.out HZb.out
            unfold Unpacked at hun
            rw [← HSU.out, ← HEU.out] at hun
            refine hun.mono ?_
            clear hun
            rintro e W6 ⟨ur, rfl, hl6, _, hb6⟩
            have HUR6 := Lib.hid hl6.lies
            clear hl6
            have HBw6 : Hid (Below w.heap.size w W6) := Lib.hid (HBw5.out.trans (hb6.mono HBw5.out.size))
            have HV46 : Hid (W6.heap[V4]? = some (.cells #[.int .u32 (t0 : Int), .int .u32 (p0 : Int), .bool L0, .slice a0 n0 c0] 27 (0, 0))) := Lib.hid ((hb6.block V4 (lt_of_block HV45.out)).trans HV45.out)
            have HV56 : Hid (W6.heap[V5]? = some (.cells #[.int .u32 (t1 : Int), .int .u32 (p1 : Int), .bool L1, .slice a1 n1 c1] 27 (0, 0))) := Lib.hid ((hb6.block V5 (lt_of_block HV55.out)).trans HV55.out)
            have HZL6 : Hid (Lies W6 (.slice (some ⟨bz, 0, none⟩) 64 cz) ZL) := Lib.hid (lies_keep HZL5.out hb6)
            clear hb6
            unfold secV
            go_wp2_with fail
            refine hK.out _ _ (⟨HV46.out, HV56.out, HBw6.out⟩) (fun _ => ?_)
            clear hK K
            (try simp only [Act.put, List.setIfInBounds_toArray, List.set_cons_zero, List.set_cons_succ])
            refine anyH_take (i := 9) (some 65) (v := _) rfl rfl (by kernel_rfl) (by kernel_rfl) (by kernel_rfl) (fun _ _ _ h => h) (by rfl) (⟨HV46.out, HV56.out, HBw6.out⟩) (by intro w hSw; go_simp; try with_reducible rfl) ?_
            (try simp only [Act.put, List.setIfInBounds_toArray, List.set_cons_zero, List.set_cons_succ])
            refine anyH_take (i := 10) (some 75) (v := _) rfl rfl (by kernel_rfl) (by kernel_rfl) (by kernel_rfl) (fun _ _ _ h => h) (by rfl) (⟨HV46.out, HV56.out, HBw6.out⟩) (by intro w hSw; go_simp; try with_reducible rfl) ?_
            (try simp only [Act.put, List.setIfInBounds_toArray, List.set_cons_zero, List.set_cons_succ])
            refine anyH_take (i := 11) (some 76) (v := _) rfl rfl (by kernel_rfl) (by kernel_rfl) (by kernel_rfl) (fun _ _ _ h => h) (by rfl) (⟨HV46.out, HV56.out, HBw6.out⟩) (by intro w hSw; go_simp; try with_reducible rfl) ?_
            (try simp only [Act.put, List.setIfInBounds_toArray, List.set_cons_zero, List.set_cons_succ])
            refine wpAnyH_ready (rs := [12]) (by kernel_rfl) (by simp) (AllReadyH.cons rfl (fun K hK => ?_) AllReadyH.nil)
            refine step_runs (some 12) rfl rfl (run_alloc_op _ 27 rfl [.int .u32 0, .int .u32 0, .bool false, .slice none 0 0] (by kernel_rfl)) ?_
            obtain ⟨W7, hW7⟩ : ∃ W, W = W6.alloc (.cells #[.int .u32 0, .int .u32 0, .bool false, .slice none 0 0] 27) := ⟨_, rfl⟩
            obtain ⟨V, hV⟩ : ∃ V, V = W6.heap.size := ⟨_, rfl⟩
            have HVC7 : Hid (W7.heap[V]? = some (.cells #[.int .u32 0, .int .u32 0, .bool false, .slice none 0 0] 27 (0, 0))) := Lib.hid (by rw [hW7, hV]; exact heap_alloc_new _ _)
            have hb7 : Below W6.heap.size W6 W7 := by rw [hW7]; exact (Below.refl _ _).alloc (Nat.le_refl _) _
            have HVG : Hid (w.heap.size ≤ V) := Lib.hid (by rw [hV]; exact (HBw6.out).size)
            have HVN : Hid (V4 < V ∧ V5 < V) := Lib.hid (by rw [hV]; exact ⟨lt_of_block HV46.out, lt_of_block HV56.out⟩)
            rw [← hV]
            show K _ (W6.alloc (.cells #[.int .u32 0, .int .u32 0, .bool false, .slice none 0 0] 27))
            rw [← hW7]
            clear hV hW7
            have HBw7 : Hid (Below w.heap.size w W7) := Lib.hid (HBw6.out.trans (hb7.mono HBw6.out.size))
            have HV47 : Hid (W7.heap[V4]? = some (.cells #[.int .u32 (t0 : Int), .int .u32 (p0 : Int), .bool L0, .slice a0 n0 c0] 27 (0, 0))) := Lib.hid ((hb7.block V4 (lt_of_block HV46.out)).trans HV46.out)
            have HV57 : Hid (W7.heap[V5]? = some (.cells #[.int .u32 (t1 : Int), .int .u32 (p1 : Int), .bool L1, .slice a1 n1 c1] 27 (0, 0))) := Lib.hid ((hb7.block V5 (lt_of_block HV56.out)).trans HV56.out)
            have HZL7 : Hid (Lies W7 (.slice (some ⟨bz, 0, none⟩) 64 cz) ZL) := Lib.hid (lies_keep HZL6.out hb7)
            have HUR7 : Hid (Lies W7 ur sd) := Lib.hid (lies_keep HUR6.out hb7)
            clear hb7
            refine hK.out _ _ (⟨HV47.out, HV57.out, HBw7.out⟩) (fun _ => ?_)
            clear hK K
            (try simp only [Act.put, List.setIfInBounds_toArray, List.set_cons_zero, List.set_cons_succ])
            refine wpAnyH_ready (rs := [13]) (by kernel_rfl) (by simp) (AllReadyH.cons rfl (fun K hK => ?_) AllReadyH.nil)
            refine step_store_part rfl 27 (.tmp 12) (.tmp 75) rfl V 0 [.int .u32 (st : Int), .int .u32 (sp : Int), .bool sl, ur] rfl rfl 27 [.int .u32 0, .int .u32 0, .bool false, .slice none 0 0] HVC7.out (by kernel_rfl) (by simp) (sec_one (lies_one HUR7.out)) rfl ?_
            obtain ⟨W9, hW9⟩ : ∃ W, W = W7.setRow V (splice [.int .u32 0, .int .u32 0, .bool false, .slice none 0 0] 0 [.int .u32 (st : Int), .int .u32 (sp : Int), .bool sl, ur]).toArray := ⟨_, rfl⟩
            show K _ (W7.setRow V (splice [.int .u32 0, .int .u32 0, .bool false, .slice none 0 0] 0 [.int .u32 (st : Int), .int .u32 (sp : Int), .bool sl, ur]).toArray)
            rw [← hW9]
            have HO9 : Hid (Only (fun b => b = V) W7 W9) := Lib.hid (by rw [hW9]; exact only_stRow _ _)
            have HVC9 : Hid (W9.heap[V]? = some (.cells #[.int .u32 (st : Int), .int .u32 (sp : Int), .bool sl, ur] 27 (0, 0))) := Lib.hid (by rw [hW9]; exact setRow_heap _ _ _ _ _ _ HVC7.out)
            clear hW9
            have HV49 : Hid (W9.heap[V4]? = some (.cells #[.int .u32 (t0 : Int), .int .u32 (p0 : Int), .bool L0, .slice a0 n0 c0] 27 (0, 0))) := Lib.hid ((HO9.out.block V4 (lt_of_block HV47.out) (by have := HVN.out; omega)).trans HV47.out)
            have HV59 : Hid (W9.heap[V5]? = some (.cells #[.int .u32 (t1 : Int), .int .u32 (p1 : Int), .bool L1, .slice a1 n1 c1] 27 (0, 0))) := Lib.hid ((HO9.out.block V5 (lt_of_block HV57.out) (by have := HVN.out; omega)).trans HV57.out)
            have HBw9 : Hid (Below w.heap.size w W9) := Lib.hid (HBw7.out.trans (HO9.out.below HBw7.out.size (fun b hb => hb ▸ HVG.out)))
            have HUR9 : Hid (Lies W9 ur sd) := Lib.hid (lies_only HUR7.out HO9.out (fun b off j x hb => no_bytes HVC7.out no_sec b off j x hb))
            refine hK.out _ _ (⟨HV49.out, HV59.out, HBw9.out⟩) (fun _ => ?_)
            clear hK K
            (try simp only [Act.put, List.setIfInBounds_toArray, List.set_cons_zero, List.set_cons_succ])
            refine anyH_take (i := 14) (some 13) (v := _) rfl rfl (by kernel_rfl) (by kernel_rfl) (by kernel_rfl) (fun _ _ _ h => h) (by rfl) (⟨HV49.out, HV59.out, HBw9.out⟩) (by intro w hSw; go_simp; try with_reducible rfl) ?_
            (try simp only [Act.put, List.setIfInBounds_toArray, List.set_cons_zero, List.set_cons_succ])
            refine wpAnyH_done (by kernel_rfl) ?_ _
            go_wp2_with fail
            go_meet
            exact ⟨V, ur, rfl, rfl, HVC9.out, HUR9.out, HV49.out, HV59.out, HBw9.out⟩
          · refine step_runs (some 12) rfl rfl (run_alloc_op _ 27 rfl [.int .u32 0, .int .u32 0, .bool false, .slice none 0 0] (by kernel_rfl)) ?_
            obtain ⟨W6, hW6⟩ : ∃ W, W = W5.alloc (.cells #[.int .u32 0, .int .u32 0, .bool false, .slice none 0 0] 27) := ⟨_, rfl⟩
            obtain ⟨V, hV⟩ : ∃ V, V = W5.heap.size := ⟨_, rfl⟩
            have HVC6 : Hid (W6.heap[V]? = some (.cells #[.int .u32 0, .int .u32 0, .bool false, .slice none 0 0] 27 (0, 0))) := Lib.hid (by rw [hW6, hV]; exact heap_alloc_new _ _)
            have hb6 : Below W5.heap.size W5 W6 := by rw [hW6]; exact (Below.refl _ _).alloc (Nat.le_refl _) _
            have HVG : Hid (w.heap.size ≤ V) := Lib.hid (by rw [hV]; exact (HBw5.out).size)
            have HVN : Hid (V4 < V ∧ V5 < V) := Lib.hid (by rw [hV]; exact ⟨lt_of_block HV45.out, lt_of_block HV55.out⟩)
            rw [← hV]
            show K _ (W5.alloc (.cells #[.int .u32 0, .int .u32 0, .bool false, .slice none 0 0] 27))
            rw [← hW6]
            clear hV hW6
            have HBw6 : Hid (Below w.heap.size w W6) := Lib.hid (HBw5.out.trans (hb6.mono HBw5.out.size))
            have HV46 : Hid (W6.heap[V4]? = some (.cells #[.int .u32 (t0 : Int), .int .u32 (p0 : Int), .bool L0, .slice a0 n0 c0] 27 (0, 0))) := Lib.hid ((hb6.block V4 (lt_of_block HV45.out)).trans HV45.out)
            have HV56 : Hid (W6.heap[V5]? = some (.cells #[.int .u32 (t1 : Int), .int .u32 (p1 : Int), .bool L1, .slice a1 n1 c1] 27 (0, 0))) := Lib.hid ((hb6.block V5 (lt_of_block HV55.out)).trans HV55.out)
            have HZL6 : Hid (Lies W6 (.slice (some ⟨bz, 0, none⟩) 64 cz) ZL) := Lib.hid (lies_keep HZL5.out hb6)
            clear hb6
            refine hK.out _ _ (⟨HV46.out, HV56.out, HBw6.out⟩) (fun _ => ?_)
            clear hK K
            (try simp only [Act.put, List.setIfInBounds_toArray, List.set_cons_zero, List.set_cons_succ])
            refine wpAnyH_ready (rs := [8]) (by kernel_rfl) (by simp) (AllReadyH.cons rfl (fun K hK => ?_) AllReadyH.nil)
            go_simp
            have hun := unpack_any HZL6.out HZb.out
            unfold Unpacked at hun
            rw [← HSU.out, ← HEU.out] at hun
            refine hun.mono ?_
            clear hun
            rintro e W7 ⟨ur, rfl, hl7, _, hb7⟩
            have HUR7 := Lib.hid hl7.lies
            clear hl7
            have HBw7 : Hid (Below w.heap.size w W7) := Lib.hid (HBw6.out.trans (hb7.mono HBw6.out.size))
            have HV47 : Hid (W7.heap[V4]? = some (.cells #[.int .u32 (t0 : Int), .int .u32 (p0 : Int), .bool L0, .slice a0 n0 c0] 27 (0, 0))) := Lib.hid ((hb7.block V4 (lt_of_block HV46.out)).trans HV46.out)
            have HV57 : Hid (W7.heap[V5]? = some (.cells #[.int .u32 (t1 : Int), .int .u32 (p1 : Int), .bool L1, .slice a1 n1 c1] 27 (0, 0))) := Lib.hid ((hb7.block V5 (lt_of_block HV56.out)).trans HV56.out)
            have HZL7 : Hid (Lies W7 (.slice (some ⟨bz, 0, none⟩) 64 cz) ZL) := Lib.hid (lies_keep HZL6.out hb7)
            have HVC7 : Hid (W7.heap[V]? = some (.cells #[.int .u32 0, .int .u32 0, .bool false, .slice none 0 0] 27 (0, 0))) := Lib.hid ((hb7.block V (lt_of_block HVC6.out)).trans HVC6.out)
            clear hb7
            unfold secV
            go_wp2_with fail
            refine hK.out _ _ (⟨HV47.out, HV57.out, HBw7.out⟩) (fun _ => ?_)
            clear hK K
            (try simp only [Act.put, List.setIfInBounds_toArray, List.set_cons_zero, List.set_cons_succ])
            refine anyH_take (i := 9) (some 65) (v := _) rfl rfl (by kernel_rfl) (by kernel_rfl) (by kernel_rfl) (fun _ _ _ h => h) (by rfl) (⟨HV47.out, HV57.out, HBw7.out⟩) (by intro w hSw; go_simp; try with_reducible rfl) ?_
            (try simp only [Act.put, List.setIfInBounds_toArray, List.set_cons_zero, List.set_cons_succ])
            refine anyH_take (i := 10) (some 75) (v := _) rfl rfl (by kernel_rfl) (by kernel_rfl) (by kernel_rfl) (fun _ _ _ h => h) (by rfl) (⟨HV47.out, HV57.out, HBw7.out⟩) (by intro w hSw; go_simp; try with_reducible rfl) ?_
            (try simp only [Act.put, List.setIfInBounds_toArray, List.set_cons_zero, List.set_cons_succ])
            refine anyH_take (i := 11) (some 76) (v := _) rfl rfl (by kernel_rfl) (by kernel_rfl) (by kernel_rfl) (fun _ _ _ h => h) (by rfl) (⟨HV47.out, HV57.out, HBw7.out⟩) (by intro w hSw; go_simp; try with_reducible rfl) ?_
            (try simp only [Act.put, List.setIfInBounds_toArray, List.set_cons_zero, List.set_cons_succ])
            refine wpAnyH_ready (rs := [13]) (by kernel_rfl) (by simp) (AllReadyH.cons rfl (fun K hK => ?_) AllReadyH.nil)
            refine step_store_part rfl 27 (.tmp 12) (.tmp 75) rfl V 0 [.int .u32 (st : Int), .int .u32 (sp : Int), .bool sl, ur] rfl rfl 27 [.int .u32 0, .int .u32 0, .bool false, .slice none 0 0] HVC7.out (by kernel_rfl) (by simp) (sec_one (lies_one HUR7.out)) rfl ?_
            obtain ⟨W9, hW9⟩ : ∃ W, W = W7.setRow V (splice [.int .u32 0, .int .u32 0, .bool false, .slice none 0 0] 0 [.int .u32 (st : Int), .int .u32 (sp : Int), .bool sl, ur]).toArray := ⟨_, rfl⟩
            show K _ (W7.setRow V (splice [.int .u32 0, .int .u32 0, .bool false, .slice none 0 0] 0 [.int .u32 (st : Int), .int .u32 (sp : Int), .bool sl, ur]).toArray)
            rw [← hW9]
            have HO9 : Hid (Only (fun b => b = V) W7 W9) := Lib.hid (by rw [hW9]; exact only_stRow _ _)
            have HVC9 : Hid (W9.heap[V]? = some (.cells #[.int .u32 (st : Int), .int .u32 (sp : Int), .bool sl, ur] 27 (0, 0))) := Lib.hid (by rw [hW9]; exact setRow_heap _ _ _ _ _ _ HVC7.out)
            clear hW9
            have HV49 : Hid (W9.heap[V4]? = some (.cells #[.int .u32 (t0 : Int), .int .u32 (p0 : Int), .bool L0, .slice a0 n0 c0] 27 (0, 0))) := Lib.hid ((HO9.out.block V4 (lt_of_block HV47.out) (by have := HVN.out; omega)).trans HV47.out)
            have HV59 : Hid (W9.heap[V5]? = some (.cells #[.int .u32 (t1 : Int), .int .u32 (p1 : Int), .bool L1, .slice a1 n1 c1] 27 (0, 0))) := Lib.hid ((HO9.out.block V5 (lt_of_block HV57.out) (by have := HVN.out; omega)).trans HV57.out)
            have HBw9 : Hid (Below w.heap.size w W9) := Lib.hid (HBw7.out.trans (HO9.out.below HBw7.out.size (fun b hb => hb ▸ HVG.out)))
            have HUR9 : Hid (Lies W9 ur sd) := Lib.hid (lies_only HUR7.out HO9.out (fun b off j x hb => no_bytes HVC7.out no_sec b off j x hb))
            refine hK.out _ _ (⟨HV49.out, HV59.out, HBw9.out⟩) (fun _ => ?_)
            clear hK K
            (try simp only [Act.put, List.setIfInBounds_toArray, List.set_cons_zero, List.set_cons_succ])
            refine anyH_take (i := 14) (some 13) (v := _) rfl rfl (by kernel_rfl) (by kernel_rfl) (by kernel_rfl) (fun _ _ _ h => h) (by rfl) (⟨HV49.out, HV59.out, HBw9.out⟩) (by intro w hSw; go_simp; try with_reducible rfl) ?_
            (try simp only [Act.put, List.setIfInBounds_toArray, List.set_cons_zero, List.set_cons_succ])
            refine wpAnyH_done (by kernel_rfl) ?_ _
            go_wp2_with fail
            go_meet
            exact ⟨V, ur, rfl, rfl, HVC9.out, HUR9.out, HV49.out, HV59.out, HBw9.out⟩
        · refine step_runs (some 12) rfl rfl (run_alloc_op _ 27 rfl [.int .u32 0, .int .u32 0, .bool false, .slice none 0 0] (by kernel_rfl)) ?_
          obtain ⟨W5, hW5⟩ : ∃ W, W = W4.drew.alloc (.cells #[.int .u32 0, .int .u32 0, .bool false, .slice none 0 0] 27) := ⟨_, rfl⟩
          obtain ⟨V, hV⟩ : ∃ V, V = W4.drew.heap.size := ⟨_, rfl⟩
          have HVC5 : Hid (W5.heap[V]? = some (.cells #[.int .u32 0, .int .u32 0, .bool false, .slice none 0 0] 27 (0, 0))) := Lib.hid (by rw [hW5, hV]; exact heap_alloc_new _ _)
          have hb5 : Below W4.drew.heap.size W4.drew W5 := by rw [hW5]; exact (Below.refl _ _).alloc (Nat.le_refl _) _
          have HVG : Hid (w.heap.size ≤ V) := Lib.hid (by rw [hV]; exact ((below_drew HBw4.out)).size)
          have HVN : Hid (V4 < V ∧ V5 < V) := Lib.hid (by rw [hV]; exact ⟨lt_of_block HV44.out, lt_of_block HV54.out⟩)
          rw [← hV]
          show K _ (W4.drew.alloc (.cells #[.int .u32 0, .int .u32 0, .bool false, .slice none 0 0] 27))
          rw [← hW5]
          clear hV hW5
          have HBw5 : Hid (Below w.heap.size w W5) := Lib.hid ((below_drew HBw4.out).trans (hb5.mono (below_drew HBw4.out).size))
          have HV45 : Hid (W5.heap[V4]? = some (.cells #[.int .u32 (t0 : Int), .int .u32 (p0 : Int), .bool L0, .slice a0 n0 c0] 27 (0, 0))) := Lib.hid ((hb5.block V4 (lt_of_block HV44.out)).trans HV44.out)
          have HV55 : Hid (W5.heap[V5]? = some (.cells #[.int .u32 (t1 : Int), .int .u32 (p1 : Int), .bool L1, .slice a1 n1 c1] 27 (0, 0))) := Lib.hid ((hb5.block V5 (lt_of_block HV54.out)).trans HV54.out)
          clear hb5
          refine hK.out _ _ (⟨HV45.out, HV55.out, HBw5.out⟩) (fun _ => ?_)
          clear hK K
          (try simp only [Act.put, List.setIfInBounds_toArray, List.set_cons_zero, List.set_cons_succ])
          refine wpAnyH_ready (rs := [7]) (by kernel_rfl) (by simp) (AllReadyH.cons rfl (fun K hK => ?_) AllReadyH.nil)
          obtain ⟨W6, bz, cz, hr6, _, hb6, hz6⟩ := text_bytes W5 R
          have HZL6 : Hid (Lies W6 (.slice (some ⟨bz, 0, none⟩) 64 cz) ZL) := Lib.hid (.inr (.inr ⟨bz, 0, cz, by rw [HL3.out.2.2], by have h := hz6; rw [HRZ.out, ords_strOf HZb.out] at h; exact h⟩))
          rw [hRs] at hr6
          refine step_runs (some 73) rfl rfl (run_text_op (.tmp 72) rfl rfl hr6) ?_
          clear hr6 hz6
          have HBw6 : Hid (Below w.heap.size w W6) := Lib.hid (HBw5.out.trans (hb6.mono HBw5.out.size))
          have HV46 : Hid (W6.heap[V4]? = some (.cells #[.int .u32 (t0 : Int), .int .u32 (p0 : Int), .bool L0, .slice a0 n0 c0] 27 (0, 0))) := Lib.hid ((hb6.block V4 (lt_of_block HV45.out)).trans HV45.out)
          have HV56 : Hid (W6.heap[V5]? = some (.cells #[.int .u32 (t1 : Int), .int .u32 (p1 : Int), .bool L1, .slice a1 n1 c1] 27 (0, 0))) := Lib.hid ((hb6.block V5 (lt_of_block HV55.out)).trans HV55.out)
          have HVC6 : Hid (W6.heap[V]? = some (.cells #[.int .u32 0, .int .u32 0, .bool false, .slice none 0 0] 27 (0, 0))) := Lib.hid ((hb6.block V (lt_of_block HVC5.out)).trans HVC5.out)
          clear hb6
          refine hK.out _ _ (⟨HV46.out, HV56.out, HBw6.out⟩) (fun _ => ?_)
          clear hK K
          (try simp only [Act.put, List.setIfInBounds_toArray, List.set_cons_zero, List.set_cons_succ])
          refine wpAnyH_ready (rs := [8]) (by kernel_rfl) (by simp) (AllReadyH.cons rfl (fun K hK => ?_) AllReadyH.nil)
          go_simp
          have hun := unpack_any HZL6.out HZb.out
          unfold Unpacked at hun
          rw [← HSU.out, ← HEU.out] at hun
          refine hun.mono ?_
          clear hun
          rintro e W7 ⟨ur, rfl, hl7, _, hb7⟩
          have HUR7 := Lib.hid hl7.lies
          clear hl7
          have HBw7 : Hid (Below w.heap.size w W7) := Lib.hid (HBw6.out.trans (hb7.mono HBw6.out.size))
          have HV47 : Hid (W7.heap[V4]? = some (.cells #[.int .u32 (t0 : Int), .int .u32 (p0 : Int), .bool L0, .slice a0 n0 c0] 27 (0, 0))) := Lib.hid ((hb7.block V4 (lt_of_block HV46.out)).trans HV46.out)
          have HV57 : Hid (W7.heap[V5]? = some (.cells #[.int .u32 (t1 : Int), .int .u32 (p1 : Int), .bool L1, .slice a1 n1 c1] 27 (0, 0))) := Lib.hid ((hb7.block V5 (lt_of_block HV56.out)).trans HV56.out)
          have HVC7 : Hid (W7.heap[V]? = some (.cells #[.int .u32 0, .int .u32 0, .bool false, .slice none 0 0] 27 (0, 0))) := Lib.hid ((hb7.block V (lt_of_block HVC6.out)).trans HVC6.out)
          have HZL7 : Hid (Lies W7 (.slice (some ⟨bz, 0, none⟩) 64 cz) ZL) := Lib.hid (lies_keep HZL6.out hb7)
          clear hb7
          unfold secV
          go_wp2_with fail
          refine hK.out _ _ (⟨HV47.out, HV57.out, HBw7.out⟩) (fun _ => ?_)
          clear hK K
          (try simp only [Act.put, List.setIfInBounds_toArray, List.set_cons_zero, List.set_cons_succ])
          refine anyH_take (i := 9) (some 65) (v := _) rfl rfl (by kernel_rfl) (by kernel_rfl) (by kernel_rfl) (fun _ _ _ h => h) (by rfl) (⟨HV47.out, HV57.out, HBw7.out⟩) (by intro w hSw; go_simp; try with_reducible rfl) ?_
          (try simp only [Act.put, List.setIfInBounds_toArray, List.set_cons_zero, List.set_cons_succ])
          refine anyH_take (i := 10) (some 75) (v := _) rfl rfl (by kernel_rfl) (by kernel_rfl) (by kernel_rfl) (fun _ _ _ h => h) (by rfl) (⟨HV47.out, HV57.out, HBw7.out⟩) (by intro w hSw; go_simp; try with_reducible rfl) ?_
          (try simp only [Act.put, List.setIfInBounds_toArray, List.set_cons_zero, List.set_cons_succ])
          refine anyH_take (i := 11) (some 76) (v := _) rfl rfl (by kernel_rfl) (by kernel_rfl) (by kernel_rfl) (fun _ _ _ h => h) (by rfl) (⟨HV47.out, HV57.out, HBw7.out⟩) (by intro w hSw; go_simp; try with_reducible rfl) ?_
          (try simp only [Act.put, List.setIfInBounds_toArray, List.set_cons_zero, List.set_cons_succ])
          refine wpAnyH_ready (rs := [13]) (by kernel_rfl) (by simp) (AllReadyH.cons rfl (fun K hK => ?_) AllReadyH.nil)
          refine step_store_part rfl 27 (.tmp 12) (.tmp 75) rfl V 0 [.int .u32 (st : Int), .int .u32 (sp : Int), .bool sl, ur] rfl rfl 27 [.int .u32 0, .int .u32 0, .bool false, .slice none 0 0] HVC7.out (by kernel_rfl) (by simp) (sec_one (lies_one HUR7.out)) rfl ?_
          obtain ⟨W9, hW9⟩ : ∃ W, W = W7.setRow V (splice [.int .u32 0, .int .u32 0, .bool false, .slice none 0 0] 0 [.int .u32 (st : Int), .int .u32 (sp : Int), .bool sl, ur]).toArray := ⟨_, rfl⟩
          show K _ (W7.setRow V (splice [.int .u32 0, .int .u32 0, .bool false, .slice none 0 0] 0 [.int .u32 (st : Int), .int .u32 (sp : Int), .bool sl, ur]).toArray)
          rw [← hW9]
          have HO9 : Hid (Only (fun b => b = V) W7 W9) := Lib.hid (by rw [hW9]; exact only_stRow _ _)
          have HVC9 : Hid (W9.heap[V]? = some (.cells #[.int .u32 (st : Int), .int .u32 (sp : Int), .bool sl, ur] 27 (0, 0))) := Lib.hid (by rw [hW9]; exact setRow_heap _ _ _ _ _ _ HVC7.out)
          clear hW9
          have HV49 : Hid (W9.heap[V4]? = some (.cells #[.int .u32 (t0 : Int), .int .u32 (p0 : Int), .bool L0, .slice a0 n0 c0] 27 (0, 0))) := Lib.hid ((HO9.out.block V4 (lt_of_block HV47.out) (by have := HVN.out; omega)).trans HV47.out)
          have HV59 : Hid (W9.heap[V5]? = some (.cells #[.int .u32 (t1 : Int), .int .u32 (p1 : Int), .bool L1, .slice a1 n1 c1] 27 (0, 0))) := Lib.hid ((HO9.out.block V5 (lt_of_block HV57.out) (by have := HVN.out; omega)).trans HV57.out)
          have HBw9 : Hid (Below w.heap.size w W9) := Lib.hid (HBw7.out.trans (HO9.out.below HBw7.out.size (fun b hb => hb ▸ HVG.out)))
          have HUR9 : Hid (Lies W9 ur sd) := Lib.hid (lies_only HUR7.out HO9.out (fun b off j x hb => no_bytes HVC7.out no_sec b off j x hb))
          refine hK.out _ _ (⟨HV49.out, HV59.out, HBw9.out⟩) (fun _ => ?_)
          clear hK K
          (try simp only [Act.put, List.setIfInBounds_toArray, List.set_cons_zero, List.set_cons_succ])
          refine anyH_take (i := 14) (some 13) (v := _) rfl rfl (by kernel_rfl) (by kernel_rfl) (by kernel_rfl) (fun _ _ _ h => h) (by rfl) (⟨HV49.out, HV59.out, HBw9.out⟩) (by intro w hSw; go_simp; try with_reducible rfl) ?_
          (try simp only [Act.put, List.setIfInBounds_toArray, List.set_cons_zero, List.set_cons_succ])
          refine wpAnyH_done (by kernel_rfl) ?_ _
          go_wp2_with fail
          go_meet
          exact ⟨V, ur, rfl, rfl, HVC9.out, HUR9.out, HV49.out, HV59.out, HBw9.out⟩
      case rest =>
        obtain ⟨V, ur, rfl, rfl, hv, hl, h4, h5, hb⟩ := hcut
        have HVC := Lib.hid hv
        have HUR := Lib.hid hl
        have HV4c := Lib.hid h4
        have HV5c := Lib.hid h5
        have HBc := Lib.hid hb
        clear hl hb
        obtain ⟨⟨x0, x1, x2, x3⟩, _, _, _, _⟩ := cells4 hv
        obtain ⟨⟨y0, y1, y2, y3⟩, _, _, _, _⟩ := cells4 h4
        obtain ⟨⟨z0, z1, z2, z3⟩, _, _, _, _⟩ := cells4 h5
        clear hv h4 h5
        have hsplit := unpack_torn HL3.out.1 HL3.out.2.1 HXb.out HYb.out hk64 (by rw [HXL.out]; exact ends_sec HOK1.out) (by rw [HYL.out]; exact ends_sec HOK0.out) (by rw [HXL.out, HYL.out]; exact ne_sec HOK1.out HOK0.out (fun h => HNE.out ⟨h.1.symm, h.2.symm⟩))
        rw [← HZL.out] at hsplit
        rcases hsplit with hz | hz | hz
        · have hs : (⟨st, sp, sl, sd⟩ : Sec) = ⟨t1, p1, L1, D1⟩ := by rw [HSU.out, hz, HXL.out]; exact unpackS_secB HOK1.out
          have he : eu = 0 := by rw [HEU.out, hz, HXL.out]; exact unpackE_secB HOK1.out
          cases hs
          subst he
          clear hz
          go_wp2_with fail
          refine (same_no (s := ⟨t1, p1, L1, D1⟩) (s' := ⟨t0, p0, L0, D0⟩) (u := ur) (u' := .slice a0 n0 c0) (by simp only; have := HNE.out; omega)).mono ?_
          rintro e W8 ⟨rfl, hb8⟩
          have HB8 : Hid (Below w.heap.size w W8) := Lib.hid (HBc.out.trans (hb8.mono HBc.out.size))
          have h48 : W8.heap[V4]? = some (.cells #[.int .u32 (t0 : Int), .int .u32 (p0 : Int), .bool L0, .slice a0 n0 c0] 27 (0, 0)) := (hb8.block V4 (lt_of_block HV4c.out)).trans HV4c.out
          have h58 : W8.heap[V5]? = some (.cells #[.int .u32 (t1 : Int), .int .u32 (p1 : Int), .bool L1, .slice a1 n1 c1] 27 (0, 0)) := (hb8.block V5 (lt_of_block HV5c.out)).trans HV5c.out
          have hv8 := (hb8.block V (lt_of_block HVC.out)).trans HVC.out
          obtain ⟨⟨i0, i1, i2, i3⟩, _, _, _, _⟩ := cells4 h58
          obtain ⟨⟨j0, j1, j2, j3⟩, _, _, _, _⟩ := cells4 hv8
          have HUR8 := Lib.hid (lies_keep HUR.out hb8)
          clear hb8 h48 h58 hv8
          go_wp2_with fail
          refine (same_yes (s := ⟨t1, p1, L1, D1⟩) HUR8.out (u' := .slice a1 n1 c1) (lies_keep HU1.out HB8.out)).mono ?_
          rintro e W9 ⟨rfl, hb9⟩
          have HB9 : Hid (Below w.heap.size w W9) := Lib.hid (HB8.out.trans (hb9.mono HB8.out.size))
          clear hb9
          go_wp2_with fail
          go_ret
          exact ⟨rfl, HB9.out⟩
        · have hs : (⟨st, sp, sl, sd⟩ : Sec) = ⟨t0, p0, L0, D0⟩ := by rw [HSU.out, hz, HYL.out]; exact unpackS_secB HOK0.out
          have he : eu = 0 := by rw [HEU.out, hz, HYL.out]; exact unpackE_secB HOK0.out
          cases hs
          subst he
          clear hz
          go_wp2_with fail
          refine (same_yes (s := ⟨t0, p0, L0, D0⟩) HUR.out (u' := .slice a0 n0 c0) (lies_keep HU0.out HBc.out)).mono ?_
          rintro e W8 ⟨rfl, hb8⟩
          have HB8 : Hid (Below w.heap.size w W8) := Lib.hid (HBc.out.trans (hb8.mono HBc.out.size))
          clear hb8
          go_wp2_with fail
          go_ret
          exact ⟨rfl, HB8.out⟩
        · have he : eu = 5 := by rw [HEU.out]; exact hz
          subst he
          clear hz
          go_wp2_with fail
          go_ret
          exact ⟨rfl, HBc.out⟩
    · go_upto_region 9 with (refine wpList_make_full _ rfl (.const (.int .i64 64)) (.const (.int .i64 64)) 25 rfl w3.heap.size 5 i0 _ 1 Try.underlying25 HI.out.1 HI.out.2.1 HI.out.2.2.1 .i64 .i64 64 64 64 rfl rfl rfl rfl HI.out.2.2.2 (by unfold maxLen; omega) (Nat.le_refl _) ?_; intro W4 hown hgr; rw [made_zero] at hown; have hb4 : Below w3.heap.size w3 W4 := (Only.grown hgr).below (Nat.le_refl _) (fun k hk => by cases hk); have hcv : (convert 25 9 (.slice (some ⟨w3.heap.size, 0, none⟩) 64 64)).run Try.prog W4 = .ok (.string ZS) W4 := (by rw [HZS.out]; exact text_of (ownsRow_lies hown) _ Try.underlying9); have HB4 := Lib.hid hb4; clear hb4 hown hgr)
      clear hcv
      try rw [hkk]
      clear hkk ek
      obtain ⟨XL, hXL⟩ : ∃ Z, Z = secB ⟨t1, p1, L1, D1⟩ := ⟨_, rfl⟩
      obtain ⟨YL, hYL⟩ : ∃ Z, Z = List.replicate 64 0 := ⟨_, rfl⟩
      have hX : XS = strOf XL := by rw [hXL]; exact HXS.out
      have hY : ZS = strOf YL := by rw [hYL]; exact HZS.out
      obtain ⟨ZL, hZL⟩ : ∃ Z, Z = XL.take kk ++ YL.drop kk := ⟨_, rfl⟩
      have hX64 : XL.length = 64 := by rw [← strOf_size, ← hX]; exact hxs
      have hY64 : YL.length = 64 := by rw [← strOf_size, ← hY]; exact hzs
      have hZ64 : ZL.length = 64 := by rw [hZL]; exact torn_length hX64 hY64 hk64
      have hXb : ∀ x ∈ XL, x < 256 := by rw [hXL]; exact secB_small HOK1.out
      have hYb : ∀ x ∈ YL, x < 256 := by rw [hYL]; exact rep_small
      have hZb : ∀ x ∈ ZL, x < 256 := by rw [hZL]; intro x hx; rcases List.mem_append.1 hx with h | h; exact hXb x (List.mem_of_mem_take h); exact hYb x (List.mem_of_mem_drop h)
      obtain ⟨R1, hR1⟩ : ∃ R, R = XS.extract 0 kk := ⟨_, rfl⟩
      obtain ⟨R2, hR2⟩ : ∃ R, R = ZS.extract kk ZS.size := ⟨_, rfl⟩
      obtain ⟨R, hR⟩ : ∃ R, R = R1 ++ R2 := ⟨_, rfl⟩
      have hRZ : R = strOf ZL := by rw [hR, hR1, hR2, hZL, strOf_append, hzs, hX, hY, strOf_extract, strOf_extract, List.drop_zero, Nat.sub_zero, List.take_of_length_le (l := YL.drop kk) (by rw [List.length_drop]; omega)]
      have hRs : R.size = 64 := by rw [hRZ, strOf_size]; exact hZ64
      have HR1 := Lib.hid hR1
      have HR2 := Lib.hid hR2
      have HR := Lib.hid hR
      have HRZ := Lib.hid hRZ
      have HXL := Lib.hid hXL
      have HYL := Lib.hid hYL
      have HZL := Lib.hid hZL
      have HZb := Lib.hid hZb
      have HXb := Lib.hid hXb
      have HYb := Lib.hid hYb
      have HL3 := Lib.hid (And.intro hX64 (And.intro hY64 hZ64))
      clear hR1 hR2 hR hRZ hXL hYL hZL hZb hXb hYb hX hY hX64 hY64 hZ64
      have HBw4 : Hid (Below w.heap.size w W4) := Lib.hid (HB3.out.trans (HB4.out.mono HB3.out.size))
      have HV44 : Hid (W4.heap[V4]? = some (.cells #[.int .u32 (t0 : Int), .int .u32 (p0 : Int), .bool L0, .slice a0 n0 c0] 27 (0, 0))) := Lib.hid ((HB4.out.block V4 (lt_of_block HV43.out)).trans HV43.out)
      have HV54 : Hid (W4.heap[V5]? = some (.cells #[.int .u32 (t1 : Int), .int .u32 (p1 : Int), .bool L1, .slice a1 n1 c1] 27 (0, 0))) := Lib.hid ((HB4.out.block V5 (lt_of_block HV53.out)).trans HV53.out)
      obtain ⟨SU, hSU⟩ : ∃ s, s = stOf ZL := ⟨_, rfl⟩
      obtain ⟨eu, hEU⟩ : ∃ s, s = unpackE ZL := ⟨_, rfl⟩
      obtain ⟨st, sp, sl, sd⟩ := SU
      have HSU := Lib.hid hSU
      have HEU := Lib.hid hEU
      clear hSU hEU
      go_cut [12, 13] (fun s12 s13 W => ∃ (V : Nat) (u : Value), s12 = .pointer (some ⟨V, 0, none⟩) ∧ s13 = .int .i64 eu ∧ W.heap[V]? = some (.cells #[.int .u32 (st : Int), .int .u32 (sp : Int), .bool sl, u] 27 (0, 0)) ∧ Lies W u sd ∧ W.heap[V4]? = some (.cells #[.int .u32 (t0 : Int), .int .u32 (p0 : Int), .bool L0, .slice a0 n0 c0] 27 (0, 0)) ∧ W.heap[V5]? = some (.cells #[.int .u32 (t1 : Int), .int .u32 (p1 : Int), .bool L1, .slice a1 n1 c1] 27 (0, 0)) ∧ Below w.heap.size w W)
      case first =>
        refine wp_region_held_drew (S := fun W => W.heap[V4]? = some (.cells #[.int .u32 (t0 : Int), .int .u32 (p0 : Int), .bool L0, .slice a0 n0 c0] 27 (0, 0)) ∧ W.heap[V5]? = some (.cells #[.int .u32 (t1 : Int), .int .u32 (p1 : Int), .bool L1, .slice a1 n1 c1] 27 (0, 0)) ∧ Below w.heap.size w W) (by kernel_rfl) ⟨HV44.out, HV54.out, below_drew HBw4.out⟩ (fun _ => ?_)
        refine anyH_take (i := 0) (some 66) (v := _) rfl rfl (by kernel_rfl) (by kernel_rfl) (by kernel_rfl) (fun _ _ _ h => h) (by rfl) (⟨HV44.out, HV54.out, below_drew HBw4.out⟩) (by intro w hSw; go_simp; try with_reducible rfl) ?_
        (try simp only [Act.put, List.setIfInBounds_toArray, List.set_cons_zero, List.set_cons_succ])
        refine anyH_take (i := 1) (some 67) (v := _) rfl rfl (by kernel_rfl) (by kernel_rfl) (by kernel_rfl) (fun _ _ _ h => h) (by rfl) (⟨HV44.out, HV54.out, below_drew HBw4.out⟩) (by intro w hSw; go_simp; try with_reducible rfl) ?_
        (try simp only [Act.put, List.setIfInBounds_toArray, List.set_cons_zero, List.set_cons_succ])
        refine anyH_take (i := 2) (some 68) (v := _) rfl rfl (by kernel_rfl) (by kernel_rfl) (by kernel_rfl) (fun _ _ _ h => h) (by rfl) (⟨HV44.out, HV54.out, below_drew HBw4.out⟩) (fun W _ => run_text_hi W (.tmp 66) (.tmp 67) rfl XS R1 kk rfl rfl (by omega) HR1.out.symm) ?_
        (try simp only [Act.put, List.setIfInBounds_toArray, List.set_cons_zero, List.set_cons_succ])
        refine anyH_take (i := 3) (some 69) (v := _) rfl rfl (by kernel_rfl) (by kernel_rfl) (by kernel_rfl) (fun _ _ _ h => h) (by rfl) (⟨HV44.out, HV54.out, below_drew HBw4.out⟩) (by intro w hSw; go_simp; try with_reducible rfl) ?_
        (try simp only [Act.put, List.setIfInBounds_toArray, List.set_cons_zero, List.set_cons_succ])
        refine anyH_take (i := 4) (some 70) (v := _) rfl rfl (by kernel_rfl) (by kernel_rfl) (by kernel_rfl) (fun _ _ _ h => h) (by rfl) (⟨HV44.out, HV54.out, below_drew HBw4.out⟩) (by intro w hSw; go_simp; try with_reducible rfl) ?_
        (try simp only [Act.put, List.setIfInBounds_toArray, List.set_cons_zero, List.set_cons_succ])
        refine anyH_take (i := 5) (some 71) (v := _) rfl rfl (by kernel_rfl) (by kernel_rfl) (by kernel_rfl) (fun _ _ _ h => h) (by rfl) (⟨HV44.out, HV54.out, below_drew HBw4.out⟩) (fun W _ => run_text_lo W (.tmp 69) (.tmp 70) rfl ZS R2 kk rfl rfl (by omega) HR2.out.symm) ?_
        (try simp only [Act.put, List.setIfInBounds_toArray, List.set_cons_zero, List.set_cons_succ])
        refine anyH_take (i := 6) (some 72) (v := _) rfl rfl (by kernel_rfl) (by kernel_rfl) (by kernel_rfl) (fun _ _ _ h => h) (by rfl) (⟨HV44.out, HV54.out, below_drew HBw4.out⟩) (fun W _ => run_cat_op W (.tmp 68) (.tmp 71) rfl R1 R2 R rfl rfl HR.out.symm (by omega)) ?_
        (try simp only [Act.put, List.setIfInBounds_toArray, List.set_cons_zero, List.set_cons_succ])
        refine wpAnyH_ready (rs := [7, 12]) (by kernel_rfl) (by simp) (AllReadyH.cons rfl (fun K hK => ?_) (AllReadyH.cons rfl (fun K hK => ?_) AllReadyH.nil))
        · obtain ⟨W5, bz, cz, hr5, _, hb5, hz5⟩ := text_bytes W4.drew R
          have HZL5 : Hid (Lies W5 (.slice (some ⟨bz, 0, none⟩) 64 cz) ZL) := Lib.hid (.inr (.inr ⟨bz, 0, cz, by rw [HL3.out.2.2], by have h := hz5; rw [HRZ.out, ords_strOf HZb.out] at h; exact h⟩))
          rw [hRs] at hr5
          refine step_runs (some 73) rfl rfl (run_text_op (.tmp 72) rfl rfl hr5) ?_
          clear hr5 hz5
          have HBw5 : Hid (Below w.heap.size w W5) := Lib.hid ((below_drew HBw4.out).trans (hb5.mono (below_drew HBw4.out).size))
          have HV45 : Hid (W5.heap[V4]? = some (.cells #[.int .u32 (t0 : Int), .int .u32 (p0 : Int), .bool L0, .slice a0 n0 c0] 27 (0, 0))) := Lib.hid ((hb5.block V4 (lt_of_block HV44.out)).trans HV44.out)
          have HV55 : Hid (W5.heap[V5]? = some (.cells #[.int .u32 (t1 : Int), .int .u32 (p1 : Int), .bool L1, .slice a1 n1 c1] 27 (0, 0))) := Lib.hid ((hb5.block V5 (lt_of_block HV54.out)).trans HV54.out)
          clear hb5
          refine hK.out _ _ (⟨HV45.out, HV55.out, HBw5.out⟩) (fun _ => ?_)
          clear hK K
          (try simp only [Act.put, List.setIfInBounds_toArray, List.set_cons_zero, List.set_cons_succ])
          refine wpAnyH_ready (rs := [8, 12]) (by kernel_rfl) (by simp) (AllReadyH.cons rfl (fun K hK => ?_) (AllReadyH.cons rfl (fun K hK => ?_) AllReadyH.nil))
          · go_simp
            have hun := unpack_any HZL5.out HZb.out
            unfold Unpacked at hun
            rw [← HSU.out, ← HEU.out] at hun
            refine hun.mono ?_
            clear hun
            rintro e W6 ⟨ur, rfl, hl6, _, hb6⟩
            have HUR6 := Lib.hid hl6.lies
            clear hl6
            have HBw6 : Hid (Below w.heap.size w W6) := Lib.hid (HBw5.out.trans (hb6.mono HBw5.out.size))
            have HV46 : Hid (W6.heap[V4]? = some (.cells #[.int .u32 (t0 : Int), .int .u32 (p0 : Int), .bool L0, .slice a0 n0 c0] 27 (0, 0))) := Lib.hid ((hb6.block V4 (lt_of_block HV45.out)).trans HV45.out)
            have HV56 : Hid (W6.heap[V5]? = some (.cells #[.int .u32 (t1 : Int), .int .u32 (p1 : Int), .bool L1, .slice a1 n1 c1] 27 (0, 0))) := Lib.hid ((hb6.block V5 (lt_of_block HV55.out)).trans HV55.out)
            have HZL6 : Hid (Lies W6 (.slice (some ⟨bz, 0, none⟩) 64 cz) ZL) := Lib.hid (lies_keep HZL5.out hb6)
            clear hb6
            unfold secV
            go_wp2_with fail
            refine hK.out _ _ (⟨HV46.out, HV56.out, HBw6.out⟩) (fun _ => ?_)
            clear hK K
            (try simp only [Act.put, List.setIfInBounds_toArray, List.set_cons_zero, List.set_cons_succ])
            refine anyH_take (i := 9) (some 65) (v := _) rfl rfl (by kernel_rfl) (by kernel_rfl) (by kernel_rfl) (fun _ _ _ h => h) (by rfl) (⟨HV46.out, HV56.out, HBw6.out⟩) (by intro w hSw; go_simp; try with_reducible rfl) ?_
            (try simp only [Act.put, List.setIfInBounds_toArray, List.set_cons_zero, List.set_cons_succ])
            refine anyH_take (i := 10) (some 75) (v := _) rfl rfl (by kernel_rfl) (by kernel_rfl) (by kernel_rfl) (fun _ _ _ h => h) (by rfl) (⟨HV46.out, HV56.out, HBw6.out⟩) (by intro w hSw; go_simp; try with_reducible rfl) ?_
            (try simp only [Act.put, List.setIfInBounds_toArray, List.set_cons_zero, List.set_cons_succ])
            refine anyH_take (i := 11) (some 76) (v := _) rfl rfl (by kernel_rfl) (by kernel_rfl) (by kernel_rfl) (fun _ _ _ h => h) (by rfl) (⟨HV46.out, HV56.out, HBw6.out⟩) (by intro w hSw; go_simp; try with_reducible rfl) ?_
            (try simp only [Act.put, List.setIfInBounds_toArray, List.set_cons_zero, List.set_cons_succ])
            refine wpAnyH_ready (rs := [12]) (by kernel_rfl) (by simp) (AllReadyH.cons rfl (fun K hK => ?_) AllReadyH.nil)
            refine step_runs (some 12) rfl rfl (run_alloc_op _ 27 rfl [.int .u32 0, .int .u32 0, .bool false, .slice none 0 0] (by kernel_rfl)) ?_
            obtain ⟨W7, hW7⟩ : ∃ W, W = W6.alloc (.cells #[.int .u32 0, .int .u32 0, .bool false, .slice none 0 0] 27) := ⟨_, rfl⟩
            obtain ⟨V, hV⟩ : ∃ V, V = W6.heap.size := ⟨_, rfl⟩
            have HVC7 : Hid (W7.heap[V]? = some (.cells #[.int .u32 0, .int .u32 0, .bool false, .slice none 0 0] 27 (0, 0))) := Lib.hid (by rw [hW7, hV]; exact heap_alloc_new _ _)
            have hb7 : Below W6.heap.size W6 W7 := by rw [hW7]; exact (Below.refl _ _).alloc (Nat.le_refl _) _
            have HVG : Hid (w.heap.size ≤ V) := Lib.hid (by rw [hV]; exact (HBw6.out).size)
            have HVN : Hid (V4 < V ∧ V5 < V) := Lib.hid (by rw [hV]; exact ⟨lt_of_block HV46.out, lt_of_block HV56.out⟩)
            rw [← hV]
            show K _ (W6.alloc (.cells #[.int .u32 0, .int .u32 0, .bool false, .slice none 0 0] 27))
            rw [← hW7]
            clear hV hW7
            have HBw7 : Hid (Below w.heap.size w W7) := Lib.hid (HBw6.out.trans (hb7.mono HBw6.out.size))
            have HV47 : Hid (W7.heap[V4]? = some (.cells #[.int .u32 (t0 : Int), .int .u32 (p0 : Int), .bool L0, .slice a0 n0 c0] 27 (0, 0))) := Lib.hid ((hb7.block V4 (lt_of_block HV46.out)).trans HV46.out)
            have HV57 : Hid (W7.heap[V5]? = some (.cells #[.int .u32 (t1 : Int), .int .u32 (p1 : Int), .bool L1, .slice a1 n1 c1] 27 (0, 0))) := Lib.hid ((hb7.block V5 (lt_of_block HV56.out)).trans HV56.out)
            have HZL7 : Hid (Lies W7 (.slice (some ⟨bz, 0, none⟩) 64 cz) ZL) := Lib.hid (lies_keep HZL6.out hb7)
            have HUR7 : Hid (Lies W7 ur sd) := Lib.hid (lies_keep HUR6.out hb7)
            clear hb7
            refine hK.out _ _ (⟨HV47.out, HV57.out, HBw7.out⟩) (fun _ => ?_)
            clear hK K
            (try simp only [Act.put, List.setIfInBounds_toArray, List.set_cons_zero, List.set_cons_succ])
            refine wpAnyH_ready (rs := [13]) (by kernel_rfl) (by simp) (AllReadyH.cons rfl (fun K hK => ?_) AllReadyH.nil)
            refine step_store_part rfl 27 (.tmp 12) (.tmp 75) rfl V 0 [.int .u32 (st : Int), .int .u32 (sp : Int), .bool sl, ur] rfl rfl 27 [.int .u32 0, .int .u32 0, .bool false, .slice none 0 0] HVC7.out (by kernel_rfl) (by simp) (sec_one (lies_one HUR7.out)) rfl ?_
            obtain ⟨W9, hW9⟩ : ∃ W, W = W7.setRow V (splice [.int .u32 0, .int .u32 0, .bool false, .slice none 0 0] 0 [.int .u32 (st : Int), .int .u32 (sp : Int), .bool sl, ur]).toArray := ⟨_, rfl⟩
            show K _ (W7.setRow V (splice [.int .u32 0, .int .u32 0, .bool false, .slice none 0 0] 0 [.int .u32 (st : Int), .int .u32 (sp : Int), .bool sl, ur]).toArray)
            rw [← hW9]
            have HO9 : Hid (Only (fun b => b = V) W7 W9) := Lib.hid (by rw [hW9]; exact only_stRow _ _)
            have HVC9 : Hid (W9.heap[V]? = some (.cells #[.int .u32 (st : Int), .int .u32 (sp : Int), .bool sl, ur] 27 (0, 0))) := Lib.hid (by rw [hW9]; exact setRow_heap _ _ _ _ _ _ HVC7.out)
            clear hW9
            have HV49 : Hid (W9.heap[V4]? = some (.cells #[.int .u32 (t0 : Int), .int .u32 (p0 : Int), .bool L0, .slice a0 n0 c0] 27 (0, 0))) := Lib.hid ((HO9.out.block V4 (lt_of_block HV47.out) (by have := HVN.out; omega)).trans HV47.out)
            have HV59 : Hid (W9.heap[V5]? = some (.cells #[.int .u32 (t1 : Int), .int .u32 (p1 : Int), .bool L1, .slice a1 n1 c1] 27 (0, 0))) := Lib.hid ((HO9.out.block V5 (lt_of_block HV57.out) (by have := HVN.out; omega)).trans HV57.out)
            have HBw9 : Hid (Below w.heap.size w W9) := Lib.hid (HBw7.out.trans (HO9.out.below HBw7.out.size (fun b hb => hb ▸ HVG.out)))
            have HUR9 : Hid (Lies W9 ur sd) := Lib.hid (lies_only HUR7.out HO9.out (fun b off j x hb => no_bytes HVC7.out no_sec b off j x hb))
            refine hK.out _ _ (⟨HV49.out, HV59.out, HBw9.out⟩) (fun _ => ?_)
            clear hK K
            (try simp only [Act.put, List.setIfInBounds_toArray, List.set_cons_zero, List.set_cons_succ])
            refine anyH_take (i := 14) (some 13) (v := _) rfl rfl (by kernel_rfl) (by kernel_rfl) (by kernel_rfl) (fun _ _ _ h => h) (by rfl) (⟨HV49.out, HV59.out, HBw9.out⟩) (by intro w hSw; go_simp; try with_reducible rfl) ?_
            (try simp only [Act.put, List.setIfInBounds_toArray, List.set_cons_zero, List.set_cons_succ])
            refine wpAnyH_done (by kernel_rfl) ?_ _
            go_wp2_with fail
            go_meet
            exact ⟨V, ur, rfl, rfl, HVC9.out, HUR9.out, HV49.out, HV59.out, HBw9.out⟩
          · refine step_runs (some 12) rfl rfl (run_alloc_op _ 27 rfl [.int .u32 0, .int .u32 0, .bool false, .slice none 0 0] (by kernel_rfl)) ?_
            obtain ⟨W6, hW6⟩ : ∃ W, W = W5.alloc (.cells #[.int .u32 0, .int .u32 0, .bool false, .slice none 0 0] 27) := ⟨_, rfl⟩
            obtain ⟨V, hV⟩ : ∃ V, V = W5.heap.size := ⟨_, rfl⟩
            have HVC6 : Hid (W6.heap[V]? = some (.cells #[.int .u32 0, .int .u32 0, .bool false, .slice none 0 0] 27 (0, 0))) := Lib.hid (by rw [hW6, hV]; exact heap_alloc_new _ _)
            have hb6 : Below W5.heap.size W5 W6 := by rw [hW6]; exact (Below.refl _ _).alloc (Nat.le_refl _) _
            have HVG : Hid (w.heap.size ≤ V) := Lib.hid (by rw [hV]; exact (HBw5.out).size)
            have HVN : Hid (V4 < V ∧ V5 < V) := Lib.hid (by rw [hV]; exact ⟨lt_of_block HV45.out, lt_of_block HV55.out⟩)
            rw [← hV]
            show K _ (W5.alloc (.cells #[.int .u32 0, .int .u32 0, .bool false, .slice none 0 0] 27))
            rw [← hW6]
            clear hV hW6
            have HBw6 : Hid (Below w.heap.size w W6) := Lib.hid (HBw5.out.trans (hb6.mono HBw5.out.size))
            have HV46 : Hid (W6.heap[V4]? = some (.cells #[.int .u32 (t0 : Int), .int .u32 (p0 : Int), .bool L0, .slice a0 n0 c0] 27 (0, 0))) := Lib.hid ((hb6.block V4 (lt_of_block HV45.out)).trans HV45.out)
            have HV56 : Hid (W6.heap[V5]? = some (.cells #[.int .u32 (t1 : Int), .int .u32 (p1 : Int), .bool L1, .slice a1 n1 c1] 27 (0, 0))) := Lib.hid ((hb6.block V5 (lt_of_block HV55.out)).trans HV55.out)
            have HZL6 : Hid (Lies W6 (.slice (some ⟨bz, 0, none⟩) 64 cz) ZL) := Lib.hid (lies_keep HZL5.out hb6)
            clear hb6
            refine hK.out _ _ (⟨HV46.out, HV56.out, HBw6.out⟩) (fun _ => ?_)
            clear hK K
            (try simp only [Act.put, List.setIfInBounds_toArray, List.set_cons_zero, List.set_cons_succ])
            refine wpAnyH_ready (rs := [8]) (by kernel_rfl) (by simp) (AllReadyH.cons rfl (fun K hK => ?_) AllReadyH.nil)
            go_simp
            have hun := unpack_any HZL6.out HZb.out
            unfold Unpacked at hun
            rw [← HSU.out, ← HEU.out] at hun
            refine hun.mono ?_
            clear hun
            rintro e W7 ⟨ur, rfl, hl7, _, hb7⟩
            have HUR7 := Lib.hid hl7.lies
            clear hl7
            have HBw7 : Hid (Below w.heap.size w W7) := Lib.hid (HBw6.out.trans (hb7.mono HBw6.out.size))
            have HV47 : Hid (W7.heap[V4]? = some (.cells #[.int .u32 (t0 : Int), .int .u32 (p0 : Int), .bool L0, .slice a0 n0 c0] 27 (0, 0))) := Lib.hid ((hb7.block V4 (lt_of_block HV46.out)).trans HV46.out)
            have HV57 : Hid (W7.heap[V5]? = some (.cells #[.int .u32 (t1 : Int), .int .u32 (p1 : Int), .bool L1, .slice a1 n1 c1] 27 (0, 0))) := Lib.hid ((hb7.block V5 (lt_of_block HV56.out)).trans HV56.out)
            have HZL7 : Hid (Lies W7 (.slice (some ⟨bz, 0, none⟩) 64 cz) ZL) := Lib.hid (lies_keep HZL6.out hb7)
            have HVC7 : Hid (W7.heap[V]? = some (.cells #[.int .u32 0, .int .u32 0, .bool false, .slice none 0 0] 27 (0, 0))) := Lib.hid ((hb7.block V (lt_of_block HVC6.out)).trans HVC6.out)
            clear hb7
            unfold secV
            go_wp2_with fail
            refine hK.out _ _ (⟨HV47.out, HV57.out, HBw7.out⟩) (fun _ => ?_)
            clear hK K
            (try simp only [Act.put, List.setIfInBounds_toArray, List.set_cons_zero, List.set_cons_succ])
            refine anyH_take (i := 9) (some 65) (v := _) rfl rfl (by kernel_rfl) (by kernel_rfl) (by kernel_rfl) (fun _ _ _ h => h) (by rfl) (⟨HV47.out, HV57.out, HBw7.out⟩) (by intro w hSw; go_simp; try with_reducible rfl) ?_
            (try simp only [Act.put, List.setIfInBounds_toArray, List.set_cons_zero, List.set_cons_succ])
            refine anyH_take (i := 10) (some 75) (v := _) rfl rfl (by kernel_rfl) (by kernel_rfl) (by kernel_rfl) (fun _ _ _ h => h) (by rfl) (⟨HV47.out, HV57.out, HBw7.out⟩) (by intro w hSw; go_simp; try with_reducible rfl) ?_
            (try simp only [Act.put, List.setIfInBounds_toArray, List.set_cons_zero, List.set_cons_succ])
            refine anyH_take (i := 11) (some 76) (v := _) rfl rfl (by kernel_rfl) (by kernel_rfl) (by kernel_rfl) (fun _ _ _ h => h) (by rfl) (⟨HV47.out, HV57.out, HBw7.out⟩) (by intro w hSw; go_simp; try with_reducible rfl) ?_
            (try simp only [Act.put, List.setIfInBounds_toArray, List.set_cons_zero, List.set_cons_succ])
            refine wpAnyH_ready (rs := [13]) (by kernel_rfl) (by simp) (AllReadyH.cons rfl (fun K hK => ?_) AllReadyH.nil)
            refine step_store_part rfl 27 (.tmp 12) (.tmp 75) rfl V 0 [.int .u32 (st : Int), .int .u32 (sp : Int), .bool sl, ur] rfl rfl 27 [.int .u32 0, .int .u32 0, .bool false, .slice none 0 0] HVC7.out (by kernel_rfl) (by simp) (sec_one (lies_one HUR7.out)) rfl ?_
            obtain ⟨W9, hW9⟩ : ∃ W, W = W7.setRow V (splice [.int .u32 0, .int .u32 0, .bool false, .slice none 0 0] 0 [.int .u32 (st : Int), .int .u32 (sp : Int), .bool sl, ur]).toArray := ⟨_, rfl⟩
            show K _ (W7.setRow V (splice [.int .u32 0, .int .u32 0, .bool false, .slice none 0 0] 0 [.int .u32 (st : Int), .int .u32 (sp : Int), .bool sl, ur]).toArray)
            rw [← hW9]
            have HO9 : Hid (Only (fun b => b = V) W7 W9) := Lib.hid (by rw [hW9]; exact only_stRow _ _)
            have HVC9 : Hid (W9.heap[V]? = some (.cells #[.int .u32 (st : Int), .int .u32 (sp : Int), .bool sl, ur] 27 (0, 0))) := Lib.hid (by rw [hW9]; exact setRow_heap _ _ _ _ _ _ HVC7.out)
            clear hW9
            have HV49 : Hid (W9.heap[V4]? = some (.cells #[.int .u32 (t0 : Int), .int .u32 (p0 : Int), .bool L0, .slice a0 n0 c0] 27 (0, 0))) := Lib.hid ((HO9.out.block V4 (lt_of_block HV47.out) (by have := HVN.out; omega)).trans HV47.out)
            have HV59 : Hid (W9.heap[V5]? = some (.cells #[.int .u32 (t1 : Int), .int .u32 (p1 : Int), .bool L1, .slice a1 n1 c1] 27 (0, 0))) := Lib.hid ((HO9.out.block V5 (lt_of_block HV57.out) (by have := HVN.out; omega)).trans HV57.out)
            have HBw9 : Hid (Below w.heap.size w W9) := Lib.hid (HBw7.out.trans (HO9.out.below HBw7.out.size (fun b hb => hb ▸ HVG.out)))
            have HUR9 : Hid (Lies W9 ur sd) := Lib.hid (lies_only HUR7.out HO9.out (fun b off j x hb => no_bytes HVC7.out no_sec b off j x hb))
            refine hK.out _ _ (⟨HV49.out, HV59.out, HBw9.out⟩) (fun _ => ?_)
            clear hK K
            (try simp only [Act.put, List.setIfInBounds_toArray, List.set_cons_zero, List.set_cons_succ])
            refine anyH_take (i := 14) (some 13) (v := _) rfl rfl (by kernel_rfl) (by kernel_rfl) (by kernel_rfl) (fun _ _ _ h => h) (by rfl) (⟨HV49.out, HV59.out, HBw9.out⟩) (by intro w hSw; go_simp; try with_reducible rfl) ?_
            (try simp only [Act.put, List.setIfInBounds_toArray, List.set_cons_zero, List.set_cons_succ])
            refine wpAnyH_done (by kernel_rfl) ?_ _
            go_wp2_with fail
            go_meet
            exact ⟨V, ur, rfl, rfl, HVC9.out, HUR9.out, HV49.out, HV59.out, HBw9.out⟩
        · refine step_runs (some 12) rfl rfl (run_alloc_op _ 27 rfl [.int .u32 0, .int .u32 0, .bool false, .slice none 0 0] (by kernel_rfl)) ?_
          obtain ⟨W5, hW5⟩ : ∃ W, W = W4.drew.alloc (.cells #[.int .u32 0, .int .u32 0, .bool false, .slice none 0 0] 27) := ⟨_, rfl⟩
          obtain ⟨V, hV⟩ : ∃ V, V = W4.drew.heap.size := ⟨_, rfl⟩
          have HVC5 : Hid (W5.heap[V]? = some (.cells #[.int .u32 0, .int .u32 0, .bool false, .slice none 0 0] 27 (0, 0))) := Lib.hid (by rw [hW5, hV]; exact heap_alloc_new _ _)
          have hb5 : Below W4.drew.heap.size W4.drew W5 := by rw [hW5]; exact (Below.refl _ _).alloc (Nat.le_refl _) _
          have HVG : Hid (w.heap.size ≤ V) := Lib.hid (by rw [hV]; exact ((below_drew HBw4.out)).size)
          have HVN : Hid (V4 < V ∧ V5 < V) := Lib.hid (by rw [hV]; exact ⟨lt_of_block HV44.out, lt_of_block HV54.out⟩)
          rw [← hV]
          show K _ (W4.drew.alloc (.cells #[.int .u32 0, .int .u32 0, .bool false, .slice none 0 0] 27))
          rw [← hW5]
          clear hV hW5
          have HBw5 : Hid (Below w.heap.size w W5) := Lib.hid ((below_drew HBw4.out).trans (hb5.mono (below_drew HBw4.out).size))
          have HV45 : Hid (W5.heap[V4]? = some (.cells #[.int .u32 (t0 : Int), .int .u32 (p0 : Int), .bool L0, .slice a0 n0 c0] 27 (0, 0))) := Lib.hid ((hb5.block V4 (lt_of_block HV44.out)).trans HV44.out)
          have HV55 : Hid (W5.heap[V5]? = some (.cells #[.int .u32 (t1 : Int), .int .u32 (p1 : Int), .bool L1, .slice a1 n1 c1] 27 (0, 0))) := Lib.hid ((hb5.block V5 (lt_of_block HV54.out)).trans HV54.out)
          clear hb5
          refine hK.out _ _ (⟨HV45.out, HV55.out, HBw5.out⟩) (fun _ => ?_)
          clear hK K
          (try simp only [Act.put, List.setIfInBounds_toArray, List.set_cons_zero, List.set_cons_succ])
          refine wpAnyH_ready (rs := [7]) (by kernel_rfl) (by simp) (AllReadyH.cons rfl (fun K hK => ?_) AllReadyH.nil)
          obtain ⟨W6, bz, cz, hr6, _, hb6, hz6⟩ := text_bytes W5 R
          have HZL6 : Hid (Lies W6 (.slice (some ⟨bz, 0, none⟩) 64 cz) ZL) := Lib.hid (.inr (.inr ⟨bz, 0, cz, by rw [HL3.out.2.2], by have h := hz6; rw [HRZ.out, ords_strOf HZb.out] at h; exact h⟩))
          rw [hRs] at hr6
          refine step_runs (some 73) rfl rfl (run_text_op (.tmp 72) rfl rfl hr6) ?_
          clear hr6 hz6
          have HBw6 : Hid (Below w.heap.size w W6) := Lib.hid (HBw5.out.trans (hb6.mono HBw5.out.size))
          have HV46 : Hid (W6.heap[V4]? = some (.cells #[.int .u32 (t0 : Int), .int .u32 (p0 : Int), .bool L0, .slice a0 n0 c0] 27 (0, 0))) := Lib.hid ((hb6.block V4 (lt_of_block HV45.out)).trans HV45.out)
          have HV56 : Hid (W6.heap[V5]? = some (.cells #[.int .u32 (t1 : Int), .int .u32 (p1 : Int), .bool L1, .slice a1 n1 c1] 27 (0, 0))) := Lib.hid ((hb6.block V5 (lt_of_block HV55.out)).trans HV55.out)
          have HVC6 : Hid (W6.heap[V]? = some (.cells #[.int .u32 0, .int .u32 0, .bool false, .slice none 0 0] 27 (0, 0))) := Lib.hid ((hb6.block V (lt_of_block HVC5.out)).trans HVC5.out)
          clear hb6
          refine hK.out _ _ (⟨HV46.out, HV56.out, HBw6.out⟩) (fun _ => ?_)
          clear hK K
          (try simp only [Act.put, List.setIfInBounds_toArray, List.set_cons_zero, List.set_cons_succ])
          refine wpAnyH_ready (rs := [8]) (by kernel_rfl) (by simp) (AllReadyH.cons rfl (fun K hK => ?_) AllReadyH.nil)
          go_simp
          have hun := unpack_any HZL6.out HZb.out
          unfold Unpacked at hun
          rw [← HSU.out, ← HEU.out] at hun
          refine hun.mono ?_
          clear hun
          rintro e W7 ⟨ur, rfl, hl7, _, hb7⟩
          have HUR7 := Lib.hid hl7.lies
          clear hl7
          have HBw7 : Hid (Below w.heap.size w W7) := Lib.hid (HBw6.out.trans (hb7.mono HBw6.out.size))
          have HV47 : Hid (W7.heap[V4]? = some (.cells #[.int .u32 (t0 : Int), .int .u32 (p0 : Int), .bool L0, .slice a0 n0 c0] 27 (0, 0))) := Lib.hid ((hb7.block V4 (lt_of_block HV46.out)).trans HV46.out)
          have HV57 : Hid (W7.heap[V5]? = some (.cells #[.int .u32 (t1 : Int), .int .u32 (p1 : Int), .bool L1, .slice a1 n1 c1] 27 (0, 0))) := Lib.hid ((hb7.block V5 (lt_of_block HV56.out)).trans HV56.out)
          have HVC7 : Hid (W7.heap[V]? = some (.cells #[.int .u32 0, .int .u32 0, .bool false, .slice none 0 0] 27 (0, 0))) := Lib.hid ((hb7.block V (lt_of_block HVC6.out)).trans HVC6.out)
          have HZL7 : Hid (Lies W7 (.slice (some ⟨bz, 0, none⟩) 64 cz) ZL) := Lib.hid (lies_keep HZL6.out hb7)
          clear hb7
          unfold secV
          go_wp2_with fail
          refine hK.out _ _ (⟨HV47.out, HV57.out, HBw7.out⟩) (fun _ => ?_)
          clear hK K
          (try simp only [Act.put, List.setIfInBounds_toArray, List.set_cons_zero, List.set_cons_succ])
          refine anyH_take (i := 9) (some 65) (v := _) rfl rfl (by kernel_rfl) (by kernel_rfl) (by kernel_rfl) (fun _ _ _ h => h) (by rfl) (⟨HV47.out, HV57.out, HBw7.out⟩) (by intro w hSw; go_simp; try with_reducible rfl) ?_
          (try simp only [Act.put, List.setIfInBounds_toArray, List.set_cons_zero, List.set_cons_succ])
          refine anyH_take (i := 10) (some 75) (v := _) rfl rfl (by kernel_rfl) (by kernel_rfl) (by kernel_rfl) (fun _ _ _ h => h) (by rfl) (⟨HV47.out, HV57.out, HBw7.out⟩) (by intro w hSw; go_simp; try with_reducible rfl) ?_
          (try simp only [Act.put, List.setIfInBounds_toArray, List.set_cons_zero, List.set_cons_succ])
          refine anyH_take (i := 11) (some 76) (v := _) rfl rfl (by kernel_rfl) (by kernel_rfl) (by kernel_rfl) (fun _ _ _ h => h) (by rfl) (⟨HV47.out, HV57.out, HBw7.out⟩) (by intro w hSw; go_simp; try with_reducible rfl) ?_
          (try simp only [Act.put, List.setIfInBounds_toArray, List.set_cons_zero, List.set_cons_succ])
          refine wpAnyH_ready (rs := [13]) (by kernel_rfl) (by simp) (AllReadyH.cons rfl (fun K hK => ?_) AllReadyH.nil)
          refine step_store_part rfl 27 (.tmp 12) (.tmp 75) rfl V 0 [.int .u32 (st : Int), .int .u32 (sp : Int), .bool sl, ur] rfl rfl 27 [.int .u32 0, .int .u32 0, .bool false, .slice none 0 0] HVC7.out (by kernel_rfl) (by simp) (sec_one (lies_one HUR7.out)) rfl ?_
          obtain ⟨W9, hW9⟩ : ∃ W, W = W7.setRow V (splice [.int .u32 0, .int .u32 0, .bool false, .slice none 0 0] 0 [.int .u32 (st : Int), .int .u32 (sp : Int), .bool sl, ur]).toArray := ⟨_, rfl⟩
          show K _ (W7.setRow V (splice [.int .u32 0, .int .u32 0, .bool false, .slice none 0 0] 0 [.int .u32 (st : Int), .int .u32 (sp : Int), .bool sl, ur]).toArray)
          rw [← hW9]
          have HO9 : Hid (Only (fun b => b = V) W7 W9) := Lib.hid (by rw [hW9]; exact only_stRow _ _)
          have HVC9 : Hid (W9.heap[V]? = some (.cells #[.int .u32 (st : Int), .int .u32 (sp : Int), .bool sl, ur] 27 (0, 0))) := Lib.hid (by rw [hW9]; exact setRow_heap _ _ _ _ _ _ HVC7.out)
          clear hW9
          have HV49 : Hid (W9.heap[V4]? = some (.cells #[.int .u32 (t0 : Int), .int .u32 (p0 : Int), .bool L0, .slice a0 n0 c0] 27 (0, 0))) := Lib.hid ((HO9.out.block V4 (lt_of_block HV47.out) (by have := HVN.out; omega)).trans HV47.out)
          have HV59 : Hid (W9.heap[V5]? = some (.cells #[.int .u32 (t1 : Int), .int .u32 (p1 : Int), .bool L1, .slice a1 n1 c1] 27 (0, 0))) := Lib.hid ((HO9.out.block V5 (lt_of_block HV57.out) (by have := HVN.out; omega)).trans HV57.out)
          have HBw9 : Hid (Below w.heap.size w W9) := Lib.hid (HBw7.out.trans (HO9.out.below HBw7.out.size (fun b hb => hb ▸ HVG.out)))
          have HUR9 : Hid (Lies W9 ur sd) := Lib.hid (lies_only HUR7.out HO9.out (fun b off j x hb => no_bytes HVC7.out no_sec b off j x hb))
          refine hK.out _ _ (⟨HV49.out, HV59.out, HBw9.out⟩) (fun _ => ?_)
          clear hK K
          (try simp only [Act.put, List.setIfInBounds_toArray, List.set_cons_zero, List.set_cons_succ])
          refine anyH_take (i := 14) (some 13) (v := _) rfl rfl (by kernel_rfl) (by kernel_rfl) (by kernel_rfl) (fun _ _ _ h => h) (by rfl) (⟨HV49.out, HV59.out, HBw9.out⟩) (by intro w hSw; go_simp; try with_reducible rfl) ?_
          (try simp only [Act.put, List.setIfInBounds_toArray, List.set_cons_zero, List.set_cons_succ])
          refine wpAnyH_done (by kernel_rfl) ?_ _
          go_wp2_with fail
          go_meet
          exact ⟨V, ur, rfl, rfl, HVC9.out, HUR9.out, HV49.out, HV59.out, HBw9.out⟩
      case rest =>
        obtain ⟨V, ur, rfl, rfl, hv, hl, h4, h5, hb⟩ := hcut
        have HVC := Lib.hid hv
        have HUR := Lib.hid hl
        have HV4c := Lib.hid h4
        have HV5c := Lib.hid h5
        have HBc := Lib.hid hb
        clear hl hb
        obtain ⟨⟨x0, x1, x2, x3⟩, _, _, _, _⟩ := cells4 hv
        obtain ⟨⟨y0, y1, y2, y3⟩, _, _, _, _⟩ := cells4 h4
        obtain ⟨⟨z0, z1, z2, z3⟩, _, _, _, _⟩ := cells4 h5
        clear hv h4 h5
        have hsplit := unpack_torn HL3.out.1 HL3.out.2.1 HXb.out HYb.out hk64 (by rw [HXL.out]; exact ends_sec HOK1.out) (by rw [HYL.out]; exact ends_zero) (by rw [HXL.out, HYL.out]; exact ne_zero HOK1.out)
        rw [← HZL.out] at hsplit
        rcases hsplit with hz | hz | hz
        · have hs : (⟨st, sp, sl, sd⟩ : Sec) = ⟨t1, p1, L1, D1⟩ := by rw [HSU.out, hz, HXL.out]; exact unpackS_secB HOK1.out
          have he : eu = 0 := by rw [HEU.out, hz, HXL.out]; exact unpackE_secB HOK1.out
          cases hs
          subst he
          clear hz
          go_wp2_with fail
          refine (same_no (s := ⟨t1, p1, L1, D1⟩) (s' := ⟨t0, p0, L0, D0⟩) (u := ur) (u' := .slice a0 n0 c0) (by simp only; have := HNE.out; omega)).mono ?_
          rintro e W8 ⟨rfl, hb8⟩
          have HB8 : Hid (Below w.heap.size w W8) := Lib.hid (HBc.out.trans (hb8.mono HBc.out.size))
          have h48 : W8.heap[V4]? = some (.cells #[.int .u32 (t0 : Int), .int .u32 (p0 : Int), .bool L0, .slice a0 n0 c0] 27 (0, 0)) := (hb8.block V4 (lt_of_block HV4c.out)).trans HV4c.out
          have h58 : W8.heap[V5]? = some (.cells #[.int .u32 (t1 : Int), .int .u32 (p1 : Int), .bool L1, .slice a1 n1 c1] 27 (0, 0)) := (hb8.block V5 (lt_of_block HV5c.out)).trans HV5c.out
          have hv8 := (hb8.block V (lt_of_block HVC.out)).trans HVC.out
          obtain ⟨⟨i0, i1, i2, i3⟩, _, _, _, _⟩ := cells4 h58
          obtain ⟨⟨j0, j1, j2, j3⟩, _, _, _, _⟩ := cells4 hv8
          have HUR8 := Lib.hid (lies_keep HUR.out hb8)
          clear hb8 h48 h58 hv8
          go_wp2_with fail
          refine (same_yes (s := ⟨t1, p1, L1, D1⟩) HUR8.out (u' := .slice a1 n1 c1) (lies_keep HU1.out HB8.out)).mono ?_
          rintro e W9 ⟨rfl, hb9⟩
          have HB9 : Hid (Below w.heap.size w W9) := Lib.hid (HB8.out.trans (hb9.mono HB8.out.size))
          clear hb9
          go_wp2_with fail
          go_ret
          exact ⟨rfl, HB9.out⟩
        · have he : eu = 7 := by rw [HEU.out, hz, HYL.out]; exact unpackE_zero
          subst he
          clear hz
          go_wp2_with fail
          go_ret
          exact ⟨rfl, HBc.out⟩
        · have he : eu = 5 := by rw [HEU.out]; exact hz
          subst he
          clear hz
          go_wp2_with fail
          go_ret
          exact ⟨rfl, HBc.out⟩
    · go_upto_region 9 with (refine wpList_make_full _ rfl (.const (.int .i64 64)) (.const (.int .i64 64)) 25 rfl w3.heap.size 5 i0 _ 1 Try.underlying25 HI.out.1 HI.out.2.1 HI.out.2.2.1 .i64 .i64 64 64 64 rfl rfl rfl rfl HI.out.2.2.2 (by unfold maxLen; omega) (Nat.le_refl _) ?_; intro W4 hown hgr; rw [made_zero] at hown; have hb4 : Below w3.heap.size w3 W4 := (Only.grown hgr).below (Nat.le_refl _) (fun k hk => by cases hk); have hcv : (convert 25 9 (.slice (some ⟨w3.heap.size, 0, none⟩) 64 64)).run Try.prog W4 = .ok (.string ZS) W4 := (by rw [HZS.out]; exact text_of (ownsRow_lies hown) _ Try.underlying9); have HB4 := Lib.hid hb4; clear hb4 hown hgr)
      clear hcv
      try rw [hkk]
      clear hkk ek
      obtain ⟨XL, hXL⟩ : ∃ Z, Z = List.replicate 64 0 := ⟨_, rfl⟩
      obtain ⟨YL, hYL⟩ : ∃ Z, Z = secB ⟨t0, p0, L0, D0⟩ := ⟨_, rfl⟩
      have hX : ZS = strOf XL := by rw [hXL]; exact HZS.out
      have hY : YS = strOf YL := by rw [hYL]; exact HYS.out
      obtain ⟨ZL, hZL⟩ : ∃ Z, Z = XL.take kk ++ YL.drop kk := ⟨_, rfl⟩
      have hX64 : XL.length = 64 := by rw [← strOf_size, ← hX]; exact hzs
      have hY64 : YL.length = 64 := by rw [← strOf_size, ← hY]; exact hys
      have hZ64 : ZL.length = 64 := by rw [hZL]; exact torn_length hX64 hY64 hk64
      have hXb : ∀ x ∈ XL, x < 256 := by rw [hXL]; exact rep_small
      have hYb : ∀ x ∈ YL, x < 256 := by rw [hYL]; exact secB_small HOK0.out
      have hZb : ∀ x ∈ ZL, x < 256 := by rw [hZL]; intro x hx; rcases List.mem_append.1 hx with h | h; exact hXb x (List.mem_of_mem_take h); exact hYb x (List.mem_of_mem_drop h)
      obtain ⟨R1, hR1⟩ : ∃ R, R = ZS.extract 0 kk := ⟨_, rfl⟩
      obtain ⟨R2, hR2⟩ : ∃ R, R = YS.extract kk YS.size := ⟨_, rfl⟩
      obtain ⟨R, hR⟩ : ∃ R, R = R1 ++ R2 := ⟨_, rfl⟩
      have hRZ : R = strOf ZL := by rw [hR, hR1, hR2, hZL, strOf_append, hys, hX, hY, strOf_extract, strOf_extract, List.drop_zero, Nat.sub_zero, List.take_of_length_le (l := YL.drop kk) (by rw [List.length_drop]; omega)]
      have hRs : R.size = 64 := by rw [hRZ, strOf_size]; exact hZ64
      have HR1 := Lib.hid hR1
      have HR2 := Lib.hid hR2
      have HR := Lib.hid hR
      have HRZ := Lib.hid hRZ
      have HXL := Lib.hid hXL
      have HYL := Lib.hid hYL
      have HZL := Lib.hid hZL
      have HZb := Lib.hid hZb
      have HXb := Lib.hid hXb
      have HYb := Lib.hid hYb
      have HL3 := Lib.hid (And.intro hX64 (And.intro hY64 hZ64))
      clear hR1 hR2 hR hRZ hXL hYL hZL hZb hXb hYb hX hY hX64 hY64 hZ64
      have HBw4 : Hid (Below w.heap.size w W4) := Lib.hid (HB3.out.trans (HB4.out.mono HB3.out.size))
      have HV44 : Hid (W4.heap[V4]? = some (.cells #[.int .u32 (t0 : Int), .int .u32 (p0 : Int), .bool L0, .slice a0 n0 c0] 27 (0, 0))) := Lib.hid ((HB4.out.block V4 (lt_of_block HV43.out)).trans HV43.out)
      have HV54 : Hid (W4.heap[V5]? = some (.cells #[.int .u32 (t1 : Int), .int .u32 (p1 : Int), .bool L1, .slice a1 n1 c1] 27 (0, 0))) := Lib.hid ((HB4.out.block V5 (lt_of_block HV53.out)).trans HV53.out)
      obtain ⟨SU, hSU⟩ : ∃ s, s = stOf ZL := ⟨_, rfl⟩
      obtain ⟨eu, hEU⟩ : ∃ s, s = unpackE ZL := ⟨_, rfl⟩
      obtain ⟨st, sp, sl, sd⟩ := SU
      have HSU := Lib.hid hSU
      have HEU := Lib.hid hEU
      clear hSU hEU
      go_cut [12, 13] (fun s12 s13 W => ∃ (V : Nat) (u : Value), s12 = .pointer (some ⟨V, 0, none⟩) ∧ s13 = .int .i64 eu ∧ W.heap[V]? = some (.cells #[.int .u32 (st : Int), .int .u32 (sp : Int), .bool sl, u] 27 (0, 0)) ∧ Lies W u sd ∧ W.heap[V4]? = some (.cells #[.int .u32 (t0 : Int), .int .u32 (p0 : Int), .bool L0, .slice a0 n0 c0] 27 (0, 0)) ∧ W.heap[V5]? = some (.cells #[.int .u32 (t1 : Int), .int .u32 (p1 : Int), .bool L1, .slice a1 n1 c1] 27 (0, 0)) ∧ Below w.heap.size w W)
      case first =>
        refine wp_region_held_drew (S := fun W => W.heap[V4]? = some (.cells #[.int .u32 (t0 : Int), .int .u32 (p0 : Int), .bool L0, .slice a0 n0 c0] 27 (0, 0)) ∧ W.heap[V5]? = some (.cells #[.int .u32 (t1 : Int), .int .u32 (p1 : Int), .bool L1, .slice a1 n1 c1] 27 (0, 0)) ∧ Below w.heap.size w W) (by kernel_rfl) ⟨HV44.out, HV54.out, below_drew HBw4.out⟩ (fun _ => ?_)
        refine anyH_take (i := 0) (some 66) (v := _) rfl rfl (by kernel_rfl) (by kernel_rfl) (by kernel_rfl) (fun _ _ _ h => h) (by rfl) (⟨HV44.out, HV54.out, below_drew HBw4.out⟩) (by intro w hSw; go_simp; try with_reducible rfl) ?_
        (try simp only [Act.put, List.setIfInBounds_toArray, List.set_cons_zero, List.set_cons_succ])
        refine anyH_take (i := 1) (some 67) (v := _) rfl rfl (by kernel_rfl) (by kernel_rfl) (by kernel_rfl) (fun _ _ _ h => h) (by rfl) (⟨HV44.out, HV54.out, below_drew HBw4.out⟩) (by intro w hSw; go_simp; try with_reducible rfl) ?_
        (try simp only [Act.put, List.setIfInBounds_toArray, List.set_cons_zero, List.set_cons_succ])
        refine anyH_take (i := 2) (some 68) (v := _) rfl rfl (by kernel_rfl) (by kernel_rfl) (by kernel_rfl) (fun _ _ _ h => h) (by rfl) (⟨HV44.out, HV54.out, below_drew HBw4.out⟩) (fun W _ => run_text_hi W (.tmp 66) (.tmp 67) rfl ZS R1 kk rfl rfl (by omega) HR1.out.symm) ?_
        (try simp only [Act.put, List.setIfInBounds_toArray, List.set_cons_zero, List.set_cons_succ])
        refine anyH_take (i := 3) (some 69) (v := _) rfl rfl (by kernel_rfl) (by kernel_rfl) (by kernel_rfl) (fun _ _ _ h => h) (by rfl) (⟨HV44.out, HV54.out, below_drew HBw4.out⟩) (by intro w hSw; go_simp; try with_reducible rfl) ?_
        (try simp only [Act.put, List.setIfInBounds_toArray, List.set_cons_zero, List.set_cons_succ])
        refine anyH_take (i := 4) (some 70) (v := _) rfl rfl (by kernel_rfl) (by kernel_rfl) (by kernel_rfl) (fun _ _ _ h => h) (by rfl) (⟨HV44.out, HV54.out, below_drew HBw4.out⟩) (by intro w hSw; go_simp; try with_reducible rfl) ?_
        (try simp only [Act.put, List.setIfInBounds_toArray, List.set_cons_zero, List.set_cons_succ])
        refine anyH_take (i := 5) (some 71) (v := _) rfl rfl (by kernel_rfl) (by kernel_rfl) (by kernel_rfl) (fun _ _ _ h => h) (by rfl) (⟨HV44.out, HV54.out, below_drew HBw4.out⟩) (fun W _ => run_text_lo W (.tmp 69) (.tmp 70) rfl YS R2 kk rfl rfl (by omega) HR2.out.symm) ?_
        (try simp only [Act.put, List.setIfInBounds_toArray, List.set_cons_zero, List.set_cons_succ])
        refine anyH_take (i := 6) (some 72) (v := _) rfl rfl (by kernel_rfl) (by kernel_rfl) (by kernel_rfl) (fun _ _ _ h => h) (by rfl) (⟨HV44.out, HV54.out, below_drew HBw4.out⟩) (fun W _ => run_cat_op W (.tmp 68) (.tmp 71) rfl R1 R2 R rfl rfl HR.out.symm (by omega)) ?_
        (try simp only [Act.put, List.setIfInBounds_toArray, List.set_cons_zero, List.set_cons_succ])
        refine wpAnyH_ready (rs := [7, 12]) (by kernel_rfl) (by simp) (AllReadyH.cons rfl (fun K hK => ?_) (AllReadyH.cons rfl (fun K hK => ?_) AllReadyH.nil))
        · obtain ⟨W5, bz, cz, hr5, _, hb5, hz5⟩ := text_bytes W4.drew R
          have HZL5 : Hid (Lies W5 (.slice (some ⟨bz, 0, none⟩) 64 cz) ZL) := Lib.hid (.inr (.inr ⟨bz, 0, cz, by rw [HL3.out.2.2], by have h := hz5; rw [HRZ.out, ords_strOf HZb.out] at h; exact h⟩))
          rw [hRs] at hr5
          refine step_runs (some 73) rfl rfl (run_text_op (.tmp 72) rfl rfl hr5) ?_
          clear hr5 hz5
          have HBw5 : Hid (Below w.heap.size w W5) := Lib.hid ((below_drew HBw4.out).trans (hb5.mono (below_drew HBw4.out).size))
          have HV45 : Hid (W5.heap[V4]? = some (.cells #[.int .u32 (t0 : Int), .int .u32 (p0 : Int), .bool L0, .slice a0 n0 c0] 27 (0, 0))) := Lib.hid ((hb5.block V4 (lt_of_block HV44.out)).trans HV44.out)
          have HV55 : Hid (W5.heap[V5]? = some (.cells #[.int .u32 (t1 : Int), .int .u32 (p1 : Int), .bool L1, .slice a1 n1 c1] 27 (0, 0))) := Lib.hid ((hb5.block V5 (lt_of_block HV54.out)).trans HV54.out)
          clear hb5
          refine hK.out _ _ (⟨HV45.out, HV55.out, HBw5.out⟩) (fun _ => ?_)
          clear hK K
          (try simp only [Act.put, List.setIfInBounds_toArray, List.set_cons_zero, List.set_cons_succ])
          refine wpAnyH_ready (rs := [8, 12]) (by kernel_rfl) (by simp) (AllReadyH.cons rfl (fun K hK => ?_) (AllReadyH.cons rfl (fun K hK => ?_) AllReadyH.nil))
          · go_simp
            have hun := unpack_any HZL5.out HZb.out
            unfold Unpacked at hun
            rw [← HSU.out, ← HEU.out] at hun
            refine hun.mono ?_
            clear hun
            rintro e W6 ⟨ur, rfl, hl6, _, hb6⟩
            have HUR6 := Lib.hid hl6.lies
            clear hl6
            have HBw6 : Hid (Below w.heap.size w W6) := Lib.hid (HBw5.out.trans (hb6.mono HBw5.out.size))
            have HV46 : Hid (W6.heap[V4]? = some (.cells #[.int .u32 (t0 : Int), .int .u32 (p0 : Int), .bool L0, .slice a0 n0 c0] 27 (0, 0))) := Lib.hid ((hb6.block V4 (lt_of_block HV45.out)).trans HV45.out)
            have HV56 : Hid (W6.heap[V5]? = some (.cells #[.int .u32 (t1 : Int), .int .u32 (p1 : Int), .bool L1, .slice a1 n1 c1] 27 (0, 0))) := Lib.hid ((hb6.block V5 (lt_of_block HV55.out)).trans HV55.out)
            have HZL6 : Hid (Lies W6 (.slice (some ⟨bz, 0, none⟩) 64 cz) ZL) := Lib.hid (lies_keep HZL5.out hb6)
            clear hb6
            unfold secV
            go_wp2_with fail
            refine hK.out _ _ (⟨HV46.out, HV56.out, HBw6.out⟩) (fun _ => ?_)
            clear hK K
            (try simp only [Act.put, List.setIfInBounds_toArray, List.set_cons_zero, List.set_cons_succ])
            refine anyH_take (i := 9) (some 65) (v := _) rfl rfl (by kernel_rfl) (by kernel_rfl) (by kernel_rfl) (fun _ _ _ h => h) (by rfl) (⟨HV46.out, HV56.out, HBw6.out⟩) (by intro w hSw; go_simp; try with_reducible rfl) ?_
            (try simp only [Act.put, List.setIfInBounds_toArray, List.set_cons_zero, List.set_cons_succ])
            refine anyH_take (i := 10) (some 75) (v := _) rfl rfl (by kernel_rfl) (by kernel_rfl) (by kernel_rfl) (fun _ _ _ h => h) (by rfl) (⟨HV46.out, HV56.out, HBw6.out⟩) (by intro w hSw; go_simp; try with_reducible rfl) ?_
            (try simp only [Act.put, List.setIfInBounds_toArray, List.set_cons_zero, List.set_cons_succ])
            refine anyH_take (i := 11) (some 76) (v := _) rfl rfl (by kernel_rfl) (by kernel_rfl) (by kernel_rfl) (fun _ _ _ h => h) (by rfl) (⟨HV46.out, HV56.out, HBw6.out⟩) (by intro w hSw; go_simp; try with_reducible rfl) ?_
            (try simp only [Act.put, List.setIfInBounds_toArray, List.set_cons_zero, List.set_cons_succ])
            refine wpAnyH_ready (rs := [12]) (by kernel_rfl) (by simp) (AllReadyH.cons rfl (fun K hK => ?_) AllReadyH.nil)
            refine step_runs (some 12) rfl rfl (run_alloc_op _ 27 rfl [.int .u32 0, .int .u32 0, .bool false, .slice none 0 0] (by kernel_rfl)) ?_
            obtain ⟨W7, hW7⟩ : ∃ W, W = W6.alloc (.cells #[.int .u32 0, .int .u32 0, .bool false, .slice none 0 0] 27) := ⟨_, rfl⟩
            obtain ⟨V, hV⟩ : ∃ V, V = W6.heap.size := ⟨_, rfl⟩
            have HVC7 : Hid (W7.heap[V]? = some (.cells #[.int .u32 0, .int .u32 0, .bool false, .slice none 0 0] 27 (0, 0))) := Lib.hid (by rw [hW7, hV]; exact heap_alloc_new _ _)
            have hb7 : Below W6.heap.size W6 W7 := by rw [hW7]; exact (Below.refl _ _).alloc (Nat.le_refl _) _
            have HVG : Hid (w.heap.size ≤ V) := Lib.hid (by rw [hV]; exact (HBw6.out).size)
            have HVN : Hid (V4 < V ∧ V5 < V) := Lib.hid (by rw [hV]; exact ⟨lt_of_block HV46.out, lt_of_block HV56.out⟩)
            rw [← hV]
            show K _ (W6.alloc (.cells #[.int .u32 0, .int .u32 0, .bool false, .slice none 0 0] 27))
            rw [← hW7]
            clear hV hW7
            have HBw7 : Hid (Below w.heap.size w W7) := Lib.hid (HBw6.out.trans (hb7.mono HBw6.out.size))
            have HV47 : Hid (W7.heap[V4]? = some (.cells #[.int .u32 (t0 : Int), .int .u32 (p0 : Int), .bool L0, .slice a0 n0 c0] 27 (0, 0))) := Lib.hid ((hb7.block V4 (lt_of_block HV46.out)).trans HV46.out)
            have HV57 : Hid (W7.heap[V5]? = some (.cells #[.int .u32 (t1 : Int), .int .u32 (p1 : Int), .bool L1, .slice a1 n1 c1] 27 (0, 0))) := Lib.hid ((hb7.block V5 (lt_of_block HV56.out)).trans HV56.out)
            have HZL7 : Hid (Lies W7 (.slice (some ⟨bz, 0, none⟩) 64 cz) ZL) := Lib.hid (lies_keep HZL6.out hb7)
            have HUR7 : Hid (Lies W7 ur sd) := Lib.hid (lies_keep HUR6.out hb7)
            clear hb7
            refine hK.out _ _ (⟨HV47.out, HV57.out, HBw7.out⟩) (fun _ => ?_)
            clear hK K
            (try simp only [Act.put, List.setIfInBounds_toArray, List.set_cons_zero, List.set_cons_succ])
            refine wpAnyH_ready (rs := [13]) (by kernel_rfl) (by simp) (AllReadyH.cons rfl (fun K hK => ?_) AllReadyH.nil)
            refine step_store_part rfl 27 (.tmp 12) (.tmp 75) rfl V 0 [.int .u32 (st : Int), .int .u32 (sp : Int), .bool sl, ur] rfl rfl 27 [.int .u32 0, .int .u32 0, .bool false, .slice none 0 0] HVC7.out (by kernel_rfl) (by simp) (sec_one (lies_one HUR7.out)) rfl ?_
            obtain ⟨W9, hW9⟩ : ∃ W, W = W7.setRow V (splice [.int .u32 0, .int .u32 0, .bool false, .slice none 0 0] 0 [.int .u32 (st : Int), .int .u32 (sp : Int), .bool sl, ur]).toArray := ⟨_, rfl⟩
            show K _ (W7.setRow V (splice [.int .u32 0, .int .u32 0, .bool false, .slice none 0 0] 0 [.int .u32 (st : Int), .int .u32 (sp : Int), .bool sl, ur]).toArray)
            rw [← hW9]
            have HO9 : Hid (Only (fun b => b = V) W7 W9) := Lib.hid (by rw [hW9]; exact only_stRow _ _)
            have HVC9 : Hid (W9.heap[V]? = some (.cells #[.int .u32 (st : Int), .int .u32 (sp : Int), .bool sl, ur] 27 (0, 0))) := Lib.hid (by rw [hW9]; exact setRow_heap _ _ _ _ _ _ HVC7.out)
            clear hW9
            have HV49 : Hid (W9.heap[V4]? = some (.cells #[.int .u32 (t0 : Int), .int .u32 (p0 : Int), .bool L0, .slice a0 n0 c0] 27 (0, 0))) := Lib.hid ((HO9.out.block V4 (lt_of_block HV47.out) (by have := HVN.out; omega)).trans HV47.out)
            have HV59 : Hid (W9.heap[V5]? = some (.cells #[.int .u32 (t1 : Int), .int .u32 (p1 : Int), .bool L1, .slice a1 n1 c1] 27 (0, 0))) := Lib.hid ((HO9.out.block V5 (lt_of_block HV57.out) (by have := HVN.out; omega)).trans HV57.out)
            have HBw9 : Hid (Below w.heap.size w W9) := Lib.hid (HBw7.out.trans (HO9.out.below HBw7.out.size (fun b hb => hb ▸ HVG.out)))
            have HUR9 : Hid (Lies W9 ur sd) := Lib.hid (lies_only HUR7.out HO9.out (fun b off j x hb => no_bytes HVC7.out no_sec b off j x hb))
            refine hK.out _ _ (⟨HV49.out, HV59.out, HBw9.out⟩) (fun _ => ?_)
            clear hK K
            (try simp only [Act.put, List.setIfInBounds_toArray, List.set_cons_zero, List.set_cons_succ])
            refine anyH_take (i := 14) (some 13) (v := _) rfl rfl (by kernel_rfl) (by kernel_rfl) (by kernel_rfl) (fun _ _ _ h => h) (by rfl) (⟨HV49.out, HV59.out, HBw9.out⟩) (by intro w hSw; go_simp; try with_reducible rfl) ?_
            (try simp only [Act.put, List.setIfInBounds_toArray, List.set_cons_zero, List.set_cons_succ])
            refine wpAnyH_done (by kernel_rfl) ?_ _
            go_wp2_with fail
            go_meet
            exact ⟨V, ur, rfl, rfl, HVC9.out, HUR9.out, HV49.out, HV59.out, HBw9.out⟩
          · refine step_runs (some 12) rfl rfl (run_alloc_op _ 27 rfl [.int .u32 0, .int .u32 0, .bool false, .slice none 0 0] (by kernel_rfl)) ?_
            obtain ⟨W6, hW6⟩ : ∃ W, W = W5.alloc (.cells #[.int .u32 0, .int .u32 0, .bool false, .slice none 0 0] 27) := ⟨_, rfl⟩
            obtain ⟨V, hV⟩ : ∃ V, V = W5.heap.size := ⟨_, rfl⟩
            have HVC6 : Hid (W6.heap[V]? = some (.cells #[.int .u32 0, .int .u32 0, .bool false, .slice none 0 0] 27 (0, 0))) := Lib.hid (by rw [hW6, hV]; exact heap_alloc_new _ _)
            have hb6 : Below W5.heap.size W5 W6 := by rw [hW6]; exact (Below.refl _ _).alloc (Nat.le_refl _) _
            have HVG : Hid (w.heap.size ≤ V) := Lib.hid (by rw [hV]; exact (HBw5.out).size)
            have HVN : Hid (V4 < V ∧ V5 < V) := Lib.hid (by rw [hV]; exact ⟨lt_of_block HV45.out, lt_of_block HV55.out⟩)
            rw [← hV]
            show K _ (W5.alloc (.cells #[.int .u32 0, .int .u32 0, .bool false, .slice none 0 0] 27))
            rw [← hW6]
            clear hV hW6
            have HBw6 : Hid (Below w.heap.size w W6) := Lib.hid (HBw5.out.trans (hb6.mono HBw5.out.size))
            have HV46 : Hid (W6.heap[V4]? = some (.cells #[.int .u32 (t0 : Int), .int .u32 (p0 : Int), .bool L0, .slice a0 n0 c0] 27 (0, 0))) := Lib.hid ((hb6.block V4 (lt_of_block HV45.out)).trans HV45.out)
            have HV56 : Hid (W6.heap[V5]? = some (.cells #[.int .u32 (t1 : Int), .int .u32 (p1 : Int), .bool L1, .slice a1 n1 c1] 27 (0, 0))) := Lib.hid ((hb6.block V5 (lt_of_block HV55.out)).trans HV55.out)
            have HZL6 : Hid (Lies W6 (.slice (some ⟨bz, 0, none⟩) 64 cz) ZL) := Lib.hid (lies_keep HZL5.out hb6)
            clear hb6
            refine hK.out _ _ (⟨HV46.out, HV56.out, HBw6.out⟩) (fun _ => ?_)
            clear hK K
            (try simp only [Act.put, List.setIfInBounds_toArray, List.set_cons_zero, List.set_cons_succ])
            refine wpAnyH_ready (rs := [8]) (by kernel_rfl) (by simp) (AllReadyH.cons rfl (fun K hK => ?_) AllReadyH.nil)
            go_simp
            have hun := unpack_any HZL6.out HZb.out
            unfold Unpacked at hun
            rw [← HSU.out, ← HEU.out] at hun
            refine hun.mono ?_
            clear hun
            rintro e W7 ⟨ur, rfl, hl7, _, hb7⟩
            have HUR7 := Lib.hid hl7.lies
            clear hl7
            have HBw7 : Hid (Below w.heap.size w W7) := Lib.hid (HBw6.out.trans (hb7.mono HBw6.out.size))
            have HV47 : Hid (W7.heap[V4]? = some (.cells #[.int .u32 (t0 : Int), .int .u32 (p0 : Int), .bool L0, .slice a0 n0 c0] 27 (0, 0))) := Lib.hid ((hb7.block V4 (lt_of_block HV46.out)).trans HV46.out)
            have HV57 : Hid (W7.heap[V5]? = some (.cells #[.int .u32 (t1 : Int), .int .u32 (p1 : Int), .bool L1, .slice a1 n1 c1] 27 (0, 0))) := Lib.hid ((hb7.block V5 (lt_of_block HV56.out)).trans HV56.out)
            have HZL7 : Hid (Lies W7 (.slice (some ⟨bz, 0, none⟩) 64 cz) ZL) := Lib.hid (lies_keep HZL6.out hb7)
            have HVC7 : Hid (W7.heap[V]? = some (.cells #[.int .u32 0, .int .u32 0, .bool false, .slice none 0 0] 27 (0, 0))) := Lib.hid ((hb7.block V (lt_of_block HVC6.out)).trans HVC6.out)
            clear hb7
            unfold secV
            go_wp2_with fail
            refine hK.out _ _ (⟨HV47.out, HV57.out, HBw7.out⟩) (fun _ => ?_)
            clear hK K
            (try simp only [Act.put, List.setIfInBounds_toArray, List.set_cons_zero, List.set_cons_succ])
            refine anyH_take (i := 9) (some 65) (v := _) rfl rfl (by kernel_rfl) (by kernel_rfl) (by kernel_rfl) (fun _ _ _ h => h) (by rfl) (⟨HV47.out, HV57.out, HBw7.out⟩) (by intro w hSw; go_simp; try with_reducible rfl) ?_
            (try simp only [Act.put, List.setIfInBounds_toArray, List.set_cons_zero, List.set_cons_succ])
            refine anyH_take (i := 10) (some 75) (v := _) rfl rfl (by kernel_rfl) (by kernel_rfl) (by kernel_rfl) (fun _ _ _ h => h) (by rfl) (⟨HV47.out, HV57.out, HBw7.out⟩) (by intro w hSw; go_simp; try with_reducible rfl) ?_
            (try simp only [Act.put, List.setIfInBounds_toArray, List.set_cons_zero, List.set_cons_succ])
            refine anyH_take (i := 11) (some 76) (v := _) rfl rfl (by kernel_rfl) (by kernel_rfl) (by kernel_rfl) (fun _ _ _ h => h) (by rfl) (⟨HV47.out, HV57.out, HBw7.out⟩) (by intro w hSw; go_simp; try with_reducible rfl) ?_
            (try simp only [Act.put, List.setIfInBounds_toArray, List.set_cons_zero, List.set_cons_succ])
            refine wpAnyH_ready (rs := [13]) (by kernel_rfl) (by simp) (AllReadyH.cons rfl (fun K hK => ?_) AllReadyH.nil)
            refine step_store_part rfl 27 (.tmp 12) (.tmp 75) rfl V 0 [.int .u32 (st : Int), .int .u32 (sp : Int), .bool sl, ur] rfl rfl 27 [.int .u32 0, .int .u32 0, .bool false, .slice none 0 0] HVC7.out (by kernel_rfl) (by simp) (sec_one (lies_one HUR7.out)) rfl ?_
            obtain ⟨W9, hW9⟩ : ∃ W, W = W7.setRow V (splice [.int .u32 0, .int .u32 0, .bool false, .slice none 0 0] 0 [.int .u32 (st : Int), .int .u32 (sp : Int), .bool sl, ur]).toArray := ⟨_, rfl⟩
            show K _ (W7.setRow V (splice [.int .u32 0, .int .u32 0, .bool false, .slice none 0 0] 0 [.int .u32 (st : Int), .int .u32 (sp : Int), .bool sl, ur]).toArray)
            rw [← hW9]
            have HO9 : Hid (Only (fun b => b = V) W7 W9) := Lib.hid (by rw [hW9]; exact only_stRow _ _)
            have HVC9 : Hid (W9.heap[V]? = some (.cells #[.int .u32 (st : Int), .int .u32 (sp : Int), .bool sl, ur] 27 (0, 0))) := Lib.hid (by rw [hW9]; exact setRow_heap _ _ _ _ _ _ HVC7.out)
            clear hW9
            have HV49 : Hid (W9.heap[V4]? = some (.cells #[.int .u32 (t0 : Int), .int .u32 (p0 : Int), .bool L0, .slice a0 n0 c0] 27 (0, 0))) := Lib.hid ((HO9.out.block V4 (lt_of_block HV47.out) (by have := HVN.out; omega)).trans HV47.out)
            have HV59 : Hid (W9.heap[V5]? = some (.cells #[.int .u32 (t1 : Int), .int .u32 (p1 : Int), .bool L1, .slice a1 n1 c1] 27 (0, 0))) := Lib.hid ((HO9.out.block V5 (lt_of_block HV57.out) (by have := HVN.out; omega)).trans HV57.out)
            have HBw9 : Hid (Below w.heap.size w W9) := Lib.hid (HBw7.out.trans (HO9.out.below HBw7.out.size (fun b hb => hb ▸ HVG.out)))
            have HUR9 : Hid (Lies W9 ur sd) := Lib.hid (lies_only HUR7.out HO9.out (fun b off j x hb => no_bytes HVC7.out no_sec b off j x hb))
            refine hK.out _ _ (⟨HV49.out, HV59.out, HBw9.out⟩) (fun _ => ?_)
            clear hK K
            (try simp only [Act.put, List.setIfInBounds_toArray, List.set_cons_zero, List.set_cons_succ])
            refine anyH_take (i := 14) (some 13) (v := _) rfl rfl (by kernel_rfl) (by kernel_rfl) (by kernel_rfl) (fun _ _ _ h => h) (by rfl) (⟨HV49.out, HV59.out, HBw9.out⟩) (by intro w hSw; go_simp; try with_reducible rfl) ?_
            (try simp only [Act.put, List.setIfInBounds_toArray, List.set_cons_zero, List.set_cons_succ])
            refine wpAnyH_done (by kernel_rfl) ?_ _
            go_wp2_with fail
            go_meet
            exact ⟨V, ur, rfl, rfl, HVC9.out, HUR9.out, HV49.out, HV59.out, HBw9.out⟩
        · refine step_runs (some 12) rfl rfl (run_alloc_op _ 27 rfl [.int .u32 0, .int .u32 0, .bool false, .slice none 0 0] (by kernel_rfl)) ?_
          obtain ⟨W5, hW5⟩ : ∃ W, W = W4.drew.alloc (.cells #[.int .u32 0, .int .u32 0, .bool false, .slice none 0 0] 27) := ⟨_, rfl⟩
          obtain ⟨V, hV⟩ : ∃ V, V = W4.drew.heap.size := ⟨_, rfl⟩
          have HVC5 : Hid (W5.heap[V]? = some (.cells #[.int .u32 0, .int .u32 0, .bool false, .slice none 0 0] 27 (0, 0))) := Lib.hid (by rw [hW5, hV]; exact heap_alloc_new _ _)
          have hb5 : Below W4.drew.heap.size W4.drew W5 := by rw [hW5]; exact (Below.refl _ _).alloc (Nat.le_refl _) _
          have HVG : Hid (w.heap.size ≤ V) := Lib.hid (by rw [hV]; exact ((below_drew HBw4.out)).size)
          have HVN : Hid (V4 < V ∧ V5 < V) := Lib.hid (by rw [hV]; exact ⟨lt_of_block HV44.out, lt_of_block HV54.out⟩)
          rw [← hV]
          show K _ (W4.drew.alloc (.cells #[.int .u32 0, .int .u32 0, .bool false, .slice none 0 0] 27))
          rw [← hW5]
          clear hV hW5
          have HBw5 : Hid (Below w.heap.size w W5) := Lib.hid ((below_drew HBw4.out).trans (hb5.mono (below_drew HBw4.out).size))
          have HV45 : Hid (W5.heap[V4]? = some (.cells #[.int .u32 (t0 : Int), .int .u32 (p0 : Int), .bool L0, .slice a0 n0 c0] 27 (0, 0))) := Lib.hid ((hb5.block V4 (lt_of_block HV44.out)).trans HV44.out)
          have HV55 : Hid (W5.heap[V5]? = some (.cells #[.int .u32 (t1 : Int), .int .u32 (p1 : Int), .bool L1, .slice a1 n1 c1] 27 (0, 0))) := Lib.hid ((hb5.block V5 (lt_of_block HV54.out)).trans HV54.out)
          clear hb5
          refine hK.out _ _ (⟨HV45.out, HV55.out, HBw5.out⟩) (fun _ => ?_)
          clear hK K
          (try simp only [Act.put, List.setIfInBounds_toArray, List.set_cons_zero, List.set_cons_succ])
          refine wpAnyH_ready (rs := [7]) (by kernel_rfl) (by simp) (AllReadyH.cons rfl (fun K hK => ?_) AllReadyH.nil)
          obtain ⟨W6, bz, cz, hr6, _, hb6, hz6⟩ := text_bytes W5 R
          have HZL6 : Hid (Lies W6 (.slice (some ⟨bz, 0, none⟩) 64 cz) ZL) := Lib.hid (.inr (.inr ⟨bz, 0, cz, by rw [HL3.out.2.2], by have h := hz6; rw [HRZ.out, ords_strOf HZb.out] at h; exact h⟩))
          rw [hRs] at hr6
          refine step_runs (some 73) rfl rfl (run_text_op (.tmp 72) rfl rfl hr6) ?_
          clear hr6 hz6
          have HBw6 : Hid (Below w.heap.size w W6) := Lib.hid (HBw5.out.trans (hb6.mono HBw5.out.size))
          have HV46 : Hid (W6.heap[V4]? = some (.cells #[.int .u32 (t0 : Int), .int .u32 (p0 : Int), .bool L0, .slice a0 n0 c0] 27 (0, 0))) := Lib.hid ((hb6.block V4 (lt_of_block HV45.out)).trans HV45.out)
          have HV56 : Hid (W6.heap[V5]? = some (.cells #[.int .u32 (t1 : Int), .int .u32 (p1 : Int), .bool L1, .slice a1 n1 c1] 27 (0, 0))) := Lib.hid ((hb6.block V5 (lt_of_block HV55.out)).trans HV55.out)
          have HVC6 : Hid (W6.heap[V]? = some (.cells #[.int .u32 0, .int .u32 0, .bool false, .slice none 0 0] 27 (0, 0))) := Lib.hid ((hb6.block V (lt_of_block HVC5.out)).trans HVC5.out)
          clear hb6
          refine hK.out _ _ (⟨HV46.out, HV56.out, HBw6.out⟩) (fun _ => ?_)
          clear hK K
          (try simp only [Act.put, List.setIfInBounds_toArray, List.set_cons_zero, List.set_cons_succ])
          refine wpAnyH_ready (rs := [8]) (by kernel_rfl) (by simp) (AllReadyH.cons rfl (fun K hK => ?_) AllReadyH.nil)
          go_simp
          have hun := unpack_any HZL6.out HZb.out
          unfold Unpacked at hun
          rw [← HSU.out, ← HEU.out] at hun
          refine hun.mono ?_
          clear hun
          rintro e W7 ⟨ur, rfl, hl7, _, hb7⟩
          have HUR7 := Lib.hid hl7.lies
          clear hl7
          have HBw7 : Hid (Below w.heap.size w W7) := Lib.hid (HBw6.out.trans (hb7.mono HBw6.out.size))
          have HV47 : Hid (W7.heap[V4]? = some (.cells #[.int .u32 (t0 : Int), .int .u32 (p0 : Int), .bool L0, .slice a0 n0 c0] 27 (0, 0))) := Lib.hid ((hb7.block V4 (lt_of_block HV46.out)).trans HV46.out)
          have HV57 : Hid (W7.heap[V5]? = some (.cells #[.int .u32 (t1 : Int), .int .u32 (p1 : Int), .bool L1, .slice a1 n1 c1] 27 (0, 0))) := Lib.hid ((hb7.block V5 (lt_of_block HV56.out)).trans HV56.out)
          have HVC7 : Hid (W7.heap[V]? = some (.cells #[.int .u32 0, .int .u32 0, .bool false, .slice none 0 0] 27 (0, 0))) := Lib.hid ((hb7.block V (lt_of_block HVC6.out)).trans HVC6.out)
          have HZL7 : Hid (Lies W7 (.slice (some ⟨bz, 0, none⟩) 64 cz) ZL) := Lib.hid (lies_keep HZL6.out hb7)
          clear hb7
          unfold secV
          go_wp2_with fail
          refine hK.out _ _ (⟨HV47.out, HV57.out, HBw7.out⟩) (fun _ => ?_)
          clear hK K
          (try simp only [Act.put, List.setIfInBounds_toArray, List.set_cons_zero, List.set_cons_succ])
          refine anyH_take (i := 9) (some 65) (v := _) rfl rfl (by kernel_rfl) (by kernel_rfl) (by kernel_rfl) (fun _ _ _ h => h) (by rfl) (⟨HV47.out, HV57.out, HBw7.out⟩) (by intro w hSw; go_simp; try with_reducible rfl) ?_
          (try simp only [Act.put, List.setIfInBounds_toArray, List.set_cons_zero, List.set_cons_succ])
          refine anyH_take (i := 10) (some 75) (v := _) rfl rfl (by kernel_rfl) (by kernel_rfl) (by kernel_rfl) (fun _ _ _ h => h) (by rfl) (⟨HV47.out, HV57.out, HBw7.out⟩) (by intro w hSw; go_simp; try with_reducible rfl) ?_
          (try simp only [Act.put, List.setIfInBounds_toArray, List.set_cons_zero, List.set_cons_succ])
          refine anyH_take (i := 11) (some 76) (v := _) rfl rfl (by kernel_rfl) (by kernel_rfl) (by kernel_rfl) (fun _ _ _ h => h) (by rfl) (⟨HV47.out, HV57.out, HBw7.out⟩) (by intro w hSw; go_simp; try with_reducible rfl) ?_
          (try simp only [Act.put, List.setIfInBounds_toArray, List.set_cons_zero, List.set_cons_succ])
          refine wpAnyH_ready (rs := [13]) (by kernel_rfl) (by simp) (AllReadyH.cons rfl (fun K hK => ?_) AllReadyH.nil)
          refine step_store_part rfl 27 (.tmp 12) (.tmp 75) rfl V 0 [.int .u32 (st : Int), .int .u32 (sp : Int), .bool sl, ur] rfl rfl 27 [.int .u32 0, .int .u32 0, .bool false, .slice none 0 0] HVC7.out (by kernel_rfl) (by simp) (sec_one (lies_one HUR7.out)) rfl ?_
          obtain ⟨W9, hW9⟩ : ∃ W, W = W7.setRow V (splice [.int .u32 0, .int .u32 0, .bool false, .slice none 0 0] 0 [.int .u32 (st : Int), .int .u32 (sp : Int), .bool sl, ur]).toArray := ⟨_, rfl⟩
          show K _ (W7.setRow V (splice [.int .u32 0, .int .u32 0, .bool false, .slice none 0 0] 0 [.int .u32 (st : Int), .int .u32 (sp : Int), .bool sl, ur]).toArray)
          rw [← hW9]
          have HO9 : Hid (Only (fun b => b = V) W7 W9) := Lib.hid (by rw [hW9]; exact only_stRow _ _)
          have HVC9 : Hid (W9.heap[V]? = some (.cells #[.int .u32 (st : Int), .int .u32 (sp : Int), .bool sl, ur] 27 (0, 0))) := Lib.hid (by rw [hW9]; exact setRow_heap _ _ _ _ _ _ HVC7.out)
          clear hW9
          have HV49 : Hid (W9.heap[V4]? = some (.cells #[.int .u32 (t0 : Int), .int .u32 (p0 : Int), .bool L0, .slice a0 n0 c0] 27 (0, 0))) := Lib.hid ((HO9.out.block V4 (lt_of_block HV47.out) (by have := HVN.out; omega)).trans HV47.out)
          have HV59 : Hid (W9.heap[V5]? = some (.cells #[.int .u32 (t1 : Int), .int .u32 (p1 : Int), .bool L1, .slice a1 n1 c1] 27 (0, 0))) := Lib.hid ((HO9.out.block V5 (lt_of_block HV57.out) (by have := HVN.out; omega)).trans HV57.out)
          have HBw9 : Hid (Below w.heap.size w W9) := Lib.hid (HBw7.out.trans (HO9.out.below HBw7.out.size (fun b hb => hb ▸ HVG.out)))
          have HUR9 : Hid (Lies W9 ur sd) := Lib.hid (lies_only HUR7.out HO9.out (fun b off j x hb => no_bytes HVC7.out no_sec b off j x hb))
          refine hK.out _ _ (⟨HV49.out, HV59.out, HBw9.out⟩) (fun _ => ?_)
          clear hK K
          (try simp only [Act.put, List.setIfInBounds_toArray, List.set_cons_zero, List.set_cons_succ])
          refine anyH_take (i := 14) (some 13) (v := _) rfl rfl (by kernel_rfl) (by kernel_rfl) (by kernel_rfl) (fun _ _ _ h => h) (by rfl) (⟨HV49.out, HV59.out, HBw9.out⟩) (by intro w hSw; go_simp; try with_reducible rfl) ?_
          (try simp only [Act.put, List.setIfInBounds_toArray, List.set_cons_zero, List.set_cons_succ])
          refine wpAnyH_done (by kernel_rfl) ?_ _
          go_wp2_with fail
          go_meet
          exact ⟨V, ur, rfl, rfl, HVC9.out, HUR9.out, HV49.out, HV59.out, HBw9.out⟩
      case rest =>
        obtain ⟨V, ur, rfl, rfl, hv, hl, h4, h5, hb⟩ := hcut
        have HVC := Lib.hid hv
        have HUR := Lib.hid hl
        have HV4c := Lib.hid h4
        have HV5c := Lib.hid h5
        have HBc := Lib.hid hb
        clear hl hb
        obtain ⟨⟨x0, x1, x2, x3⟩, _, _, _, _⟩ := cells4 hv
        obtain ⟨⟨y0, y1, y2, y3⟩, _, _, _, _⟩ := cells4 h4
        obtain ⟨⟨z0, z1, z2, z3⟩, _, _, _, _⟩ := cells4 h5
        clear hv h4 h5
        have hsplit := unpack_torn HL3.out.1 HL3.out.2.1 HXb.out HYb.out hk64 (by rw [HXL.out]; exact ends_zero) (by rw [HYL.out]; exact ends_sec HOK0.out) (by rw [HXL.out, HYL.out]; exact (ne_zero HOK0.out).symm)
        rw [← HZL.out] at hsplit
        rcases hsplit with hz | hz | hz
        · have he : eu = 7 := by rw [HEU.out, hz, HXL.out]; exact unpackE_zero
          subst he
          clear hz
          go_wp2_with fail
          go_ret
          exact ⟨rfl, HBc.out⟩
        · have hs : (⟨st, sp, sl, sd⟩ : Sec) = ⟨t0, p0, L0, D0⟩ := by rw [HSU.out, hz, HYL.out]; exact unpackS_secB HOK0.out
          have he : eu = 0 := by rw [HEU.out, hz, HYL.out]; exact unpackE_secB HOK0.out
          cases hs
          subst he
          clear hz
          go_wp2_with fail
          refine (same_yes (s := ⟨t0, p0, L0, D0⟩) HUR.out (u' := .slice a0 n0 c0) (lies_keep HU0.out HBc.out)).mono ?_
          rintro e W8 ⟨rfl, hb8⟩
          have HB8 : Hid (Below w.heap.size w W8) := Lib.hid (HBc.out.trans (hb8.mono HBc.out.size))
          clear hb8
          go_wp2_with fail
          go_ret
          exact ⟨rfl, HB8.out⟩
        · have he : eu = 5 := by rw [HEU.out]; exact hz
          subst he
          clear hz
          go_wp2_with fail
          go_ret
          exact ⟨rfl, HBc.out⟩
end Go.Proofs.Ytmclhnbilghnjaa
