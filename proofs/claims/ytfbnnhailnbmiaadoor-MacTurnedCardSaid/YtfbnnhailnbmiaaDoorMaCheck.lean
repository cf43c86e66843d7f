/- Package mac: the name whose token a text is. -/
import Derived.Test.YtfbnnhailnbmiaaDoorMaTok
import Derived.Test.YtfbnnhailnbmiaaDoorMaSame
import Derived.Test.YtfbnnhailnbmiaaDoorMaStr
namespace Go.Proofs.YtfbnnhailnbmiaaDoor
open Go.RowKit

/-- what Check says of a text -/
def CheckIs (key : List Nat) (s n : ByteArray) (ok : Bool) : Prop := (ok = true ∧ ordsOf s = tokenB key (ordsOf n)) ∨ (ok = false ∧ n = ⟨#[]⟩ ∧ ∀ m, ordsOf s ≠ tokenB key m)
theorem ords_inj {s t : ByteArray} (h : ordsOf s = ordsOf t) : s = t := by rw [← strOf_ords s, ← strOf_ords t, h]
theorem ords_extract (s : ByteArray) (lo hi : Nat) : ordsOf (s.extract lo hi) = ((ordsOf s).drop lo).take (hi - lo) := by
  unfold ordsOf
  rw [ByteArray.data_extract, Array.toList_extract, List.extract_eq_take_drop, ← List.map_drop, ← List.map_take]

/-- an operation of a region that draws its order, by what its run gives -/
theorem step_run {P : Program} {ops : Array Oper} {o : Oper} {a : Act} {w w' : World} {K : Act → World → Prop} {Q : Exit → Act → World → Prop} {E : Prop} {v : Value} (hgd : o.guard = none) (hr : (execOp a.eval o).run P w = .ok (.value v) w')
    (h : K (a.put o.dst v) w') : if Region.wanted o (yielded ops a.tmps) = true then Oper.wp P o a w K Q else E := by
  rw [if_pos (by simp [Region.wanted, hgd])]
  unfold Oper.wp
  rw [hr]
  exact h
theorem run_text_op {w W : World} {o : Oper} {a : Act} (x : Operand) (ho : o.op = .convert 9 22 x) {s : ByteArray} {v : Value} (hx : a.eval x = .string s) (hr : (convert 9 22 (.string s)).run Tryd.prog w = .ok v W) :
    (execOp a.eval o).run Tryd.prog w = .ok (.value v) W := by
  unfold execOp
  simp only [ho, hx, Sem.run_bind, Sem.run_pure, Result.andThen_ok, hr]

set_option maxHeartbeats 8000000 in
set_option maxRecDepth 100000 in
theorem check_text {w : World} {vk : Value} {key : List Nat} {s : ByteArray} (hk : Lies w vk key) (hkf : Fits vk) (hkb : ∀ y ∈ key, y < 256) (hkn : key.length < 100000000) (hn : s.size < 100000000) (htab : Tabs w) :
    Calls Tryd.prog 11 #[vk, .string s] w fun e w' => (∃ n ok, e = .returned (.tuple #[.string n, .bool ok]) ∧ CheckIs key s n ok) ∧ Below w.heap.size w w' := by
  have HL := Lib.hid (last_dot w s (by omega))
  have HK := Lib.hid hk
  have HKF := Lib.hid hkf
  have HKB := Lib.hid hkb
  have HKN := Lib.hid hkn
  have HT := Lib.hid htab
  clear hk hkf hkb hkn htab
  go_enter Tryd.func11, Tryd.ntmps11
  repeat (first | go_values | go_skip | go_guarded | go_step | go_upon)
  refine HL.out.mono ?_
  rintro e w1 ⟨⟨r, rfl, hr⟩, rfl⟩
  rcases hr with ⟨hno, rfl⟩ | ⟨a, b, hs, hb, rfl⟩
  · have HC : Hid (CheckIs key s ⟨#[]⟩ false) := Lib.hid (.inr ⟨rfl, rfl, fun m h => hno (by rw [h]; simp [tokenB])⟩)
    clear hno
    dsimp only
    repeat (first | go_values | go_skip | go_guarded | go_step | go_upon)
    go_ret2
    exact ⟨⟨_, _, rfl, HC.out⟩, Below.refl _ _⟩
  · have HSZ : Hid (s.size = a.length + 1 + b.length) := Lib.hid (by have := congrArg List.length hs; rw [ordsOf_length] at this; simp at this; omega)
    obtain ⟨i, hi⟩ : ∃ i, i = a.length := ⟨_, rfl⟩
    obtain ⟨n, hnn⟩ : ∃ n, n = s.size := ⟨_, rfl⟩
    have hin : i < n := by have := HSZ.out; omega
    have ex1 : s.extract 0 i = strOf a := by
      apply ords_inj
      rw [ords_extract, hs, List.drop_zero, Nat.sub_zero, hi, List.take_left, ords_strOf (fun x hx => ordsOf_lt s x (by rw [hs]; simp [hx]))]
    have ex2 : s.extract (i + 1) s.size = strOf b := by
      apply ords_inj
      rw [ords_extract, hs, show a ++ 46 :: b = (a ++ [46]) ++ b by simp, List.drop_left' (by simp [hi]), List.take_of_length_le (by have := HSZ.out; omega), ords_strOf (fun x hx => ordsOf_lt s x (by rw [hs]; simp [hx]))]
    have HSA := Lib.hid hs
    have HBD := Lib.hid hb
    rw [← hi]
    clear hs hb hi
    dsimp only
    repeat (first | go_values | go_skip | go_guarded | go_step)
    have HEN : Hid (∀ W, Below w1.heap.size w1 W → Calls Tryd.prog 16 #[vk, .string (strOf a)] W fun e w' => (∃ v B, e = .returned v ∧ W.heap.size ≤ B ∧ w'.ownsRow B 5 1 v 32 (u8s (endB key a))) ∧ Below W.heap.size W w') := Lib.hid fun W hW => by
      have h := ending_text (name := strOf a) (lies_keep HK.out hW) HKF.out HKB.out HKN.out (by rw [strOf_size]; have := HSZ.out; omega) (HT.out.keep hW)
      rw [ords_strOf (fun x hx => ordsOf_lt s x (by rw [HSA.out]; simp [hx]))] at h
      exact h
    have HBB : Hid (∀ x ∈ b, x < 256) := Lib.hid fun x hx => ordsOf_lt s x (by rw [HSA.out]; simp [hx])
    have HBN : Hid (b.length < 1000000000) := Lib.hid (by have := HSZ.out; omega)
    have HTX : Hid (∀ W : World, ∃ W' g cap, (convert 9 22 (.string (strOf b))).run Tryd.prog W = .ok (.slice (some ⟨g, 0, none⟩) b.length cap) W' ∧ Below W.heap.size W W' ∧ Lies W' (.slice (some ⟨g, 0, none⟩) b.length cap) b) := Lib.hid fun W => by
      obtain ⟨W', g, cap, h1, _, h3, h4⟩ := text_bytes W (strOf b)
      rw [ords_strOf HBB.out] at h4
      rw [strOf_size] at h1
      exact ⟨W', g, cap, h1, h3, .inr (.inr ⟨g, 0, cap, rfl, h4⟩)⟩
    obtain ⟨Q, hQ⟩ : ∃ q : Bool, q = decide (endB key a = b) := ⟨_, rfl⟩
    have HQ := Lib.hid hQ
    clear hQ
    refine wp_region_held_drew (S := fun _ => True) (by kernel_rfl) trivial (fun _ => ?_)
    have HD : Hid (Below w1.heap.size w1 w1.drew) := Lib.hid (Below.refl _ _).drew
    obtain ⟨wd, hwd⟩ : ∃ W, W = w1.drew := ⟨_, rfl⟩
    rw [← hwd] at HD ⊢
    clear hwd
    refine anyH_take (i := 0) (some 15) (v := _) rfl rfl (by kernel_rfl) (by kernel_rfl) (by kernel_rfl) (fun _ _ _ h => h) (by rfl) trivial (by intro w hSw; go_simp; try with_reducible rfl) ?_
    (try simp only [Act.put, List.setIfInBounds_toArray, List.set_cons_zero, List.set_cons_succ])
    refine anyH_take (i := 1) (some 16) (v := _) rfl rfl (by kernel_rfl) (by kernel_rfl) (by kernel_rfl) (fun _ _ _ h => h) (by rfl) trivial (by intro w hSw; go_simp; try with_reducible rfl) ?_
    (try simp only [Act.put, List.setIfInBounds_toArray, List.set_cons_zero, List.set_cons_succ])
    refine anyH_take (i := 3) (some 18) (v := _) rfl rfl (by kernel_rfl) (by kernel_rfl) (by kernel_rfl) (fun _ _ _ h => h) (by rfl) trivial (by intro w hSw; go_simp; try with_reducible rfl) ?_
    (try simp only [Act.put, List.setIfInBounds_toArray, List.set_cons_zero, List.set_cons_succ])
    refine anyH_take (i := 4) (some 19) (v := _) rfl rfl (by kernel_rfl) (by kernel_rfl) (by kernel_rfl) (fun _ _ _ h => h) (by rfl) trivial (by intro w hSw; go_simp; try with_reducible rfl) ?_
    (try simp only [Act.put, List.setIfInBounds_toArray, List.set_cons_zero, List.set_cons_succ])
    refine anyH_take (i := 5) (some 20) (v := _) rfl rfl (by kernel_rfl) (by kernel_rfl) (by kernel_rfl) (fun _ _ _ h => h) (by rfl) trivial (by intro w hSw; go_simp; try with_reducible rfl) ?_
    (try simp only [Act.put, List.setIfInBounds_toArray, List.set_cons_zero, List.set_cons_succ])
    refine anyH_take (i := 6) (some 21) (v := .string (strOf b)) rfl rfl (by kernel_rfl) (by kernel_rfl) (by kernel_rfl) (fun _ _ _ h => h) (by rfl) trivial (by intro w hSw; go_simp; rw [show IntKind.i64.wrap ((i : Int) + 1) = ((i + 1 : Nat) : Int) by rw [IntKind.wrap_i64]; omega, if_pos (by omega), Int.toNat_natCast, ex2]) ?_
    (try simp only [Act.put, List.setIfInBounds_toArray, List.set_cons_zero, List.set_cons_succ])
    refine wpAnyH_ready (rs := [2, 7]) (by kernel_rfl) (by simp) (AllReadyH.cons rfl (fun K hK => ?_) (AllReadyH.cons rfl (fun K hK => ?_) AllReadyH.nil))
    · go_simp
      refine (HEN.out wd HD.out).mono ?_
      rintro e W1 ⟨⟨v, B, rfl, _, hown⟩, hb1⟩
      have HVL1 := Lib.hid (ownsRow_lies hown)
      have HB1 := Lib.hid (HD.out.trans (hb1.mono HD.out.size))
      clear hown hb1
      go_wp2_with fail
      refine hK.out _ _ trivial (fun _ => ?_)
      clear hK K
      (try simp only [Act.put, List.setIfInBounds_toArray, List.set_cons_zero, List.set_cons_succ])
      obtain ⟨W2, g, cap, hrun, hb2, hbl⟩ := HTX.out W1
      have HVL := Lib.hid (lies_keep HVL1.out hb2)
      have HBL := Lib.hid hbl
      have HB2 := Lib.hid (HB1.out.trans (hb2.mono HB1.out.size))
      clear hb2 hbl HVL1 HB1
      refine wpAnyH_ready (rs := [7]) (by kernel_rfl) (by simp) (AllReadyH.cons rfl (fun K hK => ?_) AllReadyH.nil)
      refine step_run rfl (run_text_op (.tmp 21) rfl rfl hrun) ?_
      refine hK.out _ _ trivial (fun _ => ?_)
      clear hK K hrun
      (try simp only [Act.put, List.setIfInBounds_toArray])
      refine wpAnyH_ready (rs := [8]) (by kernel_rfl) (by simp) (AllReadyH.cons rfl (fun K hK => ?_) AllReadyH.nil)
      go_simp
      refine (same_any HVL.out HBL.out (endB_lt _ _) HBB.out (by rw [endB_len]; decide) HBN.out).mono ?_
      rw [← HQ.out]
      rintro e W3 ⟨rfl, rfl⟩
      go_wp2_with fail
      refine hK.out _ _ trivial (fun _ => ?_)
      clear hK K
      (try simp only [Act.put, List.setIfInBounds_toArray, List.set_cons_zero, List.set_cons_succ])
      refine anyH_take (i := 9) (some 24) (v := _) rfl rfl (by kernel_rfl) (by kernel_rfl) (by kernel_rfl) (fun _ _ _ h => h) (by rfl) trivial (by intro w hSw; go_simp; try with_reducible rfl) ?_
      (try simp only [Act.put, List.setIfInBounds_toArray, List.set_cons_zero, List.set_cons_succ])
      refine wpAnyH_done (by kernel_rfl) ?_ _
      cases Q with
      | true =>
        have hq : endB key a = b := of_decide_eq_true HQ.out.symm
        have HC : Hid (CheckIs key s (strOf a) true) := Lib.hid (.inl ⟨rfl, by rw [HSA.out, ords_strOf (fun x hx => ordsOf_lt s x (by rw [HSA.out]; simp [hx])), ← hq]; rfl⟩)
        clear hq
        repeat (first | go_values | go_skip | go_guarded | go_step | go_upon)
        refine (clone_text _ (strOf a) (by rw [strOf_size]; have := HSZ.out; omega)).mono ?_
        rintro e W4 ⟨rfl, hb4⟩
        have HB4 := Lib.hid (HB2.out.trans (hb4.mono HB2.out.size))
        clear hb4
        dsimp only
        repeat (first | go_values | go_skip | go_guarded | go_step | go_upon)
        go_ret2
        exact ⟨⟨_, _, rfl, HC.out⟩, HB4.out⟩
      | false =>
        have hq : ¬ endB key a = b := of_decide_eq_false HQ.out.symm
        have HC : Hid (CheckIs key s ⟨#[]⟩ false) := Lib.hid (.inr ⟨rfl, rfl, fun m h => by
          rw [HSA.out] at h
          obtain ⟨h1, h2⟩ := dot_once h HBD.out (endB_dot key m)
          rw [h1, h2] at hq
          exact hq rfl⟩)
        clear hq
        repeat (first | go_values | go_skip | go_guarded | go_step | go_upon)
        go_ret2
        exact ⟨⟨_, _, rfl, HC.out⟩, HB2.out⟩
    · obtain ⟨W1, g, cap, hrun, hb1, hbl1⟩ := HTX.out wd
      have HB1 := Lib.hid (HD.out.trans (hb1.mono HD.out.size))
      have HBL1 := Lib.hid hbl1
      clear hb1 hbl1
      refine step_run rfl (run_text_op (.tmp 21) rfl rfl hrun) ?_
      refine hK.out _ _ trivial (fun _ => ?_)
      clear hK K hrun
      (try simp only [Act.put, List.setIfInBounds_toArray])
      refine wpAnyH_ready (rs := [2]) (by kernel_rfl) (by simp) (AllReadyH.cons rfl (fun K hK => ?_) AllReadyH.nil)
      go_simp
      refine (HEN.out W1 HB1.out).mono ?_
      rintro e W2 ⟨⟨v, B, rfl, _, hown⟩, hb2⟩
      have HVL := Lib.hid (ownsRow_lies hown)
      have HBL := Lib.hid (lies_keep HBL1.out hb2)
      have HB2 := Lib.hid (HB1.out.trans (hb2.mono HB1.out.size))
      clear hown hb2 HBL1 HB1
      go_wp2_with fail
      refine hK.out _ _ trivial (fun _ => ?_)
      clear hK K
      (try simp only [Act.put, List.setIfInBounds_toArray, List.set_cons_zero, List.set_cons_succ])
      refine wpAnyH_ready (rs := [8]) (by kernel_rfl) (by simp) (AllReadyH.cons rfl (fun K hK => ?_) AllReadyH.nil)
      go_simp
      refine (same_any HVL.out HBL.out (endB_lt _ _) HBB.out (by rw [endB_len]; decide) HBN.out).mono ?_
      rw [← HQ.out]
      rintro e W3 ⟨rfl, rfl⟩
      go_wp2_with fail
      refine hK.out _ _ trivial (fun _ => ?_)
      clear hK K
      (try simp only [Act.put, List.setIfInBounds_toArray, List.set_cons_zero, List.set_cons_succ])
      refine anyH_take (i := 9) (some 24) (v := _) rfl rfl (by kernel_rfl) (by kernel_rfl) (by kernel_rfl) (fun _ _ _ h => h) (by rfl) trivial (by intro w hSw; go_simp; try with_reducible rfl) ?_
      (try simp only [Act.put, List.setIfInBounds_toArray, List.set_cons_zero, List.set_cons_succ])
      refine wpAnyH_done (by kernel_rfl) ?_ _
      cases Q with
      | true =>
        have hq : endB key a = b := of_decide_eq_true HQ.out.symm
        have HC : Hid (CheckIs key s (strOf a) true) := Lib.hid (.inl ⟨rfl, by rw [HSA.out, ords_strOf (fun x hx => ordsOf_lt s x (by rw [HSA.out]; simp [hx])), ← hq]; rfl⟩)
        clear hq
        repeat (first | go_values | go_skip | go_guarded | go_step | go_upon)
        refine (clone_text _ (strOf a) (by rw [strOf_size]; have := HSZ.out; omega)).mono ?_
        rintro e W4 ⟨rfl, hb4⟩
        have HB4 := Lib.hid (HB2.out.trans (hb4.mono HB2.out.size))
        clear hb4
        dsimp only
        repeat (first | go_values | go_skip | go_guarded | go_step | go_upon)
        go_ret2
        exact ⟨⟨_, _, rfl, HC.out⟩, HB4.out⟩
      | false =>
        have hq : ¬ endB key a = b := of_decide_eq_false HQ.out.symm
        have HC : Hid (CheckIs key s ⟨#[]⟩ false) := Lib.hid (.inr ⟨rfl, rfl, fun m h => by
          rw [HSA.out] at h
          obtain ⟨h1, h2⟩ := dot_once h HBD.out (endB_dot key m)
          rw [h1, h2] at hq
          exact hq rfl⟩)
        clear hq
        repeat (first | go_values | go_skip | go_guarded | go_step | go_upon)
        go_ret2
        exact ⟨⟨_, _, rfl, HC.out⟩, HB2.out⟩
end Go.Proofs.YtfbnnhailnbmiaaDoor
