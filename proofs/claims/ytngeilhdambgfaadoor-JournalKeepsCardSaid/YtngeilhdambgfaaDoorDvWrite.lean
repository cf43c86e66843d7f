/- A writing. -/
import Derived.Test.YtngeilhdambgfaaDoorDvLaws
import Derived.Test.YtngeilhdambgfaaDoorDvUp
namespace Go.Proofs.YtngeilhdambgfaaDoor
open Go.RowKit

theorem src_of {w W : World} {a : Option Addr} {bs : List Nat} (h : bs ≠ [] → ∃ b off, a = some ⟨b, off, none⟩ ∧ BytesAt w b off bs) (hne : bs ≠ []) (hb : Below w.heap.size w W) : ∃ ad, a = some ad ∧ ∀ j v, (u8s bs)[j]? = some v → W.cell? (ad.add j) = some v := by
  obtain ⟨b, off, rfl, h1⟩ := h hne
  refine ⟨_, rfl, fun j v hv => ?_⟩
  have hj : j < bs.length := by have := (List.getElem?_eq_some_iff.1 hv).1; rwa [u8s_length] at this
  rw [u8s_getD bs j hj] at hv
  have h2 := h1 j hj
  rw [add_at, ← hv, ← h2]
  exact hb.cell (p := ⟨b, off + j, none⟩) (cell_lt h2)
/-- the device behind a writing that was taken -/
theorem write_end {w W2 W4 W5 W6 : World} {B P g1 g2 g3 cap3 at_ : Nat} {wv : Value} {d : Dev} {bs : List Nat} {o : Obj} (h : DevIn w B P g1 g2 wv d) (hlt : at_ < d.lies.length) (hlen : bs.length ≤ 64) (hb : Below w.heap.size w W2) (hg : (W2.drew.alloc o).grownBy W4 wv.ownBlock)
    (hown : W4.ownsRow B 64 65 (.slice (some ⟨g3, 0, none⟩) (d.waits.length + 1) cap3) (d.waits.length + 1) (wcells d.waits ++ wcell (at_, padB bs))) (hat : wv.ownBlock = some g3 ∨ g3 = (W2.drew.alloc o).heap.size)
    (o5 : Only (fun k => k = P) W4 W5) (o6 : Only (fun k => k = g2) W5 W6) (hP : Arr W5 P 56 ((dcells g1 g2 wv d).set 2 (.slice (some ⟨g3, 0, none⟩) (d.waits.length + 1) cap3))) (ht : Arr W6 g2 62 (u8s (d.write at_ bs).told.flatten)) :
    DevAt W6 B P (d.write at_ bs) ∧ Kept P w W6 := by
  have oA : Only (fun k => some k = wv.ownBlock) w W4 := (((only_beyond hb).trans (Only.drew (fun k => some k = wv.ownBlock) W2) (fun _ _ h => h)).trans (Only.alloc (fun k => some k = wv.ownBlock) W2.drew o) (fun _ _ h => h)).trans (Only.grown hg) (fun _ _ e => e.symm)
  have hlo : d.waits.length + 1 = (d.write at_ bs).waits.length := by simp [Dev.write]
  have hcs : wcells d.waits ++ wcell (at_, padB bs) = wcells (d.write at_ bs).waits := (wcells_snoc _ _).symm
  rw [hlo, hcs] at hown
  have e : (dcells g1 g2 wv d).set 2 (.slice (some ⟨g3, 0, none⟩) (d.waits.length + 1) cap3) = dcells g1 g2 (.slice (some ⟨g3, 0, none⟩) (d.waits.length + 1) cap3) (d.write at_ bs) := by simp [dcells, Dev.write]
  rw [e, hlo] at hP
  have n3 : g3 ≠ P := fun hh => by
    have h4 : Arr W4 P 56 (dcells g1 g2 wv d) := h.blk.only oA (fun e => h.neW e.symm)
    exact row_ne h4 hown (by decide) (by rw [hh]; rfl)
  have n4 : g3 ≠ g2 := fun hh => by
    have h4 : Arr W4 g2 62 (u8s d.told.flatten) := h.told.only oA (fun e => h.neW2 e.symm)
    exact row_ne h4 hown (by decide) (by rw [hh]; rfl)
  have h' : DevIn W6 B P g1 g2 (.slice (some ⟨g3, 0, none⟩) (d.write at_ bs).waits.length cap3) (d.write at_ bs) :=
    ⟨hP.only o6 (fun e => h.ne2 e), ((h.lies.only oA (fun e => h.neW1 e.symm)).only o5 (fun e => h.ne1 e.symm)).only o6 h.ne, ht, row_only (row_only hown o5 (fun k hk hh => n3 (by cases hk; exact hh))) o6 (fun k hk hh => n4 (by cases hk; exact hh)), h.ne, h.lo, Dev.write_ok h.ok hlt hlen⟩
  refine ⟨⟨g1, g2, _, h'⟩, ⟨((oA.mono (T := DBlk w P) (fun k _ hk => h.isW hk.symm)).trans o5 (fun _ _ hk => by rw [hk]; exact h.isP)).trans o6 (fun _ _ hk => by rw [hk]; exact h.is2), fun k hk => ?_⟩⟩
  rcases h'.blks hk with rfl | rfl | rfl | h1
  · exact .inl h.isP
  · exact .inl h.is1
  · exact .inl h.is2
  · cases h1
    rcases hat with h2 | h2
    · exact .inl (h.isW h2)
    · right; have := hb.size; simp at h2 ⊢; omega
set_option maxHeartbeats 16000000 in
set_option maxRecDepth 1000000 in
theorem write_ok {w : World} {B P at_ : Nat} {v : Value} {bs : List Nat} {d : Dev} (h : DevAt w B P d) (hB : B ≤ w.heap.size) (hv : Lies w v bs) (hup : d.down = false) (ha : d.after = 0) (hlt : at_ < d.lies.length) (hlen : bs.length ≤ 64) (hm : d.waits.length ≤ 1000000000) :
    Calls Tryd.prog 31 #[.pointer (some ⟨P, 0, none⟩), .int .i64 (at_ : Int), v] w fun e w' => e = .returned (.int .i64 0) ∧ DevAt w' B P (d.write at_ bs) ∧ Kept P w w' := by
  have HA := Lib.hid h
  obtain ⟨g1, g2, wv, h⟩ := h
  obtain ⟨_, c1, c2, _⟩ := h.cells
  have f2 := h.free 2
  obtain ⟨a, c, rfl, hform⟩ := lies_form hv
  have HF := Lib.hid hform
  have HD := Lib.hid h
  have hn8 : d.lies.length ≤ 8192 := h.ok.size
  obtain ⟨n, hn⟩ : ∃ n, n = d.lies.length := ⟨_, rfl⟩
  obtain ⟨l, hl⟩ : ∃ l, l = bs.length := ⟨_, rfl⟩
  have HN := Lib.hid hn
  have HL := Lib.hid hl
  rw [← hn] at c1 hlt hn8
  rw [← hl] at hlen ⊢
  clear h hn hl hv hform
  have t1 : decide ((at_ : Int) < 0) = false := by simp
  have t2 : decide ((n : Int) ≤ (at_ : Int)) = false := by simp; omega
  have t2' : decide ((at_ : Int) ≥ (n : Int)) = false := by simp; omega
  have t3 : decide ((64 : Int) < (l : Int)) = false := by simp; omega
  obtain ⟨Z, hZ⟩ : ∃ Z : List Nat, Z = List.replicate 64 0 := ⟨_, rfl⟩
  have HZ := Lib.hid hZ
  have HZL : Hid (Z.length = 64) := Lib.hid (by rw [hZ]; simp)
  clear hZ
  go_enter Tryd.func31, Tryd.ntmps31
  repeat (first | (refine wpList_alloc_zero rfl 62 rfl (u8s Z) (by rw [HZ.out]; kernel_rfl) ?_) | (refine wpList_copy_splice rfl (.tmp 24) (.tmp 25) 33 33 rfl 5 Tryd.underlying33 (by kernel_rfl) _ a 64 64 l c rfl rfl w'.heap.size 0 (u8s Z) 62 (arr_new w' _ (u8s Z)) (u8s bs) (by rw [u8s_length, ← HL.out]; exact (Nat.min_eq_left hlen).symm) (fun hp => ⟨rfl, src_of HF.out (by rw [u8s_length] at hp; exact fun e => by rw [e] at hp; simp at hp) ((Below.refl _ w').alloc (Nat.le_refl _) _)⟩) (by rw [u8s_length, u8s_length, HZL.out, ← HL.out]; omega) (u8s_one _) w'.heap.size w' ((Below.refl _ w').alloc (Nat.le_refl _) _) (Nat.le_refl _) ?_; intro W2 hA2 hB2) | (go_at_call 35; refine (down_any HA.out).mono ?_; rw [hup]; rintro e w' ⟨rfl, rfl⟩; dsimp only) | (go_at_call 32; refine (len_any HA.out).mono ?_; rw [← HN.out]; rintro e w' ⟨rfl, rfl⟩; dsimp only) | go_values | go_skip | go_guarded | go_step | go_upon)
  obtain ⟨S0, hS0⟩ : ∃ S, S = w'.heap.size := ⟨_, rfl⟩
  obtain ⟨pb, hpb⟩ : ∃ p, p = padB bs := ⟨_, rfl⟩
  have hpl : pb.length = 64 := by rw [hpb]; exact padB_length (by rw [← HL.out]; exact hlen)
  have HA2 : Hid (Arr W2 S0 62 (u8s pb)) := Lib.hid (by
    have h := hA2.out
    rw [u8s_splice, HZ.out, padB_splice (by rw [← HL.out]; exact hlen), ← hpb, ← hS0] at h
    exact h)
  rw [← hS0] at ⊢
  have HB2 := Lib.hid hB2
  have HSS : Hid ((Tryd.prog.info? 62).map (·.size) = some (u8s pb).length) := Lib.hid (sizeS (by rw [u8s_length]; exact hpl))
  have HD2 : Hid (DevIn W2 B P g1 g2 wv d) := Lib.hid (HD.out.only (only_beyond (S := fun _ => False) hB2) (fun _ _ h => h))
  have hB2' : B ≤ W2.heap.size := Nat.le_trans hB hB2.size
  have hwne : wv.ownBlock ≠ some S0 := fun e => by
    have h1 := (HD.out.waits.lt _ e).2
    omega
  have HPB := Lib.hid hpb
  have HS0 := Lib.hid hS0
  clear hA2 hB2 c1 c2 f2 hpb hS0
  refine wp_region_held_drew (S := fun W => Arr W S0 62 (u8s pb)) (by kernel_rfl) (Arr.only (w := W2) HA2.out (Only.drew (fun _ => False) W2) (fun h => h)) (fun hSd => ?_)
  have HSD := Lib.hid hSd
  clear hSd
  refine anyH_take (i := 0) (some 27) (v := _) rfl rfl (by kernel_rfl) (by kernel_rfl) (by kernel_rfl) (fun _ _ _ h => h) (by rfl) (HSD.out) (by intro w hSw; go_simp; try with_reducible rfl) ?_
  (try simp only [Act.put, List.setIfInBounds_toArray, List.set_cons_zero, List.set_cons_succ])
  refine anyH_take (i := 1) (some 28) (v := _) rfl rfl (by kernel_rfl) (by kernel_rfl) (by kernel_rfl) (fun _ _ _ h => h) (by rfl) (HSD.out) (by intro w hSw; go_simp; try with_reducible rfl) ?_
  (try simp only [Act.put, List.setIfInBounds_toArray, List.set_cons_zero, List.set_cons_succ])
  refine anyH_take (i := 2) (some 29) (v := _) rfl rfl (by kernel_rfl) (by kernel_rfl) (by kernel_rfl) (fun _ _ _ h => h) (by rfl) (HSD.out) (by intro w hSw; go_simp; try with_reducible rfl) ?_
  (try simp only [Act.put, List.setIfInBounds_toArray, List.set_cons_zero, List.set_cons_succ])
  refine anyH_take (i := 3) (some 30) (v := _) rfl rfl (by kernel_rfl) (by kernel_rfl) (by kernel_rfl) (fun _ _ _ h => h) (by rfl) (HSD.out) (by intro w hSw; go_simp; try with_reducible rfl) ?_
  (try simp only [Act.put, List.setIfInBounds_toArray, List.set_cons_zero, List.set_cons_succ])
  refine anyH_take (i := 5) (some 32) (v := _) rfl rfl (by kernel_rfl) (by kernel_rfl) (by kernel_rfl) (fun _ _ _ h => h) (by rfl) (HSD.out) (by intro w hSw; go_simp; try with_reducible rfl) ?_
  (try simp only [Act.put, List.setIfInBounds_toArray, List.set_cons_zero, List.set_cons_succ])
  refine anyH_take (i := 6) (some 33) (v := _) rfl rfl (by kernel_rfl) (by kernel_rfl) (by kernel_rfl) (fun _ _ _ h => h) (by rfl) (HSD.out) (fun W hW => run_load_part W 62 (.tmp 7) rfl S0 0 rfl (u8s pb) _ (fun j v hv => by rw [Nat.zero_add]; exact hW.cell hv) Tryd.underlying62 rfl HSS.out) ?_
  (try simp only [Act.put, List.setIfInBounds_toArray, List.set_cons_zero, List.set_cons_succ])
  refine anyH_take (i := 7) (some 34) (v := _) rfl rfl (by kernel_rfl) (by kernel_rfl) (by kernel_rfl) (fun _ _ _ h => h) (by rfl) (HSD.out) (fun W _ => run_built_op W 64 #[(0, .tmp 32), (1, .tmp 33)] rfl _ (by simp [Act.eval]) _ (built_writing (at_ : Int) (u8s pb) (by rw [u8s_length]; exact hpl))) ?_
  (try simp only [Act.put, List.setIfInBounds_toArray, List.set_cons_zero, List.set_cons_succ])
  obtain ⟨X, hX⟩ : ∃ X, X = wcell (at_, pb) := ⟨_, rfl⟩
  have hXL : X.length = 65 := by rw [hX]; exact wcell_length hpl
  rw [show (Value.int .i64 (at_ : Int) :: u8s pb) = X from hX.symm]
  have HX := Lib.hid hX
  clear hX
  refine wpAnyH_ready (rs := [4, 8]) (by kernel_rfl) (by simp) (AllReadyH.cons rfl (fun K hK => ?_) (AllReadyH.cons rfl (fun K hK => ?_) AllReadyH.nil))
  · refine step_runs (some 31) rfl rfl (run_load_one _ 52 (.tmp 30) rfl ⟨P, 2, none⟩ rfl wv _ (HD2.out.cells.2.2.1 : W2.drew.cell? _ = _) Tryd.underlying52 rfl) ?_
    refine hK.out _ _ (HSD.out) (fun _ => ?_)
    clear hK K
    (try simp only [Act.put, List.setIfInBounds_toArray, List.set_cons_zero, List.set_cons_succ])
    refine wpAnyH_ready (rs := [8]) (by kernel_rfl) (by simp) (AllReadyH.cons rfl (fun K hK => ?_) AllReadyH.nil)
    refine step_runs (some 35) rfl rfl (run_row_op _ 52 64 #[(0, .tmp 34)] rfl X 65 (by simp [Act.eval]) Tryd.underlying52 _ 72 infoW hXL (by omega) (by omega)) ?_
    refine hK.out _ _ (Arr.alloc (w := W2.drew) HSD.out _) (fun _ => ?_)
    clear hK K
    (try simp only [Act.put, List.setIfInBounds_toArray, List.set_cons_zero, List.set_cons_succ])
    refine wpAnyH_ready (rs := [9]) (by kernel_rfl) (by simp) (AllReadyH.cons rfl (fun K hK => ?_) AllReadyH.nil)
    refine step_append_w (some 36) rfl rfl (.tmp 31) (.tmp 35) rfl B wv _ _ rfl (HD2.out.waits.drew.alloc _) W2.drew.heap.size X rfl hXL (arr_new W2.drew _ X) (by rw [HX.out]; exact wcell_one _) hm (by simp; omega) _ rfl ?_
    intro g3 cap3 W4 hown4 hgrow4 hat4 hlt4
    have HS4 : Hid (Arr W4 S0 62 (u8s pb)) := Lib.hid ((Arr.alloc (w := W2.drew) HSD.out _).only (Only.grown hgrow4) (fun e => hwne e))
    have HP4 : Hid (Arr W4 P 56 (dcells g1 g2 wv d)) := Lib.hid ((Arr.alloc (w := W2.drew) HD2.out.blk _).only (Only.grown hgrow4) (fun e => HD2.out.neW e))
    have HO4 := Lib.hid hown4
    have HG4 := Lib.hid hgrow4
    have HAT4 := Lib.hid hat4
    clear hown4 hgrow4 hat4
    refine hK.out _ _ (HS4.out) (fun _ => ?_)
    clear hK K
    (try simp only [Act.put, List.setIfInBounds_toArray, List.set_cons_zero, List.set_cons_succ])
    refine anyH_take (i := 10) (some 37) (v := _) rfl rfl (by kernel_rfl) (by kernel_rfl) (by kernel_rfl) (fun _ _ _ h => h) (by rfl) (HS4.out) (by intro w hSw; go_simp; try with_reducible rfl) ?_
    (try simp only [Act.put, List.setIfInBounds_toArray, List.set_cons_zero, List.set_cons_succ])
    refine anyH_take (i := 11) (some 38) (v := _) rfl rfl (by kernel_rfl) (by kernel_rfl) (by kernel_rfl) (fun _ _ _ h => h) (by rfl) (HS4.out) (by intro w hSw; go_simp; try with_reducible rfl) ?_
    (try simp only [Act.put, List.setIfInBounds_toArray, List.set_cons_zero, List.set_cons_succ])
    refine wpAnyH_ready (rs := [12]) (by kernel_rfl) (by simp) (AllReadyH.cons rfl (fun K hK => ?_) AllReadyH.nil)
    refine step_store_one rfl rfl 52 (.tmp 38) (.tmp 36) rfl P 2 (.slice (some ⟨g3, 0, none⟩) (d.waits.length + 1) cap3) rfl rfl rfl rfl 56 _ HP4.out (by kernel_rfl) (by simp [dcells]) ?_
    refine hK.out _ _ (HS4.out.only (S := fun k => k = P) ⟨rfl, rfl, rfl, by simp, fun k hk hs => setRow_other W4 _ _ _ hs⟩ (fun e => arr_ne HP4.out HS4.out (by decide) e.symm)) (fun _ => ?_)
    clear hK K
    (try simp only [Act.put, List.setIfInBounds_toArray, List.set_cons_zero, List.set_cons_succ])
    refine wpAnyH_done (by kernel_rfl) ?_ _
    obtain ⟨V, hV⟩ : ∃ V, V = Value.slice (some ⟨g3, 0, none⟩) (d.waits.length + 1) cap3 := ⟨_, rfl⟩
    obtain ⟨W5, hW5⟩ : ∃ W5, W5 = W4.setRow P ((dcells g1 g2 wv d).set 2 (.slice (some ⟨g3, 0, none⟩) (d.waits.length + 1) cap3)).toArray := ⟨_, rfl⟩
    rw [← hW5]
    have HO5 : Hid (Only (fun k => k = P) W4 W5) := Lib.hid (by rw [hW5]; exact ⟨rfl, rfl, rfl, by simp, fun k hk hs => setRow_other W4 _ _ _ hs⟩)
    have HP5 : Hid (Arr W5 P 56 ((dcells g1 g2 wv d).set 2 (.slice (some ⟨g3, 0, none⟩) (d.waits.length + 1) cap3))) := Lib.hid (by rw [hW5]; exact setRow_heap _ _ _ _ _ _ HP4.out)
    have b1 : W5.cell? ⟨P, 1, none⟩ = some (.slice (some ⟨g2, 0, none⟩) n n) := by rw [HN.out]; exact HP5.out.cell rfl
    have HS5 : Hid (∀ j v, (u8s pb)[j]? = some v → W5.cell? ⟨S0, 0 + j, none⟩ = some v) := Lib.hid (fun j v hv => by rw [Nat.zero_add]; exact (HS4.out.only HO5.out (fun e => arr_ne HP4.out HS4.out (by decide) e.symm)).cell hv)
    have HT5 : Hid (Arr W5 g2 62 (u8s d.told.flatten)) := Lib.hid (((Arr.alloc (w := W2.drew) HD2.out.told _).only (Only.grown HG4.out) (fun e => HD2.out.neW2 e)).only HO5.out (fun e => HD2.out.ne2 e.symm))
    clear hW5 hV
    repeat (first | go_values | go_skip | go_guarded | go_step | go_upon)
    refine wp_region_still_tail 7 (by kernel_rfl) (by kernel_rfl) ?_
    simp only [List.take_succ_cons, List.take_zero, List.drop_succ_cons, List.drop_zero]
    iterate 5 still_step
    refine wpStill_value rfl (run_load_part _ 62 (.tmp 7) rfl S0 0 rfl (u8s pb) _ HS5.out Tryd.underlying62 rfl HSS.out) ?_
    (try simp only [Act.put, List.setIfInBounds_toArray, List.set_cons_zero, List.set_cons_succ])
    repeat still_step
    refine wpStill_nil ?_
    change wpList _ _ _ _ _ W5.drew
    have HTL : Hid (d.told.flatten.length = n * 64) := Lib.hid (by rw [flat_length HD.out.ok.told, d.told_length, HN.out])
    have HNX : Hid ((d.write at_ bs).told.flatten = splice d.told.flatten (at_ * 64) pb) := Lib.hid (by rw [d.write_told, HPB.out, flat_set HD.out.ok.told (by rw [d.told_length, ← HN.out]; exact hlt) (padB_length (by rw [← HL.out]; exact hlen))])
    have hmul := Nat.mul_le_mul_right 64 (show at_ + 1 ≤ n from hlt)
    have HTD : Hid (Arr W5.drew g2 62 (u8s d.told.flatten)) := Lib.hid (Arr.only (w := W5) HT5.out (Only.drew (fun _ => False) W5) (fun h => h))
    refine wpList_store_part rfl 62 (.tmp 45) (.tmp 44) rfl g2 (at_ * 64) (u8s pb) rfl rfl 62 (u8s d.told.flatten) HTD.out HSS.out (by rw [u8s_length, u8s_length, HTL.out, hpl]; omega) (u8s_one _) ?_
    refine wpList_name ?_
    intro W6 hW6
    have HR6 : Hid (Arr W6 g2 62 (u8s (d.write at_ bs).told.flatten)) := Lib.hid (by
      rw [HNX.out, ← u8s_splice, hW6.out]
      exact setRow_heap _ _ _ _ _ _ HTD.out)
    have HO6 : Hid (Only (fun k => k = g2) W5 W6) := Lib.hid (by
      rw [hW6.out]
      exact ⟨rfl, rfl, rfl, by simp, fun k hk hs => setRow_other W5.drew _ _ _ hs⟩)
    have HEND := Lib.hid (write_end HD.out (by rw [← HN.out]; exact hlt) (by rw [← HL.out]; exact hlen) HB2.out HG4.out (by have h := HO4.out; rw [HX.out, HPB.out] at h; exact h) HAT4.out HO5.out HO6.out HP5.out HR6.out)
    clear hW6 b1
    go_wp2_with (go_at_call 40; refine (count_none HEND.out.1 ha).mono ?_; rintro e w' ⟨rfl, rfl⟩)
    go_ret
    exact ⟨rfl, HEND.out.1, HEND.out.2⟩
  · refine step_runs (some 35) rfl rfl (run_row_op _ 52 64 #[(0, .tmp 34)] rfl X 65 (by simp [Act.eval]) Tryd.underlying52 _ 72 infoW hXL (by omega) (by omega)) ?_
    refine hK.out _ _ (Arr.alloc (w := W2.drew) HSD.out _) (fun _ => ?_)
    clear hK K
    (try simp only [Act.put, List.setIfInBounds_toArray, List.set_cons_zero, List.set_cons_succ])
    refine wpAnyH_ready (rs := [4]) (by kernel_rfl) (by simp) (AllReadyH.cons rfl (fun K hK => ?_) AllReadyH.nil)
    refine step_runs (some 31) rfl rfl (run_load_one _ 52 (.tmp 30) rfl ⟨P, 2, none⟩ rfl wv _ (by rw [← HD2.out.cells.2.2.1]; exact World.cell?_of_block (w := W2) (Below.heap_alloc _ _ _ (cell_lt HD2.out.cells.2.2.1))) Tryd.underlying52 rfl) ?_
    refine hK.out _ _ (Arr.alloc (w := W2.drew) HSD.out _) (fun _ => ?_)
    clear hK K
    (try simp only [Act.put, List.setIfInBounds_toArray, List.set_cons_zero, List.set_cons_succ])
    refine wpAnyH_ready (rs := [9]) (by kernel_rfl) (by simp) (AllReadyH.cons rfl (fun K hK => ?_) AllReadyH.nil)
    refine step_append_w (some 36) rfl rfl (.tmp 31) (.tmp 35) rfl B wv _ _ rfl (HD2.out.waits.drew.alloc _) W2.drew.heap.size X rfl hXL (arr_new W2.drew _ X) (by rw [HX.out]; exact wcell_one _) hm (by simp; omega) _ rfl ?_
    intro g3 cap3 W4 hown4 hgrow4 hat4 hlt4
    have HS4 : Hid (Arr W4 S0 62 (u8s pb)) := Lib.hid ((Arr.alloc (w := W2.drew) HSD.out _).only (Only.grown hgrow4) (fun e => hwne e))
    have HP4 : Hid (Arr W4 P 56 (dcells g1 g2 wv d)) := Lib.hid ((Arr.alloc (w := W2.drew) HD2.out.blk _).only (Only.grown hgrow4) (fun e => HD2.out.neW e))
    have HO4 := Lib.hid hown4
    have HG4 := Lib.hid hgrow4
    have HAT4 := Lib.hid hat4
    clear hown4 hgrow4 hat4
    refine hK.out _ _ (HS4.out) (fun _ => ?_)
    clear hK K
    (try simp only [Act.put, List.setIfInBounds_toArray, List.set_cons_zero, List.set_cons_succ])
    refine anyH_take (i := 10) (some 37) (v := _) rfl rfl (by kernel_rfl) (by kernel_rfl) (by kernel_rfl) (fun _ _ _ h => h) (by rfl) (HS4.out) (by intro w hSw; go_simp; try with_reducible rfl) ?_
    (try simp only [Act.put, List.setIfInBounds_toArray, List.set_cons_zero, List.set_cons_succ])
    refine anyH_take (i := 11) (some 38) (v := _) rfl rfl (by kernel_rfl) (by kernel_rfl) (by kernel_rfl) (fun _ _ _ h => h) (by rfl) (HS4.out) (by intro w hSw; go_simp; try with_reducible rfl) ?_
    (try simp only [Act.put, List.setIfInBounds_toArray, List.set_cons_zero, List.set_cons_succ])
    refine wpAnyH_ready (rs := [12]) (by kernel_rfl) (by simp) (AllReadyH.cons rfl (fun K hK => ?_) AllReadyH.nil)
    refine step_store_one rfl rfl 52 (.tmp 38) (.tmp 36) rfl P 2 (.slice (some ⟨g3, 0, none⟩) (d.waits.length + 1) cap3) rfl rfl rfl rfl 56 _ HP4.out (by kernel_rfl) (by simp [dcells]) ?_
    refine hK.out _ _ (HS4.out.only (S := fun k => k = P) ⟨rfl, rfl, rfl, by simp, fun k hk hs => setRow_other W4 _ _ _ hs⟩ (fun e => arr_ne HP4.out HS4.out (by decide) e.symm)) (fun _ => ?_)
    clear hK K
    (try simp only [Act.put, List.setIfInBounds_toArray, List.set_cons_zero, List.set_cons_succ])
    refine wpAnyH_done (by kernel_rfl) ?_ _
    obtain ⟨V, hV⟩ : ∃ V, V = Value.slice (some ⟨g3, 0, none⟩) (d.waits.length + 1) cap3 := ⟨_, rfl⟩
    obtain ⟨W5, hW5⟩ : ∃ W5, W5 = W4.setRow P ((dcells g1 g2 wv d).set 2 (.slice (some ⟨g3, 0, none⟩) (d.waits.length + 1) cap3)).toArray := ⟨_, rfl⟩
    rw [← hW5]
    have HO5 : Hid (Only (fun k => k = P) W4 W5) := Lib.hid (by rw [hW5]; exact ⟨rfl, rfl, rfl, by simp, fun k hk hs => setRow_other W4 _ _ _ hs⟩)
    have HP5 : Hid (Arr W5 P 56 ((dcells g1 g2 wv d).set 2 (.slice (some ⟨g3, 0, none⟩) (d.waits.length + 1) cap3))) := Lib.hid (by rw [hW5]; exact setRow_heap _ _ _ _ _ _ HP4.out)
    have b1 : W5.cell? ⟨P, 1, none⟩ = some (.slice (some ⟨g2, 0, none⟩) n n) := by rw [HN.out]; exact HP5.out.cell rfl
    have HS5 : Hid (∀ j v, (u8s pb)[j]? = some v → W5.cell? ⟨S0, 0 + j, none⟩ = some v) := Lib.hid (fun j v hv => by rw [Nat.zero_add]; exact (HS4.out.only HO5.out (fun e => arr_ne HP4.out HS4.out (by decide) e.symm)).cell hv)
    have HT5 : Hid (Arr W5 g2 62 (u8s d.told.flatten)) := Lib.hid (((Arr.alloc (w := W2.drew) HD2.out.told _).only (Only.grown HG4.out) (fun e => HD2.out.neW2 e)).only HO5.out (fun e => HD2.out.ne2 e.symm))
    clear hW5 hV
    repeat (first | go_values | go_skip | go_guarded | go_step | go_upon)
    refine wp_region_still_tail 7 (by kernel_rfl) (by kernel_rfl) ?_
    simp only [List.take_succ_cons, List.take_zero, List.drop_succ_cons, List.drop_zero]
    iterate 5 still_step
    refine wpStill_value rfl (run_load_part _ 62 (.tmp 7) rfl S0 0 rfl (u8s pb) _ HS5.out Tryd.underlying62 rfl HSS.out) ?_
    (try simp only [Act.put, List.setIfInBounds_toArray, List.set_cons_zero, List.set_cons_succ])
    repeat still_step
    refine wpStill_nil ?_
    change wpList _ _ _ _ _ W5.drew
    have HTL : Hid (d.told.flatten.length = n * 64) := Lib.hid (by rw [flat_length HD.out.ok.told, d.told_length, HN.out])
    have HNX : Hid ((d.write at_ bs).told.flatten = splice d.told.flatten (at_ * 64) pb) := Lib.hid (by rw [d.write_told, HPB.out, flat_set HD.out.ok.told (by rw [d.told_length, ← HN.out]; exact hlt) (padB_length (by rw [← HL.out]; exact hlen))])
    have hmul := Nat.mul_le_mul_right 64 (show at_ + 1 ≤ n from hlt)
    have HTD : Hid (Arr W5.drew g2 62 (u8s d.told.flatten)) := Lib.hid (Arr.only (w := W5) HT5.out (Only.drew (fun _ => False) W5) (fun h => h))
    refine wpList_store_part rfl 62 (.tmp 45) (.tmp 44) rfl g2 (at_ * 64) (u8s pb) rfl rfl 62 (u8s d.told.flatten) HTD.out HSS.out (by rw [u8s_length, u8s_length, HTL.out, hpl]; omega) (u8s_one _) ?_
    refine wpList_name ?_
    intro W6 hW6
    have HR6 : Hid (Arr W6 g2 62 (u8s (d.write at_ bs).told.flatten)) := Lib.hid (by
      rw [HNX.out, ← u8s_splice, hW6.out]
      exact setRow_heap _ _ _ _ _ _ HTD.out)
    have HO6 : Hid (Only (fun k => k = g2) W5 W6) := Lib.hid (by
      rw [hW6.out]
      exact ⟨rfl, rfl, rfl, by simp, fun k hk hs => setRow_other W5.drew _ _ _ hs⟩)
    have HEND := Lib.hid (write_end HD.out (by rw [← HN.out]; exact hlt) (by rw [← HL.out]; exact hlen) HB2.out HG4.out (by have h := HO4.out; rw [HX.out, HPB.out] at h; exact h) HAT4.out HO5.out HO6.out HP5.out HR6.out)
    clear hW6 b1
    go_wp2_with (go_at_call 40; refine (count_none HEND.out.1 ha).mono ?_; rintro e w' ⟨rfl, rfl⟩)
    go_ret
    exact ⟨rfl, HEND.out.1, HEND.out.2⟩
end Go.Proofs.YtngeilhdambgfaaDoor
