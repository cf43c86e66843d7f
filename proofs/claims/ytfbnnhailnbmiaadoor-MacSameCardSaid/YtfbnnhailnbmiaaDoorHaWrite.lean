/- Bytes written to a state. -/
import Derived.Test.YtfbnnhailnbmiaaDoorHaStir
import Derived.Test.YtfbnnhailnbmiaaDoorHaSt
import Derived.Test.YtfbnnhailnbmiaaDoorOpenBytes
namespace Go.Proofs.YtfbnnhailnbmiaaDoor
open Go.RowKit

/-- bytes that lie outside a block -/
def Off (w : World) (P : Nat) (v : Value) (cs : List Nat) : Prop :=
  (∃ a cap, v = .slice a 0 cap ∧ cs = []) ∨ ∃ b off cap, v = .slice (some ⟨b, off, none⟩) cs.length cap ∧ BytesAt w b off cs ∧ b ≠ P ∧ cs ≠ [] ∧ cs.length ≤ cap
def lenS : Value → Nat
  | .slice _ n _ => n
  | _ => 0
theorem bytes_only {S : Nat → Prop} {w w' : World} {b off : Nat} {l : List Nat} (h : BytesAt w b off l) (ho : Only S w w') (hS : ¬ S b) : BytesAt w' b off l := fun j hj => by
  have h1 := h j hj
  rw [← h1]; exact World.cell?_of_block (ho.block b (cell_lt h1) hS)

set_option maxHeartbeats 8000000 in
set_option maxRecDepth 1000000 in
theorem write_any {w : World} {P : Nat} {v : Value} {bs cs : List Nat} (h : St w P bs) (hv : Off w P v cs) (hc : ∀ x ∈ cs, x < 256) (hn : bs.length + cs.length < 1000000000) (htab : Tabs w) (hP0 : P ≠ 0) (hP1 : P ≠ 2) :
    Calls Tryd.prog 22 #[.pointer (some ⟨P, 0, none⟩), v] w fun e w' => e = .returned (.tuple #[]) ∧ St w' P (bs ++ cs) ∧ Only (fun k => k = P) w w' := by
  have HT := Lib.hid htab
  have HC := Lib.hid hc
  have HN := Lib.hid hn
  have HP0 := Lib.hid hP0
  have HP1 := Lib.hid hP1
  have HST := Lib.hid h
  have HV := Lib.hid hv
  clear htab hc hn hP0 hP1 h hv
  go_enter Tryd.func22, Tryd.ntmps22
  repeat (first | go_values | go_skip | go_guarded | go_step | go_upon)
  go_loopw [1] (fun c wr => ∃ dn rs : List Nat, cs = dn ++ rs ∧ Off wr P c rs ∧ St wr P (bs ++ dn) ∧ Only (fun k => k = P) w wr) (fun c _ => lenS c)
  case atStart => exact ⟨[], cs, rfl, HV.out, by simpa using HST.out, Only.refl _ _⟩
  case round =>
    obtain ⟨dn, rs, hcs, hoff, hst, ho⟩ := hrel
    have HO := Lib.hid ho
    have HTw := Lib.hid (HT.out.only ho (fun h => HP0.out h.symm) (fun h => HP1.out h.symm))
    clear HST HV ho
    rcases hoff with ⟨a, cap, rfl, rfl⟩ | ⟨b, off, cap, rfl, hby, hb, hne, hcap⟩
    · have HE : Hid (cs = dn) := Lib.hid (by simpa using hcs)
      have HST := Lib.hid hst
      clear hcs hst
      repeat (first | go_values | go_skip | go_guarded | go_step | go_upon)
      go_end0
      exact ⟨rfl, by rw [HE.out]; exact HST.out, HO.out⟩
    · have hpos : 0 < rs.length := List.length_pos_iff.2 hne
      have hbig : (bs ++ dn).length + rs.length < 1000000000 := by have := HN.out; rw [hcs] at this; simp at this ⊢; omega
      have hrb : ∀ x ∈ rs, x < 256 := fun x hx => HC.out x (by rw [hcs]; simp [hx])
      have HLEFT : Hid (∀ W, St W P (bs ++ dn) → Calls Tryd.prog 31 #[.pointer (some ⟨P, 0, none⟩)] W fun e w' => e = .returned (.int .i64 (((bs ++ dn).length % 64 : Nat) : Int)) ∧ w' = W) := Lib.hid fun W hW => left_any hW (by omega)
      obtain ⟨L, hL⟩ : ∃ L, L = (bs ++ dn).length := ⟨_, rfl⟩
      obtain ⟨r, hr⟩ : ∃ r, r = (bs ++ dn).length % 64 := ⟨_, rfl⟩
      rw [← hr] at HLEFT
      rw [← hL] at hbig
      have hr64 : r < 64 := by omega
      have hrl : (r : Int) ≤ 64 := by omega
      have hrn : r ≤ 64 := by omega
      have hr6 : ¬ ((64 : Nat) = r) := by omega
      have t0 : decide (0 < (rs.length : Int)) = true := by simp only [decide_eq_true_eq]; omega
      have HST := Lib.hid hst
      obtain ⟨m, hm⟩ : ∃ m, m = rs.length := ⟨_, rfl⟩
      rw [← hm] at t0 hpos hbig hcap ⊢
      have HM := Lib.hid hm
      have HL := Lib.hid hL
      have HR := Lib.hid hr
      have HBY := Lib.hid hby
      have HRB := Lib.hid hrb
      have HCS := Lib.hid hcs
      clear hm hL hr hby hrb hcs hst hne
      repeat (first | go_values | go_skip | go_guarded | go_step | go_upon)
      refine wp_region_still_tail 7 (by kernel_rfl) (by kernel_rfl) ?_
      simp only [List.take_succ_cons, List.take_zero, List.drop_succ_cons, List.drop_zero]
      repeat still_step
      still_call (HLEFT.out _ (HST.out.only (Only.drew (fun _ => False) wr) (fun h => h)))
      repeat still_step
      refine wpStill_nil ?_
      change wpList _ _ _ _ _ wr.drew
      obtain ⟨n, hn⟩ : ∃ n, n = min (64 - r) m := ⟨_, rfl⟩
      have hnm : n ≤ m := by omega
      have hn64 : n ≤ 64 - r := by omega
      have hn1 : 0 < n := by omega
      obtain ⟨p, hp⟩ : ∃ p, p = rs.take n := ⟨_, rfl⟩
      have hpl : p.length = n := by rw [hp, List.length_take, ← HM.out]; omega
      obtain ⟨s0, blk, harr, htold, hbyte⟩ := HST.out
      have harr2 : Arr wr.drew P 59 (stCells s0.words blk (bs ++ dn).length) := harr
      have hfit : (8 + r) + (u8s p).length ≤ (stCells s0.words blk (bs ++ dn).length).length := by rw [stCells_length _ rfl htold.len, u8s_length, hpl]; omega
      have hsrc : ∀ j v, (u8s p)[j]? = some v → wr.drew.cell? ((⟨b, off, none⟩ : Addr).add j) = some v := fun j v hv => by
        have hj : j < n := by have := (List.getElem?_eq_some_iff.1 hv).1; rw [u8s_length, hpl] at this; exact this
        have h2 := HBY.out j (by rw [← HM.out]; omega)
        rw [add_at]
        refine Eq.trans (b := wr.cell? ⟨b, off + j, none⟩) rfl ?_
        rw [h2, ← hv, u8s_getD p j (by omega), hp]
        simp [List.getD, hj]
      refine wpList_copy_own rfl (.tmp 15) (.tmp 16) 22 22 rfl 5 Tryd.underlying22 (by kernel_rfl) P (8 + r) (64 - r) (64 - r) ⟨b, off, none⟩ m cap rfl rfl (stCells s0.words blk (bs ++ dn).length).toArray 59 harr2 (u8s p) (by rw [u8s_length, hpl, hn]; exact Nat.min_comm _ _) hsrc hfit (u8s_one p) ?_
      refine wpList_name ?_
      intro W2 hW2
      rw [show (u8s p).length = n by rw [u8s_length, hpl]]
      simp only [goInt]
      obtain ⟨blk2, hblk2⟩ : ∃ b, b = splice blk r p := ⟨_, rfl⟩
      have hb2l : blk2.length = 64 := by rw [hblk2, length_splice _ _ _ (by have := htold.len; omega)]; exact htold.len
      have HA2 : Hid (Arr W2 P 59 (stCells s0.words blk2 L)) := Lib.hid (by
        rw [hW2.out, hblk2, HL.out, ← stCells_block rfl htold.len (by rw [hpl]; omega)]
        exact setRow_heap _ _ _ _ _ _ harr2)
      have HO2 : Hid (Only (fun k => k = P) w W2) := Lib.hid (by
        rw [hW2.out]
        refine HO.out.trans (T := fun k => k = P) ⟨rfl, rfl, rfl, by simp, fun k hk hs => ?_⟩ (fun _ _ h => h)
        exact setRow_other _ _ _ _ hs)
      have HBY2 : Hid (BytesAt W2 b off rs) := Lib.hid (by
        refine bytes_only (S := fun k => k = P) HBY.out ⟨by rw [hW2.out]; rfl, by rw [hW2.out]; rfl, by rw [hW2.out]; rfl, by rw [hW2.out]; simp, fun k hk hs => ?_⟩ hb
        rw [hW2.out]; exact setRow_other _ _ _ _ hs)
      have HTOLD := Lib.hid htold
      have HBLK := Lib.hid hblk2
      have HP := Lib.hid hp
      have HPL := Lib.hid hpl
      have HBS := Lib.hid hbyte
      have HNN := Lib.hid hn
      clear hW2 harr harr2 hfit hsrc hp hblk2 htold hpl hbyte hn
      have c72 := HA2.out.cell (stCells_count (n := L) (ws := s0.words) rfl hb2l)
      have q72 := HA2.out.free 72
      have e1 : IntKind.u64.wrap ((L : Int) + n) = ((L + n : Nat) : Int) := by rw [IntKind.wrap_u64]; omega
      have e2 : IntKind.u64.wrap (n : Int) = (n : Int) := by rw [IntKind.wrap_u64]; omega
      repeat (first | (refine wpList_tail rfl 22 (.tmp 18) (.tmp 19) rfl 5 Tryd.underlying22 (by kernel_rfl) b off m cap n .i64 rfl rfl hnm ?_; intro V hV) | go_values | go_skip | go_guarded | go_step | go_upon)
      refine calls_name ?_
      intro W4 hW4
      have HA4 : Hid (Arr W4 P 59 (stCells s0.words blk2 (L + n))) := Lib.hid (by
        rw [hW4.out, show ((L : Int) + n) = ((L + n : Nat) : Int) by omega, ← stCells_set (n := L) rfl hb2l]; exact HA2.out.set 72 _)
      have HO4 : Hid (Only (fun k => k = P) w W4) := Lib.hid (by
        rw [hW4.out]; exact HO2.out.trans (Only.setCell (S := fun k => k = P) W2 (p := ⟨P, 72, none⟩) rfl _) (fun _ _ h => h))
      have HBY4 : Hid (BytesAt W4 b off rs) := Lib.hid (by
        rw [hW4.out]; exact bytes_only HBY2.out (Only.setCell (S := fun k => k = P) W2 (p := ⟨P, 72, none⟩) rfl _) hb)
      have HT4 := Lib.hid (HT.out.only HO4.out (fun h => HP0.out h.symm) (fun h => HP1.out h.symm))
      have HOFF : Hid (∀ W, Only (fun k => k = P) W4 W → Off W P V (rs.drop n)) := Lib.hid (fun W hW => by
        rw [hV.out]
        by_cases hnm2 : n = m
        · exact .inl ⟨_, _, by unfold tailS; rw [hnm2, Nat.sub_self], List.drop_eq_nil_of_le (by rw [← HM.out]; omega)⟩
        · have hdl : (rs.drop n).length = m - n := by rw [List.length_drop, ← HM.out]
          refine .inr ⟨b, off + n, cap - n, by unfold tailS; rw [hdl, if_neg (by omega)], fun j hj => ?_, hb, fun h => by rw [h] at hdl; simp at hdl; omega, by omega⟩
          have h1 := bytes_only HBY4.out hW hb (n + j) (by rw [hdl] at hj; rw [← HM.out]; omega)
          rw [Nat.add_assoc, h1]
          simp [List.getD, List.getElem?_drop])
      have HVL : Hid (lenS V = m - n) := Lib.hid (by rw [hV.out]; rfl)
      have hrL : r = L % 64 := by rw [HR.out, HL.out]
      have HPB : Hid (∀ x ∈ p, x < 256) := Lib.hid (by rw [HP.out]; exact fun x hx => HRB.out x (List.mem_of_mem_take hx))
      have HCS2 : Hid (cs = (dn ++ p) ++ rs.drop n) := Lib.hid (by rw [HCS.out, HP.out, List.append_assoc, List.take_append_drop])
      have HBP : Hid (∀ x ∈ bs ++ dn ++ p, x < 256) := Lib.hid (by intro x hx; rcases List.mem_append.1 hx with h | h; exact HBS.out x h; exact HPB.out x h)
      have HLN : Hid (L + n = (bs ++ dn ++ p).length) := Lib.hid (by rw [List.length_append, HPL.out, ← HL.out])
      refine (left_cell (n := L + n) (HA4.out.cell (stCells_count (ws := s0.words) rfl hb2l)) (by omega)).mono ?_
      rintro e w' ⟨rfl, hw'⟩
      have hw' := hw'.symm
      subst hw'
      by_cases hful : r + n = 64
      · have t3 : ((L + n) % 64 : Nat) = 0 := by omega
        rw [t3]
        have HTO := told_full (p := p) HTOLD.out HPB.out (by rw [← HR.out, HPL.out]; exact hful)
        rw [← HR.out, ← HBLK.out] at HTO
        have HTO := Lib.hid HTO
        have HTOLD2 := Lib.hid HTOLD.out
        clear hW4 hV HST HTOLD HLEFT HA2 HBY HO2 HBY2 HT4 c72 q72 e1 e2 t0 hr6 hrl hrn
        dsimp only
        repeat (first | go_values | go_skip | go_guarded | go_step | go_upon)
        have HW0 : Hid (∀ j v, (u32s s0.words)[j]? = some v → W4.drew.cell? ⟨P, 0 + j, none⟩ = some v) := Lib.hid fun j v hv => by rw [Nat.zero_add]; exact Arr.cell (w := W4.drew) HA4.out (stCells_word hv)
        have HW8 : Hid (∀ j v, (u8s blk2)[j]? = some v → W4.drew.cell? ⟨P, 8 + j, none⟩ = some v) := Lib.hid fun j v hv => Arr.cell (w := W4.drew) HA4.out (stCells_byte rfl hv)
        have HZ8 : Hid ((Tryd.prog.info? 50).map (·.size) = some (u32s s0.words).length) := Lib.hid (by rw [u32s_length, Hs.words_length]; kernel_rfl)
        have HZ64 : Hid ((Tryd.prog.info? 34).map (·.size) = some (u8s blk2).length) := Lib.hid (by rw [u8s_length, hb2l]; kernel_rfl)
        have HTD : Hid (Tabs W4.drew) := Lib.hid (Tabs.only (w := W4) (HT.out.only HO4.out (fun h => HP0.out h.symm) (fun h => HP1.out h.symm)) (Only.drew (fun _ => False) W4) (fun h => h) (fun h => h))
        have HOK : Hid s0.ok := Lib.hid HTOLD2.out.ok
        have HBB : Hid (∀ x ∈ blk2, x < 256) := Lib.hid HTO.out.byte
        refine wp_region_held_drew (S := fun _ => True) (by kernel_rfl) trivial (fun _ => ?_)
        refine anyH_take (i := 0) (some 33) (v := _) rfl rfl (by kernel_rfl) (by kernel_rfl) (by kernel_rfl) (fun _ _ _ h => h) (by rfl) trivial (by intro w hSw; go_simp; try with_reducible rfl) ?_
        (try simp only [Act.put, List.setIfInBounds_toArray, List.set_cons_zero, List.set_cons_succ])
        refine anyH_take (i := 1) (some 34) (v := _) rfl rfl (by kernel_rfl) (by kernel_rfl) (by kernel_rfl) (fun _ _ _ h => h) (by rfl) trivial (by intro w hSw; go_simp; try with_reducible rfl) ?_
        (try simp only [Act.put, List.setIfInBounds_toArray, List.set_cons_zero, List.set_cons_succ])
        refine anyH_take (i := 2) (some 35) (v := _) rfl rfl (by kernel_rfl) (by kernel_rfl) (by kernel_rfl) (fun _ _ _ h => h) (by rfl) trivial (by intro w hSw; go_simp; try with_reducible rfl) ?_
        (try simp only [Act.put, List.setIfInBounds_toArray, List.set_cons_zero, List.set_cons_succ])
        refine anyH_take (i := 3) (some 36) (v := _) rfl rfl (by kernel_rfl) (by kernel_rfl) (by kernel_rfl) (fun _ _ _ h => h) (by rfl) trivial (by intro w hSw; go_simp; try with_reducible rfl) ?_
        (try simp only [Act.put, List.setIfInBounds_toArray, List.set_cons_zero, List.set_cons_succ])
        refine anyH_take (i := 5) (some 38) (v := _) rfl rfl (by kernel_rfl) (by kernel_rfl) (by kernel_rfl) (fun _ _ _ h => h) (by rfl) trivial (by intro w hSw; go_simp; try with_reducible rfl) ?_
        (try simp only [Act.put, List.setIfInBounds_toArray, List.set_cons_zero, List.set_cons_succ])
        refine anyH_take (i := 6) (some 39) (v := _) rfl rfl (by kernel_rfl) (by kernel_rfl) (by kernel_rfl) (fun _ _ _ h => h) (by rfl) trivial (by intro w hSw; go_simp; try with_reducible rfl) ?_
        (try simp only [Act.put, List.setIfInBounds_toArray, List.set_cons_zero, List.set_cons_succ])
        refine anyH_take (i := 7) (some 40) (v := _) rfl rfl (by kernel_rfl) (by kernel_rfl) (by kernel_rfl) (fun _ _ _ h => h) (by rfl) trivial (by intro w hSw; go_simp; try with_reducible rfl) ?_
        (try simp only [Act.put, List.setIfInBounds_toArray, List.set_cons_zero, List.set_cons_succ])
        refine wpAnyH_ready (rs := [4, 8]) (by kernel_rfl) (by simp) (AllReadyH.cons rfl (fun K hK => ?_) (AllReadyH.cons rfl (fun K hK => ?_) AllReadyH.nil))
        · refine step_value rfl (run_load_part _ 50 (.tmp 36) rfl P 0 rfl (u32s s0.words) _ HW0.out Tryd.underlying50 rfl HZ8.out) ?_
          refine hK.out _ _ trivial (fun _ => ?_)
          clear hK K
          (try simp only [Act.put, List.setIfInBounds_toArray])
          refine wpAnyH_ready (rs := [8]) (by kernel_rfl) (by simp) (AllReadyH.cons rfl (fun K hK => ?_) AllReadyH.nil)
          refine step_value rfl (run_load_part _ 34 (.tmp 40) rfl P 8 rfl (u8s blk2) _ HW8.out Tryd.underlying34 rfl HZ64.out) ?_
          refine hK.out _ _ trivial (fun _ => ?_)
          clear hK K
          (try simp only [Act.put])
          refine wpAnyH_ready (rs := [9]) (by kernel_rfl) (by simp) (AllReadyH.cons rfl (fun K hK => ?_) AllReadyH.nil)
          go_simp
          refine (stir_any HOK.out hb2l HBB.out _ HTD.out).mono ?_
          rintro e W5 ⟨rfl, hb5⟩
          have HB5 := Lib.hid hb5
          clear hb5
          go_wp2_with fail
          refine hK.out _ _ trivial (fun _ => ?_)
          clear hK K
          (try simp only [Act.put, List.setIfInBounds_toArray, List.set_cons_zero, List.set_cons_succ])
          refine anyH_take (i := 10) (some 43) (v := _) rfl rfl (by kernel_rfl) (by kernel_rfl) (by kernel_rfl) (fun _ _ _ h => h) (by rfl) trivial (by intro w hSw; go_simp; try with_reducible rfl) ?_
          (try simp only [Act.put, List.setIfInBounds_toArray, List.set_cons_zero, List.set_cons_succ])
          refine anyH_take (i := 11) (some 44) (v := _) rfl rfl (by kernel_rfl) (by kernel_rfl) (by kernel_rfl) (fun _ _ _ h => h) (by rfl) trivial (by intro w hSw; go_simp; try with_reducible rfl) ?_
          (try simp only [Act.put, List.setIfInBounds_toArray, List.set_cons_zero, List.set_cons_succ])
          have HA5 : Hid (Arr W5 P 59 (stCells s0.words blk2 (L + n))) := Lib.hid ((HB5.out.block _ (Arr.lt (w := W4.drew) HA4.out)).trans HA4.out)
          refine wpAnyH_ready (rs := [12]) (by kernel_rfl) (by simp) (AllReadyH.cons rfl (fun K hK => ?_) AllReadyH.nil)
          refine step_store_part rfl 50 (.tmp 44) (.tmp 42) rfl P 0 (u32s (comp s0 blk2).words) rfl rfl 59 (stCells s0.words blk2 (L + n)) HA5.out (by rw [u32s_length, Hs.words_length]; kernel_rfl) (by rw [stCells_length _ rfl hb2l, u32s_length, Hs.words_length]; omega) (u32s_one _) rfl ?_
          refine hK.out _ _ trivial (fun _ => ?_)
          clear hK K
          (try simp only [Act.put, List.setIfInBounds_toArray, List.set_cons_zero, List.set_cons_succ])
          obtain ⟨W6, hW6⟩ : ∃ W, W = W5.setRow P (splice (stCells s0.words blk2 (L + n)) 0 (u32s (comp s0 blk2).words)).toArray := ⟨_, rfl⟩
          rw [← hW6]
          have HA6 : Hid (Arr W6 P 59 (stCells (comp s0 blk2).words blk2 (L + n))) := Lib.hid (by
            rw [hW6, ← stCells_words (ws := s0.words) (ws' := (comp s0 blk2).words) rfl rfl]; exact setRow_heap _ _ _ _ _ _ HA5.out)
          have HO46 : Hid (Only (fun k => k = P) W4 W6) := Lib.hid (((Only.drew (fun k => k = P) W4).trans (only_beyond (S := fun k => k = P) HB5.out) (fun _ _ h => h)).trans (T := fun k => k = P) ⟨by rw [hW6]; rfl, by rw [hW6]; rfl, by rw [hW6]; rfl, by rw [hW6]; simp, fun k hk hs => by rw [hW6]; exact setRow_other _ _ _ _ hs⟩ (fun _ _ h => h))
          clear hW6
          refine wpAnyH_done (by kernel_rfl) ?_ _
          repeat (first | go_values | go_skip | go_guarded | go_step | go_upon)
          refine ⟨⟨dn ++ p, rs.drop n, HCS2.out, HOFF.out W6 HO46.out, ⟨comp s0 blk2, blk2, ?_, ?_, ?_⟩, HO4.out.trans HO46.out (fun _ _ h => h)⟩, ?_⟩
          · rw [← List.append_assoc, ← HLN.out]; exact HA6.out
          · rw [← List.append_assoc]; exact HTO.out
          · rw [← List.append_assoc]; exact HBP.out
          · rw [HVL.out]; simp only [lenS]; omega
        · refine step_value rfl (run_load_part _ 34 (.tmp 40) rfl P 8 rfl (u8s blk2) _ HW8.out Tryd.underlying34 rfl HZ64.out) ?_
          refine hK.out _ _ trivial (fun _ => ?_)
          clear hK K
          (try simp only [Act.put, List.setIfInBounds_toArray])
          refine wpAnyH_ready (rs := [4]) (by kernel_rfl) (by simp) (AllReadyH.cons rfl (fun K hK => ?_) AllReadyH.nil)
          refine step_value rfl (run_load_part _ 50 (.tmp 36) rfl P 0 rfl (u32s s0.words) _ HW0.out Tryd.underlying50 rfl HZ8.out) ?_
          refine hK.out _ _ trivial (fun _ => ?_)
          clear hK K
          (try simp only [Act.put])
          refine wpAnyH_ready (rs := [9]) (by kernel_rfl) (by simp) (AllReadyH.cons rfl (fun K hK => ?_) AllReadyH.nil)
          go_simp
          refine (stir_any HOK.out hb2l HBB.out _ HTD.out).mono ?_
          rintro e W5 ⟨rfl, hb5⟩
          have HB5 := Lib.hid hb5
          clear hb5
          go_wp2_with fail
          refine hK.out _ _ trivial (fun _ => ?_)
          clear hK K
          (try simp only [Act.put, List.setIfInBounds_toArray, List.set_cons_zero, List.set_cons_succ])
          refine anyH_take (i := 10) (some 43) (v := _) rfl rfl (by kernel_rfl) (by kernel_rfl) (by kernel_rfl) (fun _ _ _ h => h) (by rfl) trivial (by intro w hSw; go_simp; try with_reducible rfl) ?_
          (try simp only [Act.put, List.setIfInBounds_toArray, List.set_cons_zero, List.set_cons_succ])
          refine anyH_take (i := 11) (some 44) (v := _) rfl rfl (by kernel_rfl) (by kernel_rfl) (by kernel_rfl) (fun _ _ _ h => h) (by rfl) trivial (by intro w hSw; go_simp; try with_reducible rfl) ?_
          (try simp only [Act.put, List.setIfInBounds_toArray, List.set_cons_zero, List.set_cons_succ])
          have HA5 : Hid (Arr W5 P 59 (stCells s0.words blk2 (L + n))) := Lib.hid ((HB5.out.block _ (Arr.lt (w := W4.drew) HA4.out)).trans HA4.out)
          refine wpAnyH_ready (rs := [12]) (by kernel_rfl) (by simp) (AllReadyH.cons rfl (fun K hK => ?_) AllReadyH.nil)
          refine step_store_part rfl 50 (.tmp 44) (.tmp 42) rfl P 0 (u32s (comp s0 blk2).words) rfl rfl 59 (stCells s0.words blk2 (L + n)) HA5.out (by rw [u32s_length, Hs.words_length]; kernel_rfl) (by rw [stCells_length _ rfl hb2l, u32s_length, Hs.words_length]; omega) (u32s_one _) rfl ?_
          refine hK.out _ _ trivial (fun _ => ?_)
          clear hK K
          (try simp only [Act.put, List.setIfInBounds_toArray, List.set_cons_zero, List.set_cons_succ])
          obtain ⟨W6, hW6⟩ : ∃ W, W = W5.setRow P (splice (stCells s0.words blk2 (L + n)) 0 (u32s (comp s0 blk2).words)).toArray := ⟨_, rfl⟩
          rw [← hW6]
          have HA6 : Hid (Arr W6 P 59 (stCells (comp s0 blk2).words blk2 (L + n))) := Lib.hid (by
            rw [hW6, ← stCells_words (ws := s0.words) (ws' := (comp s0 blk2).words) rfl rfl]; exact setRow_heap _ _ _ _ _ _ HA5.out)
          have HO46 : Hid (Only (fun k => k = P) W4 W6) := Lib.hid (((Only.drew (fun k => k = P) W4).trans (only_beyond (S := fun k => k = P) HB5.out) (fun _ _ h => h)).trans (T := fun k => k = P) ⟨by rw [hW6]; rfl, by rw [hW6]; rfl, by rw [hW6]; rfl, by rw [hW6]; simp, fun k hk hs => by rw [hW6]; exact setRow_other _ _ _ _ hs⟩ (fun _ _ h => h))
          clear hW6
          refine wpAnyH_done (by kernel_rfl) ?_ _
          repeat (first | go_values | go_skip | go_guarded | go_step | go_upon)
          refine ⟨⟨dn ++ p, rs.drop n, HCS2.out, HOFF.out W6 HO46.out, ⟨comp s0 blk2, blk2, ?_, ?_, ?_⟩, HO4.out.trans HO46.out (fun _ _ h => h)⟩, ?_⟩
          · rw [← List.append_assoc, ← HLN.out]; exact HA6.out
          · rw [← List.append_assoc]; exact HTO.out
          · rw [← List.append_assoc]; exact HBP.out
          · rw [HVL.out]; simp only [lenS]; omega
      · have HTO := told_some (p := p) HTOLD.out HPB.out (by rw [← HR.out, HPL.out]; omega)
        rw [← HR.out, ← HBLK.out] at HTO
        have HTO := Lib.hid HTO
        have t3 : (((L + n) % 64 : Nat) == 0) = false := by simp; omega
        have t4 : ((((L + n) % 64 : Nat) : Int) == 0) = false := by simp; omega
        obtain ⟨lm, hlm⟩ : ∃ l, l = (L + n) % 64 := ⟨_, rfl⟩
        rw [← hlm] at t3 t4 ⊢
        clear hW4 hV HST HTOLD HLEFT HA2 HBY HO2 HBY2 HT4 c72 q72 e1 e2 t0 hr6 hrl hrn
        dsimp only
        repeat (first | go_values | go_skip | go_guarded | go_step | go_upon)
        refine ⟨⟨dn ++ p, rs.drop n, HCS2.out, HOFF.out W4 (Only.refl _ _), ⟨s0, blk2, ?_, ?_, ?_⟩, HO4.out⟩, ?_⟩
        · rw [← List.append_assoc, ← HLN.out]; exact HA4.out
        · rw [← List.append_assoc]; exact HTO.out
        · rw [← List.append_assoc]; exact HBP.out
        · rw [HVL.out]; simp only [lenS]; omega
end Go.Proofs.YtfbnnhailnbmiaaDoor
