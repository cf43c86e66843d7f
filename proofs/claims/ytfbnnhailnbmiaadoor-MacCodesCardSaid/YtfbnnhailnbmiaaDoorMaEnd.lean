/- Package mac: the signs of a name's code. -/
import Derived.Test.YtfbnnhailnbmiaaDoorMaCode
import Derived.Test.YtfbnnhailnbmiaaDoorTextB
namespace Go.Proofs.YtfbnnhailnbmiaaDoor
open Go.RowKit

def hexT : ByteArray := ⟨#[48, 49, 50, 51, 52, 53, 54, 55, 56, 57, 97, 98, 99, 100, 101, 102]⟩
theorem hex_at : ∀ n, n < 16 → (hexT.data[n]?).map UInt8.toNat = some (signB n) := by decide +kernel

/-- a sign of sixteen -/
theorem run_hex_op (w : World) {o : Oper} {a : Act} (x : Operand) (ho : o.op = .index 9 (.const (.string ⟨#[48, 49, 50, 51, 52, 53, 54, 55, 56, 57, 97, 98, 99, 100, 101, 102]⟩)) x) (n : Nat) (hx : a.eval x = .int .u8 (n : Int)) (h : n < 16) :
    (execOp a.eval o).run Tryd.prog w = .ok (.value (.int .u8 ((signB n : Nat) : Int))) w := by
  have hr : (Instr.index 9 (.string hexT) (.int .u8 (n : Int))).run Tryd.prog w = .ok (.int .u8 ((signB n : Nat) : Int)) w := by
    have hs : hexT.size = 16 := rfl
    have hg := hex_at n h
    have hn : n < hexT.data.size := h
    rw [Array.getElem?_eq_getElem hn, Option.map_some] at hg
    rw [run_index_string w _ _ _ _ Tryd.underlying9]
    rw [dif_pos (by rw [hs]; omega)]
    have e : hexT[(n : Int).toNat]'(by rw [hs]; omega) = hexT.data[n] := rfl
    rw [e, Option.some.inj hg]
  unfold execOp
  have hc : a.eval (.const (.string hexT)) = .string hexT := rfl
  simp only [ho, hx, Sem.run_bind, Sem.run_pure]
  rw [show (⟨#[48, 49, 50, 51, 52, 53, 54, 55, 56, 57, 97, 98, 99, 100, 101, 102]⟩ : ByteArray) = hexT from rfl, hc, hr]
  rfl
theorem fill_two (z : Array Value) (a b : Int) : Instr.fill (fun i => some (i * 1, 1)) ((Array.range (2 * 1)).map (z[· % z.size]!)) [(0, .int .u8 a), (1, .int .u8 b)] = some #[.int .u8 a, .int .u8 b] :=
  Great.fill_flat [Value.int .u8 a, Value.int .u8 b] ((Array.range (2 * 1)).map (z[· % z.size]!)) (fun v hv => by rcases List.mem_cons.1 hv with rfl | hv; rfl; rw [List.mem_singleton.1 hv]; rfl) (by simp)
theorem step_buildSlice {P : Program} {ops : Array Oper} {o : Oper} {a : Act} {w : World} {K : Act → World → Prop} {Q : Exit → Act → World → Prop} {E : Prop} (hgd : o.guard = none) (t e : TypeId) (len : Nat) (parts : Array (Nat × Operand)) (ho : o.op = .buildSlice t len parts)
    (cells : Array Value) (ie : TypeInfo) (z : Value)
    (hu : P.underlying t = some (.slice e)) (hie : P.info? e = some ie) (hz : ie.zero = some z) (hsmall : ¬ len * ie.size > 2 ^ 24) (hpos : ¬ len * ie.size = 0)
    (hf : Instr.fill (fun i => some (i * ie.size, ie.size)) ((Array.range (len * ie.size)).map (z.cells[· % z.cells.size]!)) (parts.map fun (i, x) => (i, a.eval x)).toList = some cells)
    (h : K (a.put o.dst (.slice (some ⟨w.heap.size, 0, none⟩) len len)) (w.alloc (.cells cells e))) : if Region.wanted o (yielded ops a.tmps) = true then Oper.wp P o a w K Q else E := by
  rw [if_pos (by simp [Region.wanted, hgd])]
  exact wp_buildSlice t e len parts ho cells ie z hu hie hz hsmall hpos hf h

set_option maxHeartbeats 8000000 in
set_option maxRecDepth 1000000 in
theorem ending_text {w : World} {vk : Value} {key : List Nat} {name : ByteArray} (hk : Lies w vk key) (hkf : Fits vk) (hkb : ∀ y ∈ key, y < 256) (hkn : key.length < 100000000) (hn : name.size < 100000000) (htab : Tabs w) :
    Calls Tryd.prog 16 #[vk, .string name] w fun e w' => (∃ v B, e = .returned v ∧ w.heap.size ≤ B ∧ w'.ownsRow B 5 1 v 32 (u8s (endB key (ordsOf name)))) ∧ Below w.heap.size w w' := by
  obtain ⟨C, hC⟩ : ∃ C, C = codeB key (ordsOf name) := ⟨_, rfl⟩
  obtain ⟨L, hL⟩ : ∃ L, L = u8s C := ⟨_, rfl⟩
  have hLz : L.toArray.size = 32 := by rw [hL, hC]; simp [u8s_length, codeB_len]
  have HI32 : Hid ((Tryd.prog.info? 25).map (·.size) = some L.toArray.size) := Lib.hid (by rw [hLz]; kernel_rfl)
  have HAL32 : Hid (L.toArray.all (·.oneCell') = true) := Lib.hid (by rw [hL]; exact all_one (u8s_one _))
  have HSZ32 : Hid ((u8s (List.replicate 32 0)).toArray.size = L.toArray.size) := Lib.hid (by rw [hLz]; rfl)
  obtain ⟨WT, b, cap, hrun, hcap, hbt, hby⟩ := text_bytes w name
  have HCODE : Hid (Calls Tryd.prog 8 #[vk, .slice (some ⟨b, 0, none⟩) name.size cap] WT fun e w' => e = .returned (.agg L.toArray) ∧ Below WT.heap.size WT w') := Lib.hid (by
    rw [hL, hC]
    refine code_any (lies_keep hk hbt) hkf hkb hkn (.inr (.inr ⟨b, 0, cap, by rw [ordsOf_length], hby⟩)) (fits_slice hcap) (ordsOf_lt name) (by rw [ordsOf_length]; exact hn) (htab.keep hbt))
  have HBT := Lib.hid hbt
  have HL := Lib.hid hL
  have HCL : Hid (C.length = 32) := Lib.hid (by rw [hC, codeB_len])
  have HCB : Hid (∀ x ∈ C, x < 256) := Lib.hid (by rw [hC]; exact codeB_lt _ _)
  have HEND : Hid (signsB (C.take 16) = endB key (ordsOf name)) := Lib.hid (by rw [hC]; rfl)
  obtain ⟨iU, hiU, hzU, hsU, hbU⟩ : ∃ i, Tryd.prog.info? 5 = some i ∧ i.zero = some (.int .u8 0) ∧ i.size = 1 ∧ i.bytes = 1 := by
    have h := infoU8
    cases hi : Tryd.prog.info? 5 with
    | none => rw [hi] at h; simp at h
    | some i => rw [hi] at h; simp at h; exact ⟨i, rfl, h.1, h.2.1, h.2.2⟩
  clear hC hL hLz hk hkf hkb hkn hn htab hcap hbt hby
  go_enter Tryd.func16, Tryd.ntmps16
  repeat (first | go_values | go_skip | go_guarded | go_step)
  refine HCODE.out.mono ?_
  rintro e W2 ⟨rfl, hb2⟩
  have HB2 := Lib.hid (HBT.out.trans (hb2.mono HBT.out.size))
  clear hb2 hrun
  dsimp only
  repeat (first | (refine wpList_alloc_zero rfl 25 rfl (u8s (List.replicate 32 0)) (by kernel_rfl) ?_) | (refine wpList_store_row rfl 25 (.tmp 5) (.tmp 12) rfl W2.heap.size L.toArray rfl rfl 25 (u8s (List.replicate 32 0)).toArray (arr_new W2 _ (u8s (List.replicate 32 0))) HI32.out HSZ32.out HAL32.out ?_; refine wpList_name ?_; intro W3 hW3; have HD3 := Lib.hid (show Arr W3 W2.heap.size 25 L by rw [hW3.out]; exact Arr.stored (arr_new W2 _ (u8s (List.replicate 32 0)))); have HB23 := Lib.hid (show Below W2.heap.size W2 W3 by rw [hW3.out]; exact below_setRow ((Below.refl _ _).alloc (Nat.le_refl _) _) (Nat.le_refl _) _); have HB3 := Lib.hid (HB2.out.trans (HB23.out.mono HB2.out.size)); clear hW3) | go_values | go_skip | go_guarded | go_step)
  go_loopw [6, 15] (fun v6 c wr => ∃ i : Nat, i ≤ 16 ∧ c = .int .i64 i ∧ wr.ownsRow W3.heap.size 5 1 v6 (2 * i) (u8s (signsB (C.take i))) ∧ Below W3.heap.size W3 wr) (fun _ c _ => 16 - (intOf c).toNat)
  case atStart => exact ⟨0, by omega, rfl, ⟨rfl, .inl ⟨rfl, rfl⟩⟩, Below.refl _ _⟩
  case round =>
    obtain ⟨i, hi, rfl, hown, hbw⟩ := hrel
    have HO := Lib.hid hown
    have HBW := Lib.hid hbw
    obtain ⟨v6, hv6⟩ : ∃ v, v = u6 := ⟨_, rfl⟩
    clear hown hbw
    by_cases hlt : i < 16
    · have t3 : decide ((i : Int) < 16) = true := by simp only [decide_eq_true_eq]; omega
      have hti : (i : Int) < 16 := by omega
      obtain ⟨x, hx⟩ : ∃ x, x = C.getD i 0 := ⟨_, rfl⟩
      have hx256 : x < 256 := by rw [hx]; exact getD_byte HCB.out i
      have d1 : wr.cell? ⟨W2.heap.size, i, none⟩ = some (.int .u8 (x : Int)) := by
        have h := HD3.out.cell (i := i) (u := .int .u8 (x : Int)) (by rw [HL.out, hx]; exact u8s_getD C i (by rw [HCL.out]; omega))
        rw [← h]
        exact HBW.out.cell (p := ⟨W2.heap.size, i, none⟩) HD3.out.lt
      obtain ⟨p, hp⟩ : ∃ p, p = x / 16 := ⟨_, rfl⟩
      obtain ⟨q, hq⟩ : ∃ q, q = x % 16 := ⟨_, rfl⟩
      have e0 : (x : Int) / 16 = (p : Int) := by omega
      have e1 : bits .and .u8 (x : Int) 15 = (q : Int) := by rw [u8_and _ _ (by omega) (by omega) (by omega) (by omega), show (15 : Int).toNat = 15 from rfl, nat_mask4]; omega
      have hp16 : p < 16 := by omega
      have hq16 : q < 16 := by omega
      have HSN : Hid (signsB (C.take (i + 1)) = signsB (C.take i) ++ [signB p, signB q]) := Lib.hid (by
        have hl : i < C.length := by rw [HCL.out]; omega
        have hx2 : C[i] = x := by rw [hx]; simp [List.getD, hl]
        rw [List.take_succ_eq_append_getElem hl, signsB_snoc, hx2, ← hp, ← hq])
      clear hx hp hq
      repeat (first | go_values | go_skip | go_guarded | go_step)
      refine wp_region_held_drew (S := fun _ => True) (by kernel_rfl) trivial (fun _ => ?_)
      refine anyH_take (i := 0) (some 19) (v := _) rfl rfl (by kernel_rfl) (by kernel_rfl) (by kernel_rfl) (fun _ _ _ h => h) (by rfl) trivial (by intro w hSw; go_simp; try with_reducible rfl) ?_
      (try simp only [Act.put, List.setIfInBounds_toArray, List.set_cons_zero, List.set_cons_succ])
      refine anyH_take (i := 1) (some 20) (v := _) rfl rfl (by kernel_rfl) (by kernel_rfl) (by kernel_rfl) (fun _ _ _ h => h) (by rfl) trivial (by intro w hSw; go_simp; try with_reducible rfl) ?_
      (try simp only [Act.put, List.setIfInBounds_toArray, List.set_cons_zero, List.set_cons_succ])
      refine anyH_take (i := 2) (some 21) (v := _) rfl rfl (by kernel_rfl) (by kernel_rfl) (by kernel_rfl) (fun _ _ _ h => h) (by rfl) trivial (by intro w hSw; go_simp; try with_reducible rfl) ?_
      (try simp only [Act.put, List.setIfInBounds_toArray, List.set_cons_zero, List.set_cons_succ])
      refine anyH_take (i := 4) (some 23) (v := _) rfl rfl (by kernel_rfl) (by kernel_rfl) (by kernel_rfl) (fun _ _ _ h => h) (by rfl) trivial (by intro w hSw; go_simp; try with_reducible rfl) ?_
      (try simp only [Act.put, List.setIfInBounds_toArray, List.set_cons_zero, List.set_cons_succ])
      refine anyH_take (i := 5) (some 24) (v := _) rfl rfl (by kernel_rfl) (by kernel_rfl) (by kernel_rfl) (fun _ _ _ h => h) (by rfl) trivial (by intro w hSw; go_simp; try with_reducible rfl) ?_
      (try simp only [Act.put, List.setIfInBounds_toArray, List.set_cons_zero, List.set_cons_succ])
      refine anyH_take (i := 3) (some 22) (v := .int .u8 ((signB p : Nat) : Int)) rfl rfl (by kernel_rfl) (by kernel_rfl) (by kernel_rfl) (fun _ _ _ h => h) (by rfl) trivial (fun w _ => run_hex_op w (.tmp 21) rfl p rfl hp16) ?_
      (try simp only [Act.put, List.setIfInBounds_toArray, List.set_cons_zero, List.set_cons_succ])
      refine anyH_take (i := 6) (some 25) (v := .int .u8 ((signB q : Nat) : Int)) rfl rfl (by kernel_rfl) (by kernel_rfl) (by kernel_rfl) (fun _ _ _ h => h) (by rfl) trivial (fun w _ => run_hex_op w (.tmp 24) rfl q rfl hq16) ?_
      (try simp only [Act.put, List.setIfInBounds_toArray, List.set_cons_zero, List.set_cons_succ])
      refine wpAnyH_ready (rs := [7]) (by kernel_rfl) (by simp) (AllReadyH.cons rfl (fun K hK => ?_) AllReadyH.nil)
      refine step_buildSlice rfl 22 5 2 #[(0, .tmp 22), (1, .tmp 25)] rfl #[.int .u8 ((signB p : Nat) : Int), .int .u8 ((signB q : Nat) : Int)] iU _ Tryd.underlying22 hiU hzU (by rw [hsU]; decide) (by rw [hsU]; decide) (by rw [hsU, Array.toList_map]; exact fill_two _ _ _) ?_
      refine hK.out _ _ trivial (fun _ => ?_)
      clear hK K
      (try simp only [Act.put, List.setIfInBounds_toArray])
      obtain ⟨wA, hwA⟩ : ∃ W, W = wr.drew.alloc (.cells #[.int .u8 ((signB p : Nat) : Int), .int .u8 ((signB q : Nat) : Int)] 5) := ⟨_, rfl⟩
      obtain ⟨ga, hga⟩ : ∃ g, g = wr.drew.heap.size := ⟨_, rfl⟩
      have HNW : Hid (∀ j u, (u8s [signB p, signB q])[j]? = some u → wA.cell? ((⟨ga, 0, none⟩ : Addr).add j) = some u) := Lib.hid fun j u hj => by
        rw [hwA, hga, add_at, cell_of_row _ wr.drew.heap.size (0 + j) _ _ _ (heap_alloc_new wr.drew _), Nat.zero_add]
        simpa [u8s] using hj
      have HOA : Hid (wA.ownsRow W3.heap.size 5 1 u6 (2 * i) (u8s (signsB (C.take i)))) := Lib.hid (by
        rw [hwA]; exact row_only (row_only HO.out (Only.drew (fun _ => False) wr) (fun _ _ h => h)) (Only.alloc (fun _ => False) wr.drew _) (fun _ _ h => h))
      have HBA : Hid (Below W3.heap.size W3 wA) := Lib.hid (by rw [hwA]; exact HBW.out.drew.alloc HBW.out.drew.size _)
      rw [← hwA, ← hga]
      clear hwA hga
      refine wpAnyH_ready (rs := [8]) (by kernel_rfl) (by simp) (AllReadyH.cons rfl (fun K hK => ?_) AllReadyH.nil)
      refine step_append_own3 wA rfl (.tmp 19) (.tmp 26) 22 rfl W3.heap.size 5 iU _ 1 1 Tryd.underlying22 hiU hzU hsU hbU rfl (by decide) u6 (2 * i) _ rfl HOA.out _ 2 (u8s [signB p, signB q]) rfl (.inr ⟨⟨ga, 0, none⟩, 2, rfl, rfl, HNW.out⟩) (u8s_one _) (by unfold maxLen; omega) (by omega) HBA.out.size ?_
      intro v7 w7 hown hg
      have HO7 := Lib.hid (show w7.ownsRow W3.heap.size 5 1 v7 (2 * (i + 1)) (u8s (signsB (C.take (i + 1)))) by rw [HSN.out, u8s_append]; exact hown)
      have HB7 : Hid (Below W3.heap.size W3 w7) := Lib.hid (HBA.out.grown hg HBA.out.size (fun k hk => (HOA.out.lt k hk).1))
      clear hown hg
      refine hK.out _ _ trivial (fun _ => ?_)
      clear hK K
      (try simp only [Act.put])
      refine anyH_take (i := 9) (some 6) (v := _) rfl rfl (by kernel_rfl) (by kernel_rfl) (by kernel_rfl) (fun _ _ _ h => h) (by rfl) trivial (by intro w hSw; go_simp; try with_reducible rfl) ?_
      (try simp only [Act.put])
      refine wpAnyH_done (by kernel_rfl) ?_ _
      repeat (first | go_values | go_skip | go_guarded | go_step | go_upon)
      exact ⟨⟨i + 1, by omega, by go_num, HO7.out, HB7.out⟩, by simp [intOf]; omega⟩
    · have t3 : decide ((i : Int) < 16) = false := by simp only [decide_eq_false_iff_not]; omega
      obtain rfl : i = 16 := by omega
      repeat (first | go_values | go_skip | go_guarded | go_step | go_upon)
      go_ret
      refine ⟨⟨_, W3.heap.size, rfl, HB3.out.size, ?_⟩, HB3.out.trans (HBW.out.mono HB3.out.size)⟩
      rw [← HEND.out]
      exact HO.out
end Go.Proofs.YtfbnnhailnbmiaaDoor
