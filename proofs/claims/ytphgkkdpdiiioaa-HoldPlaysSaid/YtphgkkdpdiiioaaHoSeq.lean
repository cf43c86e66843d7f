/- Package hold: All, as a range over a function is told it: the holds one by one. -/
import Derived.Test.YtphgkkdpdiiioaaHoAll
import Derived.Test.YtphgkkdpdiiioaaUpTo
namespace Go.Proofs.Ytphgkkdpdiiioaa
open Go.RowKit Go.Maps Go.Shelf

attribute [local go_sem] Oper.semAt_some

theorem KeepV.beyond {v : Value} {W W' : World} {n : Nat} (hv : ∀ k, v.ownBlock = some k → k < n) (hb : Below n W W') : KeepV v W W' := fun k hk => hb.block k (hv k hk)
theorem KeepV.lt {v : Value} {W W' : World} (h : KeepV v W W') (hv : ∀ k, v.ownBlock = some k → k < W.heap.size) : ∀ k, v.ownBlock = some k → k < W'.heap.size := fun k hk => by
  have h1 := h k hk
  rw [Array.getElem?_eq_getElem (hv k hk)] at h1
  exact (Array.getElem?_eq_some_iff.1 h1).1
theorem KeepV.lies {v : Value} {W W' : World} {l : List Hld} (h : KeepV v W W') (hl : HLies W v l) : HLies W' v l := by
  obtain ⟨a, b, off, c, rfl, h2, h3⟩ := hl
  refine ⟨a, b, off, c, rfl, h2, fun i x hx j u hu => ?_⟩
  have hne : l ≠ [] := by rintro rfl; simp at hx
  have ea := h2 hne
  have hc := h3 i x hx j u hu
  rw [← hc]
  unfold World.cell?
  rw [h b (by rw [ea]; rfl)]
set_option maxRecDepth 1000000 in
set_option maxHeartbeats 8000000 in
theorem hoall_seq (n B : Nat) (w : World) (v : Value) (l : List Hld) (hn : 2 ≤ n) (hB : w.heap[B]? = some (.cells #[v] 28 (0, 0))) (hr : HLies w v l) (hv : ∀ k, v.ownBlock = some k → k < w.heap.size) (hl : l.length ≤ 1000000) (hsm : ∀ h ∈ l, h.name.size ≤ 16 ∧ h.ser.size ≤ 16) :
    SeqStopsK Fence.wide n Try.prog 35 #[.pointer (some ⟨B, 0, none⟩)] (fun i : Fin l.length => #[l[i].val]) (KeepV v) (fun xs => xs = List.finRange l.length) (fun pre => ∃ k, k ≤ l.length ∧ pre = uptoN l.length k) l.length w := fun id J Jx W hW hJ hJx hY h0 => by
  have hBW : W.cell? ⟨B, 0, none⟩ = some v := (cells1 ((hW.block B (lt_of_block hB)).trans hB)).1
  have HRW : Hid (HLies W v l) := Lib.hid (hr.beyond hW)
  have HVW : Hid (∀ k, v.ownBlock = some k → k < W.heap.size) := Lib.hid fun k hk => Nat.lt_of_lt_of_le (hv k hk) hW.size
  obtain ⟨a2, c2, e2⟩ := hr.slice
  have HV := Lib.hid e2
  rw [e2] at hBW
  have HJ := Lib.hid hJ
  have HY := Lib.hid hY
  have HSM := Lib.hid hsm
  clear hB hr hJ hY hJx e2 hv hsm hW
  refine callsIn_of_wp Try.func35 rfl trivial ?_ rfl
  simp only [Try.ntmps35, List.size_toArray, List.length_cons, List.length_nil, Nat.reduceAdd, Nat.reduceSub, Array.replicate_succ, Array.replicate_zero, List.push_toArray, List.append_toArray, List.nil_append, List.cons_append]
  gi_wp2
  gi_loopw [7] (fun i wr => ∃ k : Nat, k ≤ l.length ∧ i = .int .i64 (k : Int) ∧ J (uptoN l.length k) wr ∧ KeepV v W wr) (fun i _ => l.length - (intOf i).toNat)
  case atStart => exact ⟨0, Nat.zero_le _, rfl, by rw [uptoN_zero]; exact h0, fun _ _ => rfl⟩
  case round =>
    obtain ⟨k, hk, rfl, hJs, hnx⟩ := hrel
    have HNX := Lib.hid hnx
    have HJS := Lib.hid hJs
    have HVR : Hid (∀ j, v.ownBlock = some j → j < wr.heap.size) := Lib.hid (hnx.lt HVW.out)
    clear hnx hJs
    by_cases hlt : k < l.length
    · obtain ⟨a, b, off, c, ev, ea, hcells⟩ := HNX.out.lies HRW.out
      have e3 := HV.out
      rw [ev] at e3
      injection e3 with e3 _ e4
      have ea := ea (by intro e; rw [e] at hlt; simp at hlt)
      rw [e3] at ea
      subst ea
      obtain ⟨p, hp⟩ : ∃ p, p = l[k] := ⟨_, rfl⟩
      have hpk : l[k]? = some p := by rw [List.getElem?_eq_getElem hlt, hp]
      have x0 := hcells k p hpk 0 _ rfl
      rw [Nat.add_zero] at x0
      have x1 := hcells k p hpk 1 _ rfl
      have x2 := hcells k p hpk 2 _ rfl
      have x3 := hcells k p hpk 3 _ rfl
      have hps := HSM.out p (by rw [hp]; exact List.getElem_mem hlt)
      have HP := Lib.hid hp
      clear hcells ev e3 e4 hp hpk
      have hmax : k < 9223372036854775807 := by omega
      obtain ⟨W2, hW2⟩ : ∃ W2, W2 = wr.alloc (.cells #[.string p.name, .string p.ser, .int .i64 p.a, .int .i64 p.b] 30) := ⟨_, rfl⟩
      have hb2 : Below wr.heap.size wr W2 := by rw [hW2]; exact (Below.refl _ _).alloc (Nat.le_refl _) _
      have HAP := Lib.hid (hoapart_any W2 p.name p.ser p.a p.b (by omega) (by omega))
      have HB2 := Lib.hid hb2
      have HJ2 : Hid (J (uptoN l.length k) W2) := Lib.hid (HJ.out _ wr _ none HJS.out (grown_of hb2 (Nat.le_refl _)) (fun r e => by cases e))
      have HYK : Hid (∀ W3, Below W2.heap.size W2 W3 → YieldAt Fence.wide (n - 1) Try.prog id #[p.val] W3 fun e W' => (e = .returned (.bool true) ∧ J (uptoN l.length (k + 1)) W' ∧ KeepV v W3 W') ∨ (e = .returned (.bool false) ∧ Jx (uptoN l.length (k + 1)) W')) := Lib.hid fun W3 hb3 => by
        have := HY.out _ ⟨k, hlt⟩ W3 (HJ.out _ W2 W3 none HJ2.out (grown_of hb3 (Nat.le_refl _)) (fun r e => by cases e)) (by rw [uptoN_length hk]; exact hlt)
        rw [← uptoN_succ hlt] at this
        rw [HP.out]
        exact this
      rw [hW2] at HAP HYK HB2
      clear hb2 hW2 hps
      obtain ⟨nm, se, pa, pb⟩ := p
      unfold Hld.val at HYK
      dsimp only at *
      gi_wp2_with fail
      refine ⟨trivial, fun _ => by omega, ?_⟩
      refine (callsIn_wide.2 HAP.out).mono ?_
      rintro e W3 ⟨rfl, hb3⟩
      have HB3 := Lib.hid (HB2.out.trans (hb3.mono HB2.out.size))
      obtain ⟨fn, tmps, assign, body, hy, hR⟩ := HYK.out W3 hb3
      clear hb3
      dsimp only
      gi_wp2_with fail
      refine ⟨fun _ => by omega, hR.mono ?_⟩
      rintro e W4 (⟨rfl, hJ4, hk4⟩ | ⟨rfl, hJx4⟩)
      · have HJ4 := Lib.hid hJ4
        have HK4 : Hid (KeepV v W W4) := Lib.hid (HNX.out.trans ((KeepV.beyond (n := wr.heap.size) HVR.out HB3.out).trans hk4))
        clear hJ4 hk4
        dsimp only
        gi_wp2_with fail
        go_roundw
        case rel => exact ⟨k + 1, by omega, by go_num, HJ4.out, HK4.out⟩
        case measure => simp [intOf]; omega
      · dsimp only
        gi_wp2
        refine bodyPost_ret (results_none rfl _ _ _) rfl ?_
        exact ⟨⟨_, rfl⟩, .inr ⟨_, ⟨k + 1, by omega, rfl⟩, hJx4⟩⟩
    · obtain rfl : k = l.length := by omega
      gi_wp2
      go_end0
      exact ⟨⟨_, rfl⟩, .inl ⟨_, uptoN_all _, HJS.out⟩⟩
end Go.Proofs.Ytphgkkdpdiiioaa
