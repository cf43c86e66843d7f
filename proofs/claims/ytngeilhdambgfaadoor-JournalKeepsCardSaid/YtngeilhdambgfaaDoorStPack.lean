/- writeStamp, mark, Pack: walked. -/
import Derived.Test.YtngeilhdambgfaaDoorStUnp
import Derived.Test.YtngeilhdambgfaaDoorOctPt
namespace Go.Proofs.YtngeilhdambgfaaDoor
open Go.RowKit

/-- written on, from a later world on -/
theorem OWrote.join {B : Nat} {w0 w1 w2 : World} {P : Nat} {g g1 : Option Nat} {l m : List Nat} (h : OWrote B w0 P g l w1) (hg : g1 = g ∨ ∃ k, g1 = some k ∧ w0.heap.size ≤ k) (k : OWrote B w1 P g1 m w2) : OWrote B w0 P g m w2 := by
  obtain ⟨hP, hgl, ho, _⟩ := h
  obtain ⟨_, _, ho2, g2, h2, hg2⟩ := k
  refine ⟨hP, hgl, ho.trans ho2 (fun i hi hs => ?_), g2, h2, ?_⟩
  · rcases hs with hs | hs
    · exact .inl hs
    · rcases hg with hg | ⟨b, hb, hl⟩
      · exact .inr (hg ▸ hs)
      · rw [hb] at hs; have : b = i := Option.some.inj hs; omega
  · rcases hg2 with h3 | ⟨b, hb, hl⟩
    · rcases hg with hg | ⟨b, hb, hl⟩
      · exact .inl (h3.trans hg)
      · exact .inr ⟨b, h3.trans hb, hl⟩
    · exact .inr ⟨b, hb, Nat.le_trans ho.size hl⟩
theorem OWrote.again {B : Nat} {w0 w : World} {P : Nat} {g : Option Nat} {l : List Nat} (h : OWrote B w0 P g l w) : ∃ g1, OWrote B w P g1 l w ∧ (g1 = g ∨ ∃ k, g1 = some k ∧ w0.heap.size ≤ k) ∧ ∀ V cs t fr, w.heap[V]? = some (.cells cs t fr) → t ≠ 5 → g1 ≠ some V := by
  obtain ⟨_, _, _, g1, h1, h2⟩ := h
  refine ⟨g1, OWrote.start h1, h2, fun V cs t fr hV ht => ?_⟩
  obtain ⟨_, v, hv, _, hown⟩ := h1
  rw [← hv]
  exact row_ne hV hown ht

set_option maxHeartbeats 2000000 in
theorem writeStamp_any {B : Nat} {w0 w : World} {P t p : Nat} {g : Option Nat} {l : List Nat} (ht : t < 4294967296) (hp : p < 4294967296) (hl : StepsLaid w) (hgB : 0 < B) (hB : B ≤ w0.heap.size) (hbig : l.length ≤ 1000000) (hw : OWrote B w0 P g l w) :
    Calls Tryd.prog 51 #[.pointer (some ⟨P, 0, none⟩), stampV t p] w fun e w' => e = .returned (.tuple #[]) ∧ OWrote B w0 P g (l ++ stampB t p) w' := by
  have HL := Lib.hid hl
  have HW := Lib.hid hw
  have e1 : IntKind.u64.wrap (t : Int) = t := by rw [IntKind.wrap_u64]; omega
  have e2 : IntKind.u64.wrap (p : Int) = p := by rw [IntKind.wrap_u64]; omega
  clear hl hw
  unfold stampV
  go_enter Tryd.func51, Tryd.ntmps51
  go_wp2_with fail
  obtain ⟨V, hV⟩ : ∃ V, V = w.heap.size := ⟨_, rfl⟩
  rw [← hV]
  refine calls_name fun W1 hW1 => ?_
  have hba : Below w.heap.size w W1 := by rw [hW1]; exact (Below.refl _ _).alloc (Nat.le_refl _) _
  have HV1 : Hid (W1.heap[V]? = some (.cells #[.int .u32 t, .int .u32 p] 75 (0, 0))) := Lib.hid (by rw [hW1, hV]; exact heap_alloc_new _ _)
  have HW1 := Lib.hid (HW.out.beyond hba)
  have HL1 := Lib.hid (HL.out.below hba)
  have HPV : Hid (P < V ∧ B ≤ V ∧ w0.heap.size ≤ w.heap.size) := Lib.hid (by have h1 := HW.out.1.2; have h2 := HW.out.2.2.1.size; omega)
  clear hba hW1 hV
  obtain ⟨g1, hs1, hg1, hgv⟩ := HW1.out.again
  have HS1 := Lib.hid hs1
  have HG1 := Lib.hid hg1
  have HGV : Hid (g1 ≠ some V) := Lib.hid (hgv V _ _ _ HV1.out (by decide))
  clear hs1 hg1 hgv
  refine (num_ok (n := 4) (by omega) (by unfold Wide; omega) (wid_le 32 ht) HL1.out (by have := HPV.out; have h2 := HW1.out.2.2.1.size; omega) (by omega) HS1.out).mono ?_
  rintro e w2 ⟨rfl, hs2⟩
  have hB1 : B ≤ W1.heap.size := by have h2 := HW1.out.2.2.1.size; omega
  have HS2 := Lib.hid hs2
  have HL2 : Hid (StepsLaid w2) := Lib.hid fun j v hv => by
    have h1 := HL.out j v hv
    have h2 := HL1.out j v hv
    rw [← h2]
    exact (hs2.below hB1).cell (p := ⟨0, j, none⟩) hgB
  have hv2 : w2.heap[V]? = some (.cells #[.int .u32 t, .int .u32 p] 75 (0, 0)) := (hs2.2.2.1.block V (lt_of_block HV1.out) (by rintro (h | h); exact absurd h (by have := HPV.out; omega); exact HGV.out h)).trans HV1.out
  obtain ⟨c0, c1, _, _⟩ := cells2 hv2
  clear hs2 hv2
  go_wp2_with fail
  refine (num_ok (n := 4) (by omega) (by unfold Wide; omega) (wid_le 32 hp) HL2.out hB1 (by rw [List.length_append, numB_length]; omega) HS2.out).mono ?_
  rintro e w3 ⟨rfl, hs3⟩
  have HS3 := Lib.hid hs3
  clear hs3
  go_wp2
  go_end0
  exact ⟨rfl, HW1.out.join HG1.out (by have h := HS3.out; rw [List.append_assoc] at h; exact h)⟩

theorem mark_any {w : World} {s : Sec} {u : Value} (hs : s.data.length ≤ 47) (hu : Lies w u s.data) : Calls Tryd.prog 53 #[secV s u] w fun e w' => e = .returned (.int .u64 (s.mark : Int)) ∧ Below w.heap.size w w' := by
  obtain ⟨a, c, rfl⟩ := lies_len hu
  obtain ⟨t, p, L, D⟩ := s
  obtain ⟨n, hn⟩ : ∃ n, n = D.length := ⟨_, rfl⟩
  unfold secV Sec.mark
  simp only at hs ⊢
  rw [← hn] at hs ⊢
  clear hu hn
  have e1 : IntKind.u64.wrap (n : Int) = n := by rw [IntKind.wrap_u64]; omega
  have e2 : IntKind.u64.wrap ((n : Int) + 128) = n + 128 := by rw [IntKind.wrap_u64]; omega
  cases L
  · go_enter Tryd.func53, Tryd.ntmps53
    go_wp2
    go_ret
    exact ⟨by simp, (Below.refl _ w).alloc (Nat.le_refl _) _⟩
  · go_enter Tryd.func53, Tryd.ntmps53
    go_wp2
    go_ret
    exact ⟨by simp, (Below.refl _ w).alloc (Nat.le_refl _) _⟩
theorem wrote_keeps {B : Nat} {W1 wk : World} {P V : Nat} {l : List Nat} {o : Obj} (h : OWrote B W1 P none l wk) (hB : B ≤ W1.heap.size) (hV : W1.heap[V]? = some o) (hne : V ≠ P) (hl : StepsLaid W1) (hg : 0 < B) :
    wk.heap[V]? = some o ∧ StepsLaid wk := by
  have hb := h.below hB
  refine ⟨(h.2.2.1.block V (lt_of_block hV) (by rintro (h | h); exact hne h; cases h)).trans hV, fun j v hv => ?_⟩
  have h1 := hl j v hv
  rw [← h1]
  exact hb.cell (p := ⟨0, j, none⟩) hg
theorem pack_turn {w : World} {s : Sec} {u : Value} (hu : Lies w u s.data) (h : s.turn = 0) : Calls Tryd.prog 44 #[secV s u] w fun e w' => e = .returned (.tuple #[.slice none 0 0, .int .i64 1]) ∧ Below w.heap.size w w' := by
  obtain ⟨a, c, rfl⟩ := lies_len hu
  obtain ⟨t, p, L, D⟩ := s
  simp only at h
  subst h
  unfold secV
  clear hu
  go_enter Tryd.func44, Tryd.ntmps44
  go_wp2
  go_ret2
  exact ⟨rfl, (Below.refl _ w).alloc (Nat.le_refl _) _⟩
theorem pack_long {w : World} {s : Sec} {u : Value} (hu : Lies w u s.data) (h : s.turn ≠ 0) (hn : 47 < s.data.length) : Calls Tryd.prog 44 #[secV s u] w fun e w' => e = .returned (.tuple #[.slice none 0 0, .int .i64 12]) ∧ Below w.heap.size w w' := by
  obtain ⟨a, c, rfl⟩ := lies_len hu
  obtain ⟨t, p, L, D⟩ := s
  simp only at h hn
  unfold secV
  have t1 : ((t : Int) == 0) = false := by simp; omega
  have t2 : decide ((47 : Int) < (D.length : Int)) = true := by simp; omega
  clear hu h hn
  go_enter Tryd.func44, Tryd.ntmps44
  go_wp2
  go_ret2
  exact ⟨rfl, (Below.refl _ w).alloc (Nat.le_refl _) _⟩

theorem made_zeros (n : Nat) : (madeCells (Value.int .u8 0).cells (n * 1)).toList = u8s (List.replicate n 0) := by
  unfold u8s
  rw [List.map_replicate, Nat.mul_one]
  exact made_rep (v := .int .u8 0) (N := 1) (by omega)
set_option maxHeartbeats 4000000 in
theorem pack_ok {w : World} {s : Sec} {u : Value} (hs : s.Ok) (hu : Lies w u s.data) (hl : StepsLaid w) : Calls Tryd.prog 44 #[secV s u] w fun e w' =>
    ∃ v, e = .returned (.tuple #[v, .int .i64 0]) ∧ w'.ownsRow w.heap.size 5 1 v 64 (u8s (secB s)) ∧ Below w.heap.size w w' := by
  obtain ⟨a, c, rfl⟩ := lies_len hu
  obtain ⟨S, hS⟩ : ∃ S, S = s := ⟨_, rfl⟩
  have HSO : Hid (S.Ok ∧ secB s = secB S) := Lib.hid (by rw [hS]; exact ⟨hs, rfl⟩)
  have hm256 : S.mark < 256 := by rw [hS]; have := hs.2.1; unfold Sec.mark; split <;> omega
  have HMK : Hid (∀ W u', Lies W u' S.data → Calls Tryd.prog 53 #[secV S u'] W fun e w' => e = .returned (.int .u64 (S.mark : Int)) ∧ Below W.heap.size W w') := Lib.hid fun W u' h => mark_any HSO.out.1.2.1 h
  rw [HSO.out.2]
  rw [← hS] at hu ⊢
  clear hS hs
  obtain ⟨t, p, L, D⟩ := S
  obtain ⟨n, hn⟩ : ∃ n, n = D.length := ⟨_, rfl⟩
  obtain ⟨m, hm⟩ : ∃ m, m = Sec.mark ⟨t, p, L, D⟩ := ⟨_, rfl⟩
  unfold secV at *
  simp only at hu ⊢
  rw [← hn] at hu ⊢
  rw [← hm] at hm256 HMK
  have HM := Lib.hid hm
  have HU := Lib.hid hu
  have HN := Lib.hid hn
  have HL := Lib.hid hl
  have ht0 : t ≠ 0 := HSO.out.1.1
  have hn47 : n ≤ 47 := by rw [hn]; exact HSO.out.1.2.1
  have ht : t < 4294967296 := HSO.out.1.2.2.1
  have hp : p < 4294967296 := HSO.out.1.2.2.2.1
  have t1 : ((t : Int) == 0) = false := by simp; omega
  have t2 : decide ((47 : Int) < (n : Int)) = false := by simp; omega
  obtain ⟨z, hz⟩ : ∃ z, z = 47 - n := ⟨_, rfl⟩
  have e1 : IntKind.i64.wrap (47 - (n : Int)) = (z : Int) := by rw [IntKind.wrap_i64]; omega
  have hz47 : z ≤ 47 := by omega
  have HZ := Lib.hid hz
  obtain ⟨i0, hi0, hi1, hi2, hi3⟩ := info_parts infoU8
  have HI : Hid (Tryd.prog.info? 5 = some i0 ∧ i0.zero = some (.int .u8 0) ∧ i0.size = 1 ∧ i0.bytes * z ≤ 281474976710656) := Lib.hid ⟨hi0, hi1, hi2, by rw [hi3]; omega⟩
  have HT := Lib.hid ht
  have HP := Lib.hid hp
  clear hu hn hl hm ht0 hi0 hi1 hi2 hi3 ht hp hz
  go_enter Tryd.func44, Tryd.ntmps44
  go_wp2_with fail
  obtain ⟨V, hV⟩ : ∃ V, V = w.heap.size := ⟨_, rfl⟩
  obtain ⟨Q, hQ⟩ : ∃ Q, Q = w.heap.size + 1 := ⟨_, rfl⟩
  rw [← hQ, ← hV]
  refine calls_name fun W1 hW1 => ?_
  have HV1 : Hid (W1.heap[V]? = some (.cells #[.int .u32 (t : Int), .int .u32 (p : Int), .bool L, .slice a n c] 77 (0, 0))) := Lib.hid (by rw [hW1, hV, Below.heap_alloc _ _ _ (by simp)]; exact heap_alloc_new _ _)
  have HBw : Hid (Below w.heap.size w W1) := Lib.hid (by rw [hW1]; exact ((Below.refl _ w).alloc (Nat.le_refl _) _).alloc (by simp) _)
  have HS1 : Hid (OWrote Q W1 Q none [] W1) := Lib.hid (by
    have h := owriter_new (w.alloc (.cells #[.int .u32 (t : Int), .int .u32 (p : Int), .bool L, .slice a n c] 77))
    have e : (w.alloc (.cells #[.int .u32 (t : Int), .int .u32 (p : Int), .bool L, .slice a n c] 77)).heap.size = Q := by rw [hQ]; simp
    rw [e] at h
    rw [hW1]
    exact OWrote.start h)
  have HB1 : Hid (Q ≤ W1.heap.size) := Lib.hid (by rw [hW1, hQ]; simp)
  have HNE : Hid (V ≠ Q) := Lib.hid (by omega)
  have HL1 : Hid (StepsLaid W1) := Lib.hid (HL.out.below HBw.out)
  have HGB : Hid (0 < Q) := Lib.hid (by have := HL.out.lt; omega)
  have HwQ : Hid (w.heap.size ≤ Q) := Lib.hid (by omega)
  clear hW1 hV hQ
  refine (writeStamp_any HT.out HP.out HL1.out HGB.out HB1.out (by simp) HS1.out).mono ?_
  rintro e w2 ⟨rfl, hs2⟩
  have HS2 := Lib.hid hs2
  clear hs2
  obtain ⟨hv2, hl2⟩ := wrote_keeps HS2.out HB1.out HV1.out HNE.out HL1.out HGB.out
  have HL2x := Lib.hid hl2
  obtain ⟨⟨c0, c1, c2, c3⟩, _, _, _, _⟩ := cells4 hv2
  clear hl2 hv2
  go_wp2_with fail
  have HU2 : Hid (Lies w2 (.slice a n c) D) := Lib.hid (lies_keep HU.out (HBw.out.trans ((HS2.out.below HB1.out).mono HwQ.out)))
  refine (HMK.out _ _ HU2.out).mono ?_
  rintro e w3 ⟨rfl, hb3⟩
  have HS3 := Lib.hid (HS2.out.beyond hb3)
  clear hb3 c0 c1 c2 c3
  obtain ⟨hv3, hl3⟩ := wrote_keeps HS3.out HB1.out HV1.out HNE.out HL1.out HGB.out
  have HL3x := Lib.hid hl3
  obtain ⟨⟨c0, c1, c2, c3⟩, _, _, _, _⟩ := cells4 hv3
  clear hl3 hv3
  go_wp2_with fail
  refine (num_ok (n := 1) (by omega) (by unfold Wide; omega) (wid_le 8 hm256) HL3x.out HB1.out (by simp [stampB_length]) HS3.out).mono ?_
  rintro e w4 ⟨rfl, hs4⟩
  have HS4 := Lib.hid hs4
  clear hs4 c0 c1 c2 c3
  obtain ⟨hv4, hl4⟩ := wrote_keeps HS4.out HB1.out HV1.out HNE.out HL1.out HGB.out
  have HL4x := Lib.hid hl4
  obtain ⟨⟨c0, c1, c2, c3⟩, _, _, _, _⟩ := cells4 hv4
  clear hl4 hv4
  go_wp2_with fail
  have HU4 : Hid (Lies w4 (.slice a n c) D) := Lib.hid (lies_keep HU.out (HBw.out.trans ((HS4.out.below HB1.out).mono HwQ.out)))
  refine (raw_ok HU4.out (by rw [← HN.out]; omega) HB1.out (by simp [stampB_length, numB_length]) HS4.out).mono ?_
  rintro e w5 ⟨rfl, hs5⟩
  have HS5 := Lib.hid hs5
  clear hs5 c0 c1 c2 c3
  obtain ⟨hv5, hl5⟩ := wrote_keeps HS5.out HB1.out HV1.out HNE.out HL1.out HGB.out
  have HL5x := Lib.hid hl5
  obtain ⟨⟨c0, c1, c2, c3⟩, _, _, _, _⟩ := cells4 hv5
  clear hl5 hv5
  go_wp2_with (refine wpList_make_full _ rfl (.tmp 33) (.tmp 33) 33 rfl w5.heap.size 5 i0 _ 1 Tryd.underlying33 HI.out.1 HI.out.2.1 HI.out.2.2.1 .i64 .i64 (z : Int) (z : Int) z rfl rfl rfl rfl HI.out.2.2.2 (by unfold maxLen; omega) (Nat.le_refl _) ?_; intro W6 hown hgr; rw [made_zeros] at hown)
  have HO6 := Lib.hid hown
  have HS6 := Lib.hid (HS5.out.beyond ((Only.grown hgr).below (Nat.le_refl _) (fun k hk => by cases hk)))
  clear hown hgr c0 c1 c2 c3
  refine (raw_ok (bs := List.replicate z 0) (by have h := ownsRow_lies HO6.out; rw [← List.length_replicate (n := z) (a := 0)] ; rw [List.length_replicate]; exact h) (by simp; omega) HB1.out (by have h := HN.out; have h2 := hn47; simp [stampB_length, numB_length]; omega) HS6.out).mono ?_
  rintro e w7 ⟨rfl, hs7⟩
  have HS7 := Lib.hid hs7
  clear hs7
  obtain ⟨hv7, hl7⟩ := wrote_keeps HS7.out HB1.out HV1.out HNE.out HL1.out HGB.out
  have HL7x := Lib.hid hl7
  obtain ⟨⟨c0, c1, c2, c3⟩, _, _, _, _⟩ := cells4 hv7
  clear hl7 hv7
  go_wp2_with fail
  refine (writeStamp_any HT.out HP.out HL7x.out HGB.out HB1.out (by have h := HN.out; have h2 := hn47; simp [stampB_length, numB_length]; omega) HS7.out).mono ?_
  rintro e w8 ⟨rfl, hs8⟩
  have hfin : [] ++ stampB t p ++ numB m 1 ++ D ++ List.replicate z 0 ++ stampB t p = secB ⟨t, p, L, D⟩ := by
    have e1 : numB m 1 = [m] := by
      show [m / 256 ^ 0 % 256] = [m]
      rw [Nat.pow_zero, Nat.div_one, Nat.mod_eq_of_lt hm256]
    rw [e1, HM.out, HZ.out, HN.out]
    simp [secB, Sec.body]
  rw [hfin] at hs8
  have HS8 := Lib.hid hs8
  clear hs8 c0 c1 c2 c3 hfin
  have hl64 : (secB ⟨t, p, L, D⟩).length = 64 := secB_length HSO.out.1.2.1
  obtain ⟨LL, hLL⟩ : ∃ x, x = secB ⟨t, p, L, D⟩ := ⟨_, rfl⟩
  rw [← hLL] at HS8 hl64
  have H64 := Lib.hid hl64
  have HLL := Lib.hid hLL
  clear hLL hl64
  go_wp2_with fail
  refine (obytes Q HS8.out (by rw [H64.out]; omega)).mono ?_
  rintro e w9 ⟨v9, rfl, hown, hb9⟩
  have HO9 := Lib.hid hown
  have HB9 : Hid (Below w.heap.size w w9) := Lib.hid (HBw.out.trans (((HS8.out.below HB1.out).mono HwQ.out).trans (hb9.mono (by have := HBw.out.size; have h2 := (HS8.out.below HB1.out).size; omega))))
  have HZ8 : Hid (w.heap.size ≤ w8.heap.size) := Lib.hid (by have := HBw.out.size; have h2 := (HS8.out.below HB1.out).size; omega)
  clear hown hb9
  go_wp2
  go_ret2
  exact ⟨v9, rfl, by have h := HO9.out; rw [H64.out, HLL.out] at h; exact row_base h HZ8.out, HB9.out⟩
end Go.Proofs.YtngeilhdambgfaaDoor
