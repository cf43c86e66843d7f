/- A sector laid at its place. -/
import Derived.Test.YtngeilhdambgfaaDoorJoNew
import Derived.Test.YtngeilhdambgfaaDoorDvWrite
import Derived.Test.YtngeilhdambgfaaDoorStPack
import Derived.StillTailTactics
namespace Go.Proofs.YtngeilhdambgfaaDoor
open Go.RowKit

theorem lies_on {w w' : World} {v : Value} {bs : List Nat} (h : Lies w v bs) (hb : Below w.heap.size w w') : Lies w' v bs := lies_only h (only_beyond (S := fun _ => False) hb) (fun _ _ _ _ _ h => h)
theorem JAt.on {w w' : World} {J P frm n t k : Nat} (h : JAt w J P frm n t k) (hb : Below w.heap.size w w') : JAt w' J P frm n t k := h.only (only_beyond (S := fun _ => False) hb) (fun h => h)
theorem kept_on {w w' : World} {B P : Nat} {d : Dev} (h : DevAt w B P d) (hb : Below w.heap.size w w') : Kept P w w' := by
  obtain ⟨g1, g2, wv, h⟩ := h
  have hP : P < w.heap.size := h.blk.lt
  refine ⟨only_beyond hb, fun k hk => .inl ?_⟩
  rcases hk with h1 | ⟨i, v, hi, hv, hk⟩
  · exact .inl h1
  · exact .inr ⟨i, v, hi, by rw [← hv]; exact (hb.cell (p := ⟨P, i, none⟩) hP).symm, hk⟩
set_option maxRecDepth 1000000 in
set_option maxHeartbeats 4000000 in
theorem jolay_ok {w : World} {B J P frm n t k : Nat} {d : Dev} {s : Sec} {u : Value} (hJ : JAt w J P frm n t k) (h : DevAt w B P d) (hB : B ≤ w.heap.size) (hs : s.Ok) (hu : Lies w u s.data) (hup : d.down = false) (ha : d.after = 0) (hlt : frm + s.place < d.lies.length) (hm : d.waits.length ≤ 1000000000) (hl : StepsLaid w) :
    Calls Tryd.prog 34 #[.pointer (some ⟨J, 0, none⟩), secV s u] w fun e w' => e = .returned (.int .i64 0) ∧ DevAt w' B P (d.write (frm + s.place) (secB s)) ∧ Kept P w w' := by
  obtain ⟨x, p, L, D⟩ := s
  obtain ⟨s0, hs0⟩ : ∃ s0, s0 = secB ⟨x, p, L, D⟩ := ⟨_, rfl⟩
  have HS : Hid ((⟨x, p, L, D⟩ : Sec).Ok ∧ s0 = secB ⟨x, p, L, D⟩) := Lib.hid ⟨hs, hs0⟩
  have HL : Hid (Lies w u D) := Lib.hid hu
  have hS64 : Hid (s0.length = 64) := Lib.hid (by rw [hs0]; exact secB_length hs.2.1)
  have HT := Lib.hid hl
  have HJ := Lib.hid hJ
  have HD := Lib.hid h
  have hN : d.lies.length ≤ 8192 := h.ok.size
  have hlt' : Hid (frm + p < d.lies.length) := Lib.hid hlt
  have hp : p < 8192 := by have : frm + p < d.lies.length := hlt; omega
  have hf : frm < 8192 := by have : frm + p < d.lies.length := hlt; omega
  rw [← hs0]
  show Calls _ _ #[_, .agg #[.int .u32 (x : Int), .int .u32 (p : Int), .bool L, u]] _ _
  have HW1 : Hid (Below w.heap.size w (w.alloc (.cells #[.int .u32 (x : Int), .int .u32 (p : Int), .bool L, u] 77))) := Lib.hid ((Below.refl _ _).alloc (Nat.le_refl _) _)
  obtain ⟨W1, hW1⟩ : ∃ W1, W1 = w.alloc (.cells #[.int .u32 (x : Int), .int .u32 (p : Int), .bool L, u] 77) := ⟨_, rfl⟩
  obtain ⟨V, hV⟩ : ∃ V, V = w.heap.size := ⟨_, rfl⟩
  have hA1 : Arr W1 V 77 [.int .u32 (x : Int), .int .u32 (p : Int), .bool L, u] := by rw [hW1, hV]; exact arr_new w _ _
  rw [← hW1] at HW1
  have e1 : IntKind.i64.wrap (p : Int) = (p : Int) := by rw [IntKind.wrap_i64]; omega
  have e2 : IntKind.i64.wrap ((frm : Int) + (p : Int)) = ((frm + p : Nat) : Int) := by rw [IntKind.wrap_i64]; omega
  clear hs hu hl hJ h hs0 hlt
  go_enter Tryd.func34, Tryd.ntmps34
  go_wp2_with fail
  rw [← hW1, ← hV]
  refine (pack_ok (s := ⟨x, p, L, D⟩) (u := u) HS.out.1 (lies_on HL.out HW1.out) (HT.out.below HW1.out)).mono ?_
  rintro e W2 ⟨v, rfl, hown, hb2⟩
  have hb : Below w.heap.size w W2 := HW1.out.trans (hb2.mono HW1.out.size)
  have HA2 : Arr W2 V 77 [.int .u32 (x : Int), .int .u32 (p : Int), .bool L, u] := hA1.only (only_beyond (S := fun _ => False) hb2) (fun h => h)
  have a1 : W2.cell? ⟨V, 1, none⟩ = some (.int .u32 (p : Int)) := HA2.cell rfl
  obtain ⟨c0, c1, c2, c3, c4⟩ := (HJ.out.on hb).cells
  have HV : Hid (Lies W2.drew v s0) := Lib.hid (by rw [HS.out.2]; exact (LiesFrom.of_row (B := W1.heap.size) (by rw [secB_length HS.out.1.2.1]; exact hown)).lies)
  have HD2 : Hid (DevAt W2.drew B P d) := Lib.hid ((HD.out.beyond hb).drew)
  have HB2 : Hid (Below w.heap.size w W2.drew) := Lib.hid hb.drew
  have hB2 : B ≤ W2.drew.heap.size := Nat.le_trans hB HB2.out.size
  clear hown hb2 hb HA2 hA1 hW1 hV
  dsimp only
  go_wp2_with fail
  refine wp_region_still_tail 14 (by kernel_rfl) (by kernel_rfl) ?_
  simp only [List.take_succ_cons, List.take_zero, List.drop_succ_cons, List.drop_zero]
  repeat still_step
  refine wpStill_nil ?_
  change wpList _ _ _ _ _ W2.drew
  go_wp2_with (go_at_call 31; refine (write_ok HD2.out hB2 HV.out hup ha hlt'.out (by rw [hS64.out]; exact Nat.le_refl _) hm).mono ?_; rintro e w3 ⟨rfl, hd3, hk3⟩; have HD3 := Lib.hid hd3; have HK3 := Lib.hid hk3; clear hd3 hk3)
  go_ret
  exact ⟨rfl, HD3.out, (kept_on HD.out HB2.out).trans HK3.out⟩
end Go.Proofs.YtngeilhdambgfaaDoor
