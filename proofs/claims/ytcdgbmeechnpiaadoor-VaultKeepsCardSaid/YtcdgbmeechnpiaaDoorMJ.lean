/- JoAt, JoNew, JoLay, JoI, JoPut, JoWrite, JoRows, JoSess, JoArm, JoWipe, JoArmW, JoSame: laid into one. -/
import Derived.Test.YtcdgbmeechnpiaaDoorMD
import Derived.Test.YtcdgbmeechnpiaaDoorMS
import Derived.StillTailTactics
import Derived.Test.YtcdgbmeechnpiaaDoorMA
import Derived.Maps.AppendAt
/- A journal as it lies; what is asked of it. -/
namespace Go.Proofs.YtcdgbmeechnpiaaDoor
open Go.RowKit

def jcells (P frm n t k : Nat) : List Value := [.pointer (some ⟨P, 0, none⟩), .int .i64 (frm : Int), .int .i64 (n : Int), .int .u32 (t : Int), .int .i64 (k : Int)]
/-- a journal at J: on the device at P, from frm, n sectors, of turn t, k of them used -/
def JAt (w : World) (J P frm n t k : Nat) : Prop := Arr w J 83 (jcells P frm n t k)
section
variable {w : World} {J P frm n t k : Nat}
theorem JAt.cells (h : JAt w J P frm n t k) : w.cell? ⟨J, 0, none⟩ = some (.pointer (some ⟨P, 0, none⟩)) ∧ w.cell? ⟨J, 1, none⟩ = some (.int .i64 (frm : Int)) ∧ w.cell? ⟨J, 2, none⟩ = some (.int .i64 (n : Int)) ∧ w.cell? ⟨J, 3, none⟩ = some (.int .u32 (t : Int)) ∧ w.cell? ⟨J, 4, none⟩ = some (.int .i64 (k : Int)) :=
  ⟨Arr.cell h rfl, Arr.cell h rfl, Arr.cell h rfl, Arr.cell h rfl, Arr.cell h rfl⟩
theorem JAt.only {S : Nat → Prop} {w' : World} (h : JAt w J P frm n t k) (ho : Only S w w') (hS : ¬ S J) : JAt w' J P frm n t k := Arr.only h ho hS
end
set_option maxHeartbeats 1000000 in
theorem johas_none (w : World) {f n : Int} (hf2 : f ≤ 9223372036854775807) : Calls Tryd.prog 50 #[.pointer none, .int .i64 f, .int .i64 n] w fun e w' => e = .returned (.bool false) ∧ w' = w := by
  go_enter Tryd.func50, Tryd.ntmps50
  by_cases h1 : 0 ≤ f
  · by_cases h2 : 1 ≤ n
    · have e1 : IntKind.i64.wrap (0 - f) = -f := by rw [IntKind.wrap_i64]; omega
      have e2 : IntKind.i64.wrap (-f) = -f := by rw [IntKind.wrap_i64]; omega
      have t3 : decide (n ≤ -f) = false := by simp; omega
      go_wp2_with (go_at_call 21; refine (len_none _).mono ?_; rintro e w' ⟨rfl, rfl⟩)
      go_ret
      exact ⟨rfl, rfl⟩
    · have t2 : decide (1 ≤ n) = false := by simpa using h2
      go_wp2
      go_ret
      exact ⟨rfl, rfl⟩
  · have t1 : decide (0 ≤ f) = false := by simpa using h1
    go_wp2
    go_ret
    exact ⟨rfl, rfl⟩
set_option maxHeartbeats 1000000 in
theorem johas_any {w : World} {B P : Nat} {d : Dev} {f n : Int} (h : DevAt w B P d) (hf2 : f ≤ 9223372036854775807) : Calls Tryd.prog 50 #[.pointer (some ⟨P, 0, none⟩), .int .i64 f, .int .i64 n] w fun e w' => e = .returned (.bool (decide (0 ≤ f ∧ 1 ≤ n ∧ n ≤ (d.lies.length : Int) - f))) ∧ w' = w := by
  have hN : d.lies.length ≤ 8192 := h.ok.size
  have HD := Lib.hid h
  obtain ⟨N, hNN⟩ : ∃ n, n = d.lies.length := ⟨_, rfl⟩
  have HN := Lib.hid hNN
  rw [← hNN] at hN ⊢
  clear h hNN
  go_enter Tryd.func50, Tryd.ntmps50
  by_cases h1 : 0 ≤ f
  · by_cases h2 : 1 ≤ n
    · have e1 : IntKind.i64.wrap ((N : Int) - f) = (N : Int) - f := by rw [IntKind.wrap_i64]; omega
      go_wp2_with (go_at_call 21; refine (len_any HD.out).mono ?_; rw [← HN.out]; rintro e w' ⟨rfl, rfl⟩)
      go_ret
      refine ⟨?_, rfl⟩
      simp [h1, h2]
    · have t2 : decide (1 ≤ n) = false := by simpa using h2
      go_wp2
      go_ret
      refine ⟨?_, rfl⟩
      rfl
  · have t1 : decide (0 ≤ f) = false := by simpa using h1
    go_wp2
    go_ret
    refine ⟨?_, rfl⟩
    rfl
/-! ### What a record costs -/
theorem pieces_le {a b : Nat} (h : a ≤ b) : pieces a ≤ pieces b := by unfold pieces; omega
set_option maxHeartbeats 1000000 in
theorem jcost_any (w : World) {m : Nat} (hm : m ≤ 9223372036854775807) : Calls Tryd.prog 22 #[.int .i64 (m : Int)] w fun e w' => e = .returned (.int .i64 (pieces m : Int)) ∧ w' = w := by
  go_enter Tryd.func22, Tryd.ntmps22
  by_cases h : m = 0
  · subst h
    go_wp2
    go_ret
    exact ⟨rfl, rfl⟩
  · have t1 : decide ((m : Int) ≤ 0) = false := by simp; omega
    obtain ⟨j, rfl⟩ : ∃ j, m = j + 1 := ⟨m - 1, by omega⟩
    have hp : pieces (j + 1) = j / 47 + 1 := by unfold pieces; omega
    have e1 : IntKind.i64.wrap (((j + 1 : Nat) : Int) - 1) = (j : Int) := by rw [IntKind.wrap_i64]; omega
    have e2 : IntKind.i64.wrap (Int.tdiv (j : Int) 47) = ((j / 47 : Nat) : Int) := by rw [IntKind.wrap_i64, Int.tdiv_eq_ediv_of_nonneg (by omega)]; omega
    have e3 : IntKind.i64.wrap (((j / 47 : Nat) : Int) + 1) = ((j / 47 + 1 : Nat) : Int) := by rw [IntKind.wrap_i64]; omega
    go_wp2
    go_ret
    rw [hp]
    exact ⟨rfl, rfl⟩
set_option maxHeartbeats 1000000 in
theorem jcost_neg (w : World) {m : Int} (hm : m ≤ 0) : Calls Tryd.prog 22 #[.int .i64 m] w fun e w' => e = .returned (.int .i64 1) ∧ w' = w := by
  go_enter Tryd.func22, Tryd.ntmps22
  have t1 : decide (m ≤ 0) = true := by simpa using hm
  go_wp2
  go_ret
  exact ⟨rfl, rfl⟩
theorem pieces_more {m : Nat} (h : 47 < m) : pieces (m - 47) + 1 = pieces m := by unfold pieces; omega
theorem pieces_few {m : Nat} (h : m ≤ 47) : pieces m = 1 := by unfold pieces; omega
set_option maxHeartbeats 1000000 in
theorem joleft_any {w : World} {J P frm n t k : Nat} (h : JAt w J P frm n t k) (hk : k ≤ n) (hn : n ≤ 8192) : Calls Tryd.prog 44 #[.pointer (some ⟨J, 0, none⟩)] w fun e w' => e = .returned (.int .i64 ((n - k : Nat) : Int)) ∧ Below w.heap.size w w' := by
  obtain ⟨c0, c1, c2, c3, c4⟩ := h.cells
  have e1 : IntKind.i64.wrap ((n : Int) - k) = ((n - k : Nat) : Int) := by rw [IntKind.wrap_i64]; omega
  clear h
  go_enter Tryd.func44, Tryd.ntmps44
  go_wp2_with fail
  go_region
  go_wp2
  go_ret
  exact ⟨rfl, (Below.refl _ _).drew⟩
set_option maxHeartbeats 1000000 in
theorem jonext_any {w : World} {J P frm n t k : Nat} (h : JAt w J P frm n t k) : Calls Tryd.prog 40 #[.pointer (some ⟨J, 0, none⟩)] w fun e w' => e = .returned (.int .i64 (k : Int)) ∧ w' = w := by
  obtain ⟨c0, c1, c2, c3, c4⟩ := h.cells
  clear h
  go_enter Tryd.func40, Tryd.ntmps40
  go_wp2
  go_ret
  exact ⟨rfl, rfl⟩
set_option maxHeartbeats 1000000 in
theorem joroom_any {w : World} {J P frm n t k : Nat} (h : JAt w J P frm n t k) (hk : k ≤ n) (hn : n ≤ 8192) : Calls Tryd.prog 29 #[.pointer (some ⟨J, 0, none⟩)] w fun e w' => e = .returned (.int .i64 ((47 * (n - k) : Nat) : Int)) ∧ Below w.heap.size w w' := by
  have HJ := Lib.hid h
  have e1 : IntKind.i64.wrap (((n - k : Nat) : Int) * 47) = ((47 * (n - k) : Nat) : Int) := by rw [IntKind.wrap_i64]; omega
  clear h
  go_enter Tryd.func29, Tryd.ntmps29
  go_wp2_with (go_at_call 44; refine (joleft_any HJ.out hk hn).mono ?_; rintro e w' ⟨rfl, hb⟩; have HB := Lib.hid hb; clear hb)
  go_ret
  exact ⟨rfl, HB.out⟩
end Go.Proofs.YtcdgbmeechnpiaaDoor
/- A journal made. -/
namespace Go.Proofs.YtcdgbmeechnpiaaDoor
open Go.RowKit

set_option maxHeartbeats 2000000 in
theorem jonew_ok {w : World} {B P frm n t : Nat} {d : Dev} (h : DevAt w B P d) (hn : 1 ≤ n) (hr : frm + n ≤ d.lies.length) (ht : t ≠ 0) : Calls Tryd.prog 45 #[.pointer (some ⟨P, 0, none⟩), .int .i64 (frm : Int), .int .i64 (n : Int), .int .u32 (t : Int)] w fun e w' =>
    ∃ J, e = .returned (.tuple #[.pointer (some ⟨J, 0, none⟩), .int .i64 0]) ∧ JAt w' J P frm n t 0 ∧ J = w.heap.size ∧ Below w.heap.size w w' := by
  have HD := Lib.hid h
  have hN : d.lies.length ≤ 8192 := h.ok.size
  have e1 : decide (0 ≤ (frm : Int) ∧ 1 ≤ (n : Int) ∧ (n : Int) ≤ (d.lies.length : Int) - (frm : Int)) = true := by simp; omega
  have HE := Lib.hid e1
  have hf2 : (frm : Int) ≤ 9223372036854775807 := by omega
  have t1 : ((t : Int) == 0) = false := by simp; omega
  clear h e1
  go_enter Tryd.func45, Tryd.ntmps45
  go_wp2_with (go_at_call 50; refine (johas_any HD.out hf2).mono ?_; rw [HE.out]; rintro e w' ⟨rfl, rfl⟩)
  go_ret2
  exact ⟨_, rfl, arr_new _ _ _, rfl, (Below.refl _ _).alloc (Nat.le_refl _) _⟩
set_option maxHeartbeats 2000000 in
theorem jonew_bad {w : World} {B P : Nat} {d : Dev} {f n t : Int} (h : DevAt w B P d) (hf2 : f ≤ 9223372036854775807) (hb : decide (0 ≤ f ∧ 1 ≤ n ∧ n ≤ (d.lies.length : Int) - f) = false ∨ t = 0) : Calls Tryd.prog 45 #[.pointer (some ⟨P, 0, none⟩), .int .i64 f, .int .i64 n, .int .u32 t] w fun e w' =>
    e = .returned (.tuple #[.pointer none, .int .i64 1]) ∧ w' = w := by
  have HD := Lib.hid h
  clear h
  obtain ⟨b, hbb⟩ : ∃ b, b = decide (0 ≤ f ∧ 1 ≤ n ∧ n ≤ (d.lies.length : Int) - f) := ⟨_, rfl⟩
  rw [← hbb] at hb
  have HE := Lib.hid hbb
  clear hbb
  go_enter Tryd.func45, Tryd.ntmps45
  cases b with
  | false =>
    clear hb
    go_wp2_with (go_at_call 50; refine (johas_any HD.out hf2).mono ?_; rw [← HE.out]; rintro e w' ⟨rfl, rfl⟩)
    go_ret2
    exact ⟨rfl, rfl⟩
  | true =>
    obtain rfl : t = 0 := hb.resolve_left (by simp)
    go_wp2_with (go_at_call 50; refine (johas_any HD.out hf2).mono ?_; rw [← HE.out]; rintro e w' ⟨rfl, rfl⟩)
    go_ret2
    exact ⟨rfl, rfl⟩
end Go.Proofs.YtcdgbmeechnpiaaDoor
/- A sector laid at its place. -/
namespace Go.Proofs.YtcdgbmeechnpiaaDoor
open Go.RowKit

theorem lies_on {w w' : World} {v : Value} {bs : List Nat} (h : Lies w v bs) (hb : Below w.heap.size w w') : Lies w' v bs := lies_only h (only_beyond (S := fun _ => False) hb) (fun _ _ _ _ _ h => h)
theorem JAt.on {w w' : World} {J P frm n t k : Nat} (h : JAt w J P frm n t k) (hb : Below w.heap.size w w') : JAt w' J P frm n t k := h.only (only_beyond (S := fun _ => False) hb) (fun h => h)
theorem kept_on {w w' : World} {B P : Nat} {d : Dev} (h : DevAt w B P d) (hb : Below w.heap.size w w') : Kept P w w' := by
  obtain ⟨g1, g2, wv, h⟩ := h
  have hP : P < w.heap.size := h.blk.lt
  refine ⟨only_beyond hb, fun k hk => .inl ?_⟩
  rcases hk with h1 | ⟨i, v, hi, hv, hk⟩
  · exact .inl h1
  · exact .inr ⟨i, v, hi, by rw [← hv]; exact (hb.cell (p := ⟨P, i, none⟩) hP).symm, hk⟩
set_option maxRecDepth 1000000 in
set_option maxHeartbeats 4000000 in
theorem jolay_ok {w : World} {B J P frm n t k : Nat} {d : Dev} {s : Sec} {u : Value} (hJ : JAt w J P frm n t k) (h : DevAt w B P d) (hB : B ≤ w.heap.size) (hs : s.Ok) (hu : Lies w u s.data) (hup : d.down = false) (ha : d.after = 0) (hlt : frm + s.place < d.lies.length) (hm : d.waits.length ≤ 1000000000) (hl : StepsLaid w) :
    Calls Tryd.prog 54 #[.pointer (some ⟨J, 0, none⟩), secV s u] w fun e w' => e = .returned (.int .i64 0) ∧ DevAt w' B P (d.write (frm + s.place) (secB s)) ∧ Kept P w w' := by
  obtain ⟨x, p, L, D⟩ := s
  obtain ⟨s0, hs0⟩ : ∃ s0, s0 = secB ⟨x, p, L, D⟩ := ⟨_, rfl⟩
  have HS : Hid ((⟨x, p, L, D⟩ : Sec).Ok ∧ s0 = secB ⟨x, p, L, D⟩) := Lib.hid ⟨hs, hs0⟩
  have HL : Hid (Lies w u D) := Lib.hid hu
  have hS64 : Hid (s0.length = 64) := Lib.hid (by rw [hs0]; exact secB_length hs.2.1)
  have HT := Lib.hid hl
  have HJ := Lib.hid hJ
  have HD := Lib.hid h
  have hN : d.lies.length ≤ 8192 := h.ok.size
  have hlt' : Hid (frm + p < d.lies.length) := Lib.hid hlt
  have hp : p < 8192 := by have : frm + p < d.lies.length := hlt; omega
  have hf : frm < 8192 := by have : frm + p < d.lies.length := hlt; omega
  rw [← hs0]
  show Calls _ _ #[_, .agg #[.int .u32 (x : Int), .int .u32 (p : Int), .bool L, u]] _ _
  have HW1 : Hid (Below w.heap.size w (w.alloc (.cells #[.int .u32 (x : Int), .int .u32 (p : Int), .bool L, u] 94))) := Lib.hid ((Below.refl _ _).alloc (Nat.le_refl _) _)
  obtain ⟨W1, hW1⟩ : ∃ W1, W1 = w.alloc (.cells #[.int .u32 (x : Int), .int .u32 (p : Int), .bool L, u] 94) := ⟨_, rfl⟩
  obtain ⟨V, hV⟩ : ∃ V, V = w.heap.size := ⟨_, rfl⟩
  have hA1 : Arr W1 V 94 [.int .u32 (x : Int), .int .u32 (p : Int), .bool L, u] := by rw [hW1, hV]; exact arr_new w _ _
  rw [← hW1] at HW1
  have e1 : IntKind.i64.wrap (p : Int) = (p : Int) := by rw [IntKind.wrap_i64]; omega
  have e2 : IntKind.i64.wrap ((frm : Int) + (p : Int)) = ((frm + p : Nat) : Int) := by rw [IntKind.wrap_i64]; omega
  clear hs hu hl hJ h hs0 hlt
  go_enter Tryd.func54, Tryd.ntmps54
  go_wp2_with fail
  rw [← hW1, ← hV]
  refine (pack_ok (s := ⟨x, p, L, D⟩) (u := u) HS.out.1 (lies_on HL.out HW1.out) (HT.out.below HW1.out)).mono ?_
  rintro e W2 ⟨v, rfl, hown, hb2⟩
  have hb : Below w.heap.size w W2 := HW1.out.trans (hb2.mono HW1.out.size)
  have HA2 : Arr W2 V 94 [.int .u32 (x : Int), .int .u32 (p : Int), .bool L, u] := hA1.only (only_beyond (S := fun _ => False) hb2) (fun h => h)
  have a1 : W2.cell? ⟨V, 1, none⟩ = some (.int .u32 (p : Int)) := HA2.cell rfl
  obtain ⟨c0, c1, c2, c3, c4⟩ := (HJ.out.on hb).cells
  have HV : Hid (Lies W2.drew v s0) := Lib.hid (by rw [HS.out.2]; exact (LiesFrom.of_row (B := W1.heap.size) (by rw [secB_length HS.out.1.2.1]; exact hown)).lies)
  have HD2 : Hid (DevAt W2.drew B P d) := Lib.hid ((HD.out.beyond hb).drew)
  have HB2 : Hid (Below w.heap.size w W2.drew) := Lib.hid hb.drew
  have hB2 : B ≤ W2.drew.heap.size := Nat.le_trans hB HB2.out.size
  clear hown hb2 hb HA2 hA1 hW1 hV
  dsimp only
  go_wp2_with fail
  refine wp_region_still_tail 14 (by kernel_rfl) (by kernel_rfl) ?_
  simp only [List.take_succ_cons, List.take_zero, List.drop_succ_cons, List.drop_zero]
  repeat still_step
  refine wpStill_nil ?_
  change wpList _ _ _ _ _ W2.drew
  go_wp2_with (go_at_call 51; refine (write_ok HD2.out hB2 HV.out hup ha hlt'.out (by rw [hS64.out]; exact Nat.le_refl _) hm).mono ?_; rintro e w3 ⟨rfl, hd3, hk3⟩; have HD3 := Lib.hid hd3; have HK3 := Lib.hid hk3; clear hd3 hk3)
  go_ret
  exact ⟨rfl, HD3.out, (kept_on HD.out HB2.out).trans HK3.out⟩
end Go.Proofs.YtcdgbmeechnpiaaDoor
/- A journal's sectors, as plain lists: read; what a crash leaves of them; that bytes are bytes; a journal on a device: its records, those that are committed, what waits, what lay there; written on, flushed, crashed, wiped, told. -/
namespace Go.Proofs.YtcdgbmeechnpiaaDoor
open Go.RowKit

/-- is it the k-th sector of a journal of this turn? -/
def accB (t k : Nat) (b : List Nat) : Bool := decide (unpackE b = 0) && decide ((stOf b).turn = t) && decide ((stOf b).place = k)
/-- the records that are told from place k on, these bytes of one of them behind -/
def readJ (t : Nat) : Nat → List Nat → List (List Nat) → List (List Nat)
  | _, _, [] => []
  | k, acc, b :: L => if accB t k b = true then (if (stOf b).last = true then (acc ++ (stOf b).data) :: readJ t (k + 1) [] L else readJ t (k + 1) (acc ++ (stOf b).data) L) else []
theorem readJ_cons (t k : Nat) (acc b : List Nat) (L : List (List Nat)) : readJ t k acc (b :: L) = if accB t k b = true then (if (stOf b).last = true then (acc ++ (stOf b).data) :: readJ t (k + 1) [] L else readJ t (k + 1) (acc ++ (stOf b).data) L) else [] := by
  conv => lhs; unfold readJ
/-- the sectors of these records from place k on -/
def secsJ (t : Nat) : Nat → List (List Nat) → List Sec
  | _, [] => []
  | k, r :: R => splitS t k r ++ secsJ t (k + pieces r.length) R
theorem pieceS_ok {t k : Nat} {r : List Nat} {i : Nat} (ht : t ≠ 0) (ht2 : t < 4294967296) (hk : k + i < 4294967296) (hb : ∀ x ∈ r, x < 256) : (pieceS t k r i).Ok := by
  refine ⟨ht, ?_, ht2, hk, fun x hx => hb x (List.mem_of_mem_drop (List.mem_of_mem_take hx))⟩
  unfold pieceS
  simp only
  rw [List.length_take]; omega
theorem accB_right {t k : Nat} {r : List Nat} {i : Nat} (ht : t ≠ 0) (ht2 : t < 4294967296) (hk : k + i < 4294967296) (hb : ∀ x ∈ r, x < 256) : accB t (k + i) (secB (pieceS t k r i)) = true ∧ stOf (secB (pieceS t k r i)) = pieceS t k r i := by
  have h := pieceS_ok ht ht2 hk hb
  refine ⟨?_, unpackS_secB h⟩
  unfold accB
  rw [unpackE_secB h, unpackS_secB h]
  simp [pieceS]
theorem read_from {t k : Nat} {r : List Nat} {L : List (List Nat)} (ht : t ≠ 0) (ht2 : t < 4294967296) (hk : k + pieces r.length ≤ 4294967296) (hb : ∀ x ∈ r, x < 256)
    (hL : ∀ i b, i < pieces r.length → L[i]? = some b → b = secB (pieceS t k r i) ∨ accB t (k + i) b = false) : ∀ d i, i + (d + 1) = pieces r.length →
    (readJ t (k + i) (r.take (47 * i)) (L.drop i) = r :: readJ t (k + pieces r.length) [] (L.drop (pieces r.length)) ∧ ∀ x, i ≤ x → x < pieces r.length → L[x]? = some (secB (pieceS t k r x))) ∨
    (readJ t (k + i) (r.take (47 * i)) (L.drop i) = [] ∧ ∃ x, x < pieces r.length ∧ L[x]? ≠ some (secB (pieceS t k r x))) := by
  intro d
  induction d with
  | zero =>
    intro i hi
    cases hLi : L[i]? with
    | none =>
      refine .inr ⟨?_, i, by omega, by rw [hLi]; simp⟩
      rw [List.drop_of_length_le (List.getElem?_eq_none_iff.1 hLi)]; rfl
    | some b =>
      obtain ⟨hil, hbi⟩ := List.getElem?_eq_some_iff.1 hLi
      rw [List.drop_eq_getElem_cons hil, hbi]
      rcases hL i b (by omega) hLi with rfl | h
      · obtain ⟨h1, h2⟩ := accB_right (k := k) (i := i) ht ht2 (by omega) hb
        refine .inl ⟨?_, fun x h3 h4 => by rw [show x = i by omega]; exact hLi⟩
        have hlast : (pieceS t k r i).last = true := by unfold pieceS; simp; omega
        have hdata : r.take (47 * i) ++ (pieceS t k r i).data = r := by
          unfold pieceS
          simp only
          rw [← List.take_add, List.take_of_length_le]
          unfold pieces at hi; omega
        rw [readJ_cons, if_pos h1, h2, if_pos hlast, hdata, show k + i + 1 = k + pieces r.length by omega, show i + 1 = pieces r.length by omega]
      · refine .inr ⟨?_, i, by omega, fun e => ?_⟩
        · rw [readJ_cons, if_neg (by rw [h]; decide)]
        · rw [hLi] at e
          cases e
          rw [(accB_right (k := k) (r := r) (i := i) ht ht2 (by omega) hb).1] at h; cases h
  | succ d ih =>
    intro i hi
    cases hLi : L[i]? with
    | none =>
      refine .inr ⟨?_, i, by omega, by rw [hLi]; simp⟩
      rw [List.drop_of_length_le (List.getElem?_eq_none_iff.1 hLi)]; rfl
    | some b =>
      obtain ⟨hil, hbi⟩ := List.getElem?_eq_some_iff.1 hLi
      rw [List.drop_eq_getElem_cons hil, hbi]
      rcases hL i b (by omega) hLi with rfl | h
      · obtain ⟨h1, h2⟩ := accB_right (k := k) (i := i) ht ht2 (by omega) hb
        have hlast : (pieceS t k r i).last = false := by unfold pieceS; simp; omega
        have hstep : readJ t (k + i) (r.take (47 * i)) (secB (pieceS t k r i) :: L.drop (i + 1)) = readJ t (k + (i + 1)) (r.take (47 * (i + 1))) (L.drop (i + 1)) := by
          rw [readJ_cons, if_pos h1, h2, if_neg (by rw [hlast]; decide)]
          unfold pieceS
          simp only
          rw [← List.take_add, show 47 * i + 47 = 47 * (i + 1) by omega, Nat.add_assoc]
        rw [hstep]
        rcases ih (i + 1) (by omega) with ⟨h3, h4⟩ | h3
        · refine .inl ⟨h3, fun x h5 h6 => ?_⟩
          rcases Nat.eq_or_lt_of_le h5 with h7 | h7
          · rw [← h7]; exact hLi
          · exact h4 x h7 h6
        · exact .inr h3
      · refine .inr ⟨?_, i, by omega, fun e => ?_⟩
        · rw [readJ_cons, if_neg (by rw [h]; decide)]
        · rw [hLi] at e
          cases e
          rw [(accB_right (k := k) (r := r) (i := i) ht ht2 (by omega) hb).1] at h; cases h
theorem secsJ_length (t k : Nat) (R : List (List Nat)) : (secsJ t k R).length = (R.map fun r => pieces r.length).sum := by
  induction R generalizing k with
  | nil => rfl
  | cons r R ih => simp [secsJ, splitS_length, ih]
/-- What is told: a beginning of the records, each whole; all those whose sectors are there. -/
theorem read_begins {t : Nat} (ht : t ≠ 0) (ht2 : t < 4294967296) (R : List (List Nat)) : ∀ (k : Nat) (L : List (List Nat)), (∀ r ∈ R, ∀ x ∈ r, x < 256) → k + (secsJ t k R).length ≤ 4294967296 →
    (∀ (i : Nat) (b : List Nat), L[i]? = some b → (∃ s, (secsJ t k R)[i]? = some s ∧ b = secB s) ∨ accB t (k + i) b = false) →
    ∃ j, j ≤ R.length ∧ readJ t k [] L = R.take j ∧ ∀ c, c ≤ R.length → (∀ (i : Nat) (s : Sec), (secsJ t k (R.take c))[i]? = some s → L[i]? = some (secB s)) → c ≤ j := by
  induction R with
  | nil =>
    intro k L _ _ h
    refine ⟨0, Nat.le_refl _, ?_, fun c hc _ => hc⟩
    cases L with
    | nil => rfl
    | cons b L =>
      rcases h 0 b rfl with ⟨s, hs, _⟩ | h1
      · simp [secsJ] at hs
      · rw [readJ_cons, if_neg (by rw [Nat.add_zero] at h1; rw [h1]; decide)]; rfl
  | cons r R ih =>
    intro k L hb hk h
    have hn := pieces_pos r.length
    have hlen : (secsJ t k (r :: R)).length = pieces r.length + (secsJ t (k + pieces r.length) R).length := by simp [secsJ, splitS_length]
    have hget : ∀ i, i < pieces r.length → (secsJ t k (r :: R))[i]? = some (pieceS t k r i) := fun i hi => by
      show (splitS t k r ++ _)[i]? = _
      rw [List.getElem?_append_left (by rw [splitS_length]; exact hi), splitS_get hi]
    have hL : ∀ i b, i < pieces r.length → L[i]? = some b → b = secB (pieceS t k r i) ∨ accB t (k + i) b = false := fun i b hi hLi => by
      rcases h i b hLi with ⟨s, hs, hbs⟩ | h1
      · rw [hget i hi] at hs; cases hs; exact .inl hbs
      · exact .inr h1
    have h0 := read_from (L := L) ht ht2 (by omega) (hb r List.mem_cons_self) hL (pieces r.length - 1) 0 (by omega)
    rw [Nat.add_zero, Nat.mul_zero, List.take_zero, List.drop_zero] at h0
    rcases h0 with ⟨h1, h2⟩ | ⟨h1, x, hx, hxn⟩
    · obtain ⟨j, hj, hr, hc⟩ := ih (k + pieces r.length) (L.drop (pieces r.length)) (fun r' hr' => hb r' (List.mem_cons_of_mem _ hr')) (by omega) (fun i b hib => by
        rw [List.getElem?_drop] at hib
        rcases h _ b hib with ⟨s, hs, hbs⟩ | h3
        · refine .inl ⟨s, ?_, hbs⟩
          have e : (splitS t k r ++ secsJ t (k + pieces r.length) R)[pieces r.length + i]? = some s := hs
          rw [List.getElem?_append_right (by rw [splitS_length]; omega), splitS_length, show pieces r.length + i - pieces r.length = i by omega] at e
          exact e
        · exact .inr (by rw [Nat.add_assoc]; exact h3))
      refine ⟨j + 1, by simp; omega, by rw [h1, hr, List.take_succ_cons], fun c hcl hcr => ?_⟩
      cases c with
      | zero => omega
      | succ c =>
        have := hc c (by simp at hcl; omega) (fun i s hs => by
          rw [List.getElem?_drop]
          refine hcr (pieces r.length + i) s ?_
          rw [List.take_succ_cons]
          show (splitS t k r ++ secsJ t (k + pieces r.length) (R.take c))[pieces r.length + i]? = some s
          rw [List.getElem?_append_right (by rw [splitS_length]; omega), splitS_length, show pieces r.length + i - pieces r.length = i by omega]
          exact hs)
        omega
    · refine ⟨0, Nat.zero_le _, by rw [h1]; rfl, fun c hcl hcr => ?_⟩
      cases c with
      | zero => exact Nat.le_refl _
      | succ c =>
        refine absurd (hcr x (pieceS t k r x) ?_) hxn
        rw [List.take_succ_cons]
        show (splitS t k r ++ _)[x]? = _
        rw [List.getElem?_append_left (by rw [splitS_length]; exact hx), splitS_get hx]
theorem padB_whole {b : List Nat} (h : b.length = 64) : padB b = b := by unfold padB; rw [h]; simp
theorem crash_each (keep : Nat) (torn bytes : Int) (L : List (List Nat)) (off s : Nat) (A : List (List Nat)) (hA : ∀ b ∈ A, b.length = 64) (hL : Sect L) (j : Nat) (hj : j < L.length) (hoff : off + A.length ≤ L.length) :
    (∀ x y, off ≤ j → A[j - off]? = some x → L[j]? = some y → ∃ k, k ≤ 64 ∧ (crashed keep torn bytes L ((posW off A).zipIdx s))[j]? = some (x.take k ++ y.drop k)) ∧
    (j < off ∨ off + A.length ≤ j → (crashed keep torn bytes L ((posW off A).zipIdx s))[j]? = L[j]?) := by
  induction A generalizing L off s with
  | nil => exact ⟨fun x y _ h _ => by simp at h, fun _ => rfl⟩
  | cons b r ih =>
    have hb := hA b List.mem_cons_self
    have hlt : off < L.length := by rw [List.length_cons] at hoff; omega
    have hS : Sect (crash1 keep torn bytes L ((off, padB b), s)) := crash1_sect hL hlt (padB_length (Nat.le_of_eq hb))
    have hl : (crash1 keep torn bytes L ((off, padB b), s)).length = L.length := crash1_length _ _ _ _ _
    have h := ih (crash1 keep torn bytes L ((off, padB b), s)) (off + 1) (s + 1) (fun c hc => hA c (List.mem_cons_of_mem _ hc)) hS (by rw [hl]; exact hj) (by rw [hl]; rw [List.length_cons] at hoff; omega)
    have hgo : crashed keep torn bytes L ((posW off (b :: r)).zipIdx s) = crashed keep torn bytes (crash1 keep torn bytes L ((off, padB b), s)) ((posW (off + 1) r).zipIdx (s + 1)) := rfl
    rw [hgo]
    refine ⟨fun x y h1 h2 h3 => ?_, fun h1 => ?_⟩
    · by_cases e : off = j
      · subst e
        rw [Nat.sub_self] at h2
        cases h2
        rw [h.2 (.inl (by omega))]
        have hy := hL.get h3
        unfold crash1
        by_cases hk : kept keep s = true
        · simp only
          rw [if_pos hk, List.getElem?_set_self hlt, padB_whole hb]
          have hd : L.getD off [] = y := by simp [List.getD, h3]
          rw [hd]
          by_cases ht : (s : Int) = torn
          · rw [if_pos ht]; exact ⟨tornN bytes, tornN_le bytes, rfl⟩
          · rw [if_neg ht]; exact ⟨64, Nat.le_refl _, rfl⟩
        · simp only
          rw [if_neg hk, h3]
          exact ⟨0, Nat.zero_le _, rfl⟩
      · refine h.1 x y (by omega) ?_ ?_
        · rw [← h2, show j - off = (j - (off + 1)) + 1 by omega, List.getElem?_cons_succ]
        · rw [crash1_other (by exact e)]; exact h3
    · rw [List.length_cons] at h1
      rw [h.2 (by omega), crash1_other (by show off ≠ j; omega)]
/-- a sector's bytes over what lay there: the sector's, or none of this turn and place -/
theorem mix_ok {t i k : Nat} {s : Sec} {y : List Nat} (hs : s.Ok) (hy : y.length = 64) (hyb : ∀ x ∈ y, x < 256) (hye : y.take 8 = y.drop 56) (hne : (secB s).take 8 ≠ y.take 8) (hacc : accB t i y = false) (hk : k ≤ 64) :
    (secB s).take k ++ y.drop k = secB s ∨ accB t i ((secB s).take k ++ y.drop k) = false := by
  rcases unpack_torn (secB_length hs.2.1) hy (secB_small hs) hyb hk (by rw [secB_take, secB_drop hs.2.1]) hye hne with h | h | h
  · exact .inl h
  · exact .inr (by rw [h]; exact hacc)
  · exact .inr (by unfold accB; rw [h]; rfl)
/-- what lay there is no sector of this turn -/
structure OldAt (t : Nat) (y : List Nat) : Prop where
  len : y.length = 64
  small : ∀ x ∈ y, x < 256
  ends : y.take 8 = y.drop 56
  other : ∀ i, accB t i y = false
  stamp : ∀ p, stampB t p ≠ y.take 8
theorem old_zero {t : Nat} (ht : t ≠ 0) (ht2 : t < 4294967296) : OldAt t (List.replicate 64 0) :=
  ⟨by simp, fun x hx => by rw [(List.mem_replicate.1 hx).2]; omega, rfl, fun i => by unfold accB; rw [unpackE_zero]; rfl, fun p h => ht (numB_zero (zeroL_iff.2 fun x hx => by
    have h1 : x ∈ stampB t p := by unfold stampB; exact List.mem_append_left _ hx
    rw [h] at h1
    exact (List.mem_replicate.1 (List.mem_of_mem_take h1)).2) ht2)⟩
theorem old_other {t : Nat} {s : Sec} (hs : s.Ok) (ht2 : t < 4294967296) (hne : s.turn ≠ t) : OldAt t (secB s) :=
  ⟨secB_length hs.2.1, secB_small hs, by rw [secB_take, secB_drop hs.2.1], fun i => by unfold accB; rw [unpackS_secB hs, decide_eq_false hne]; simp, fun p h => by
    rw [secB_take] at h
    have h1 := congrArg (fun l => valB (l.take 4)) h
    simp only [stampB, List.take_left' (numB_length _ 4)] at h1
    rw [valB_numB (by omega), valB_numB (by have := hs.2.2.1; omega)] at h1
    exact hne h1.symm⟩
/-- what lay at place i is no sector of this turn, nor does it end as one of this turn and place -/
structure OldT (t i : Nat) (y : List Nat) : Prop where
  len : y.length = 64
  small : ∀ x ∈ y, x < 256
  other : accB t i y = false
  tail : y.drop 56 ≠ stampB t i
theorem OldAt.at {t : Nat} {y : List Nat} (h : OldAt t y) (i : Nat) : OldT t i y := ⟨h.len, h.small, h.other i, fun e => h.stamp i (by rw [h.ends]; exact e.symm)⟩
/-- a sector that is one of this turn and place ends as one -/
theorem acc_tail {t i : Nat} {z : List Nat} (h : accB t i z = true) (hl : z.length = 64) (hb : ∀ x ∈ z, x < 256) (ht : t < 4294967296) (hi : i < 4294967296) : z.drop 56 = stampB t i := by
  unfold accB at h
  simp only [Bool.and_eq_true, decide_eq_true_eq] at h
  obtain ⟨⟨h1, h2⟩, h3⟩ := h
  have hs : stOf z = ⟨(stampOf z).1, (stampOf z).2, decide (128 ≤ z.getD 8 0), (stRowOf z).take (bears z)⟩ := by unfold stOf; rw [if_pos h1]
  rw [hs] at h2 h3
  have he : stampOf z = stampOf (z.drop 56) := by
    by_cases hn : stampOf z = stampOf (z.drop 56)
    · exact hn
    · unfold unpackE at h1
      rw [if_neg (by omega), if_neg (by omega)] at h1
      by_cases hz : zeroL z = true
      · rw [if_pos hz] at h1; cases h1
      · rw [if_neg hz, if_pos hn] at h1; cases h1
  refine stampOf_inj (by rw [List.length_drop]; omega) (stampB_length _ _) (fun x hx => hb x (List.mem_of_mem_drop hx)) (stampB_small _ _) ?_
  rw [← he, stampOf_B ht hi]
  exact Prod.ext h2 h3
/-- a sector's bytes over such: the sector's, or again such -/
theorem mix_old {t i k : Nat} {s : Sec} {y : List Nat} (hs : s.Ok) (hst : s.turn = t) (hp : s.place = i) (hy : OldT t i y) (hk : k ≤ 64) :
    (secB s).take k ++ y.drop k = secB s ∨ OldT t i ((secB s).take k ++ y.drop k) := by
  have hX := secB_length hs.2.1
  have hlen := torn_length hX hy.len hk
  have hb : ∀ x ∈ (secB s).take k ++ y.drop k, x < 256 := fun x hx => by
    rcases List.mem_append.1 hx with h | h
    · exact secB_small hs x (List.mem_of_mem_take h)
    · exact hy.small x (List.mem_of_mem_drop h)
  by_cases htl : ((secB s).take k ++ y.drop k).drop 56 = stampB t i
  · left
    by_cases hk2 : k ≤ 56
    · refine absurd ?_ hy.tail
      rw [← htl]
      refine List.ext_getElem? fun j => ?_
      rw [List.getElem?_drop, List.getElem?_drop, torn_at hX hy.len hk, if_neg (by omega)]
    · have hd : (secB s).drop 56 = stampB t i := by rw [secB_drop hs.2.1, hst, hp]
      refine List.ext_getElem? fun j => ?_
      by_cases hj : j < 56
      · rw [torn_at hX hy.len hk, if_pos (by omega)]
      · have h1 := congrArg (·[j - 56]?) (htl.trans hd.symm)
        simp only [List.getElem?_drop] at h1
        rwa [show 56 + (j - 56) = j by omega] at h1
  · right
    refine ⟨hlen, hb, ?_, htl⟩
    cases ha : accB t i ((secB s).take k ++ y.drop k) with
    | false => rfl
    | true => exact absurd (acc_tail ha hlen hb (by rw [← hst]; exact hs.2.2.1) (by rw [← hp]; exact hs.2.2.2.1)) htl
/-- behind a crash each of a journal's sectors is the right one, or none of its turn -/
theorem crash_right {t frm n a keep : Nat} {torn bytes : Int} {L : List (List Nat)} {E : List Sec} (hE : ∀ s ∈ E, s.Ok ∧ s.turn = t) (hpl : ∀ (i : Nat) (s : Sec), E[i]? = some s → s.place = i) (hL : Sect L) (hfn : frm + n ≤ L.length) (hEn : E.length ≤ n) (ha : a ≤ E.length)
    (hdone : ∀ i s, i < a → E[i]? = some s → L[frm + i]? = some (secB s)) (hold : ∀ i y, a ≤ i → i < n → L[frm + i]? = some y → OldT t i y) :
    ∀ i b, i < n → (crashed keep torn bytes L ((posW (frm + a) ((E.drop a).map secB)).zipIdx))[frm + i]? = some b → (∃ s, E[i]? = some s ∧ b = secB s) ∨ OldT t i b := by
  intro i b hi hb
  have hA : ∀ x ∈ (E.drop a).map secB, x.length = 64 := fun x hx => by
    obtain ⟨s, hs, rfl⟩ := List.mem_map.1 hx
    exact secB_length (hE s (List.mem_of_mem_drop hs)).1.2.1
  have hlen : ((E.drop a).map secB).length = E.length - a := by rw [List.length_map, List.length_drop]
  obtain ⟨h1, h2⟩ := crash_each keep torn bytes L (frm + a) 0 ((E.drop a).map secB) hA hL (frm + i) (by omega) (by rw [hlen]; omega)
  have hfi : frm + i < L.length := by omega
  obtain ⟨y, hy⟩ : ∃ y, L[frm + i]? = some y := ⟨L[frm + i], List.getElem?_eq_getElem hfi⟩
  by_cases hia : i < a
  · have h3 := h2 (.inl (by omega))
    obtain ⟨s, hs⟩ : ∃ s, E[i]? = some s := ⟨E[i]'(by omega), List.getElem?_eq_getElem _⟩
    rw [h3, hdone i s hia hs] at hb
    cases hb
    exact .inl ⟨s, hs, rfl⟩
  · by_cases hie : i < E.length
    · obtain ⟨s, hs⟩ : ∃ s, E[i]? = some s := ⟨E[i], List.getElem?_eq_getElem hie⟩
      obtain ⟨k, hk, h3⟩ := h1 (secB s) y (by omega) (by rw [show frm + i - (frm + a) = i - a by omega, List.getElem?_map, List.getElem?_drop, show a + (i - a) = i by omega, hs]; rfl) hy
      rw [h3] at hb
      cases hb
      have ho := hold i y (by omega) hi hy
      obtain ⟨hok, hst⟩ := hE s (List.mem_of_getElem? hs)
      rcases mix_old hok hst (hpl i s hs) ho hk with h | h
      · exact .inl ⟨s, hs, h⟩
      · exact .inr h
    · rw [h2 (.inr (by rw [hlen]; omega)), hy] at hb
      cases hb
      exact .inr (hold i b (by omega) hi hy)
theorem secsJ_ok {t : Nat} (ht : t ≠ 0) (ht2 : t < 4294967296) (R : List (List Nat)) : ∀ k, (∀ r ∈ R, ∀ x ∈ r, x < 256) → k + (secsJ t k R).length ≤ 4294967295 → ∀ s ∈ secsJ t k R, s.Ok ∧ s.turn = t := by
  induction R with
  | nil => intro k _ _ s hs; simp [secsJ] at hs
  | cons r R ih =>
    intro k hb hk s hs
    have hlen : (secsJ t k (r :: R)).length = pieces r.length + (secsJ t (k + pieces r.length) R).length := by simp [secsJ, splitS_length]
    rcases List.mem_append.1 (show s ∈ splitS t k r ++ secsJ t (k + pieces r.length) R from hs) with h | h
    · unfold splitS at h
      obtain ⟨i, hi, rfl⟩ := List.mem_map.1 h
      have := List.mem_range.1 hi
      exact ⟨pieceS_ok ht ht2 (by omega) (hb r List.mem_cons_self), rfl⟩
    · exact ih (k + pieces r.length) (fun r' hr' => hb r' (List.mem_cons_of_mem _ hr')) (by omega) s h
theorem secsJ_place (t : Nat) (R : List (List Nat)) : ∀ (k i : Nat) (s : Sec), (secsJ t k R)[i]? = some s → s.place = k + i := by
  induction R with
  | nil => intro k i s h; simp [secsJ] at h
  | cons r R ih =>
    intro k i s h
    have h : (splitS t k r ++ secsJ t (k + pieces r.length) R)[i]? = some s := h
    by_cases hi : i < pieces r.length
    · rw [List.getElem?_append_left (by rw [splitS_length]; exact hi), splitS_get hi] at h
      cases h; rfl
    · rw [List.getElem?_append_right (by rw [splitS_length]; omega), splitS_length] at h
      rw [ih _ _ s h]; omega
theorem secsJ_take (t k : Nat) (R : List (List Nat)) (c : Nat) : ∀ (i : Nat) (s : Sec), (secsJ t k (R.take c))[i]? = some s → (secsJ t k R)[i]? = some s := by
  induction R generalizing k c with
  | nil => intro i s h; simp [secsJ] at h
  | cons r R ih =>
    intro i s h
    cases c with
    | zero => simp [secsJ] at h
    | succ c =>
      rw [List.take_succ_cons] at h
      have h : (splitS t k r ++ secsJ t (k + pieces r.length) (R.take c))[i]? = some s := h
      show (splitS t k r ++ secsJ t (k + pieces r.length) R)[i]? = some s
      by_cases hi : i < (splitS t k r).length
      · rw [List.getElem?_append_left hi] at h ⊢; exact h
      · rw [List.getElem?_append_right (by omega)] at h ⊢; exact ih _ _ _ _ h
/-- WHAT WAS COMMITTED IS KEPT: behind a crash the first c records are told, and of the others a beginning, each whole. -/
theorem read_crash {t frm n c keep : Nat} {torn bytes : Int} {L : List (List Nat)} {R : List (List Nat)} (ht : t ≠ 0) (ht2 : t < 4294967296) (hb : ∀ r ∈ R, ∀ x ∈ r, x < 256) (hL : Sect L) (hfn : frm + n ≤ L.length) (hn : n ≤ 8192) (hEn : (secsJ t 0 R).length ≤ n) (hc : c ≤ R.length)
    (ha : (secsJ t 0 (R.take c)).length ≤ (secsJ t 0 R).length)
    (hdone : ∀ i s, i < (secsJ t 0 (R.take c)).length → (secsJ t 0 R)[i]? = some s → L[frm + i]? = some (secB s)) (hold : ∀ i y, (secsJ t 0 (R.take c)).length ≤ i → i < n → L[frm + i]? = some y → OldT t i y) :
    ∃ j, c ≤ j ∧ j ≤ R.length ∧ readJ t 0 [] (((crashed keep torn bytes L ((posW (frm + (secsJ t 0 (R.take c)).length) (((secsJ t 0 R).drop (secsJ t 0 (R.take c)).length).map secB)).zipIdx)).drop frm).take n) = R.take j := by
  have hE := secsJ_ok ht ht2 R 0 hb (by omega)
  have hr := crash_right (keep := keep) (torn := torn) (bytes := bytes) hE (fun i s h => by rw [secsJ_place t R 0 i s h, Nat.zero_add]) hL hfn hEn ha hdone hold
  have hget : ∀ i, i < n → (((crashed keep torn bytes L ((posW (frm + (secsJ t 0 (R.take c)).length) (((secsJ t 0 R).drop (secsJ t 0 (R.take c)).length).map secB)).zipIdx)).drop frm).take n)[i]? = (crashed keep torn bytes L ((posW (frm + (secsJ t 0 (R.take c)).length) (((secsJ t 0 R).drop (secsJ t 0 (R.take c)).length).map secB)).zipIdx))[frm + i]? := fun i hi => by
    rw [List.getElem?_take_of_lt hi, List.getElem?_drop]
  obtain ⟨j, hj, hrd, hcc⟩ := read_begins ht ht2 R 0 (((crashed keep torn bytes L ((posW (frm + (secsJ t 0 (R.take c)).length) (((secsJ t 0 R).drop (secsJ t 0 (R.take c)).length).map secB)).zipIdx)).drop frm).take n) hb (by omega) (fun i b hi => by
    have hin : i < n := by have := (List.getElem?_eq_some_iff.1 hi).1; rw [List.length_take] at this; omega
    rw [hget i hin] at hi
    rw [Nat.zero_add]
    exact (hr i b hin hi).imp id OldT.other)
  refine ⟨j, hcc c hc (fun i s hs => ?_), hj, hrd⟩
  have hi : i < (secsJ t 0 (R.take c)).length := (List.getElem?_eq_some_iff.1 hs).1
  rw [hget i (by omega)]
  have hA : ∀ x ∈ ((secsJ t 0 R).drop (secsJ t 0 (R.take c)).length).map secB, x.length = 64 := fun x hx => by
    obtain ⟨s, hs, rfl⟩ := List.mem_map.1 hx
    exact secB_length (hE s (List.mem_of_mem_drop hs)).1.2.1
  rw [(crash_each keep torn bytes L (frm + (secsJ t 0 (R.take c)).length) 0 _ hA hL (frm + i) (by omega) (by rw [List.length_map, List.length_drop]; omega)).2 (.inl (by omega))]
  exact hdone i s hi (secsJ_take t 0 R c i s hs)
def SmallL (L : List (List Nat)) : Prop := ∀ s ∈ L, ∀ x ∈ s, x < 256
structure SmallD (d : Dev) : Prop where
  lies : SmallL d.lies
  waits : ∀ y ∈ d.waits, ∀ x ∈ y.2, x < 256
theorem SmallL.set {L : List (List Nat)} (h : SmallL L) {i : Nat} {b : List Nat} (hb : ∀ x ∈ b, x < 256) : SmallL (L.set i b) := fun s hs => by
  rcases List.mem_or_eq_of_mem_set hs with h1 | h1
  · exact h s h1
  · rw [h1]; exact hb
theorem SmallL.laid {L : List (List Nat)} (h : SmallL L) {ws : List (Nat × List Nat)} (hw : ∀ y ∈ ws, ∀ x ∈ y.2, x < 256) : SmallL (laid L ws) := by
  unfold Go.Proofs.YtcdgbmeechnpiaaDoor.laid
  induction ws generalizing L with
  | nil => exact h
  | cons y r ih => rw [List.foldl_cons]; exact ih (h.set (hw y List.mem_cons_self)) (fun z hz => hw z (List.mem_cons_of_mem _ hz))
theorem SmallL.crash1 {L : List (List Nat)} (h : SmallL L) (keep : Nat) (torn bytes : Int) {x : (Nat × List Nat) × Nat} (hx : ∀ y ∈ x.1.2, y < 256) : SmallL (crash1 keep torn bytes L x) := by
  unfold Go.Proofs.YtcdgbmeechnpiaaDoor.crash1
  split
  · refine h.set fun y hy => ?_
    rcases List.mem_append.1 hy with h1 | h1
    · exact hx y (List.mem_of_mem_take h1)
    · have h2 := List.mem_of_mem_drop h1
      by_cases hi : x.1.1 < L.length
      · rw [List.getD, List.getElem?_eq_getElem hi] at h2
        exact h _ (List.getElem_mem hi) y h2
      · rw [List.getD, List.getElem?_eq_none (by omega)] at h2
        simp at h2
  · exact h
theorem SmallL.crashed {L : List (List Nat)} (h : SmallL L) (keep : Nat) (torn bytes : Int) {ws : List ((Nat × List Nat) × Nat)} (hw : ∀ y ∈ ws, ∀ x ∈ y.1.2, x < 256) : SmallL (crashed keep torn bytes L ws) := by
  unfold Go.Proofs.YtcdgbmeechnpiaaDoor.crashed
  induction ws generalizing L with
  | nil => exact h
  | cons y r ih => rw [List.foldl_cons]; exact ih (h.crash1 keep torn bytes (hw y List.mem_cons_self)) (fun z hz => hw z (List.mem_cons_of_mem _ hz))
theorem padB_small {b : List Nat} (h : ∀ x ∈ b, x < 256) : ∀ x ∈ padB b, x < 256 := fun x hx => by
  unfold padB at hx
  rcases List.mem_append.1 hx with h1 | h1
  · exact h x h1
  · have := List.mem_replicate.1 h1; omega
theorem posW_small {A : List (List Nat)} (h : SmallL A) : ∀ off, ∀ y ∈ posW off A, ∀ x ∈ y.2, x < 256 := by
  induction A with
  | nil => intro off y hy; simp [posW] at hy
  | cons b r ih =>
    intro off y hy
    rcases List.mem_cons.1 hy with h1 | h1
    · rw [h1]; exact padB_small (h b List.mem_cons_self)
    · exact ih (fun s hs => h s (List.mem_cons_of_mem _ hs)) (off + 1) y h1
theorem SmallD.fresh (n : Nat) : SmallD (Dev.fresh n) := ⟨fun s hs x hx => by
  rw [(List.mem_replicate.1 hs).2] at hx
  have := List.mem_replicate.1 hx; omega, fun y hy => by simp [Dev.fresh] at hy⟩
theorem SmallD.writes {d : Dev} (h : SmallD d) {A : List (List Nat)} (hA : SmallL A) (off : Nat) : SmallD (d.writes off A) := ⟨h.lies, fun y hy => by
  rcases List.mem_append.1 hy with h1 | h1
  · exact h.waits y h1
  · exact posW_small hA off y h1⟩
theorem SmallD.told {d : Dev} (h : SmallD d) : SmallL d.told := h.lies.laid h.waits
theorem SmallD.flush {d : Dev} (h : SmallD d) : SmallD d.flush := ⟨h.told, fun y hy => by simp [Dev.flush] at hy⟩
theorem SmallD.crash {d : Dev} (h : SmallD d) (keep : Nat) (torn bytes : Int) : SmallD (d.crash keep torn bytes) := ⟨h.lies.crashed keep torn bytes (fun y hy => h.waits y.1 (by rw [(List.mem_zipIdx hy).2.2]; exact List.getElem_mem _)), fun y hy => by simp [Dev.crash] at hy⟩
theorem SmallD.up {d : Dev} (h : SmallD d) : SmallD d.up := ⟨h.lies, h.waits⟩
theorem SmallL.nils (n : Nat) : SmallL (List.replicate n []) := fun s hs x hx => by rw [(List.mem_replicate.1 hs).2] at hx; simp at hx
def usedJ (R : List (List Nat)) : Nat := (R.map fun r => pieces r.length).sum
theorem usedJ_nil : usedJ [] = 0 := rfl
theorem usedJ_append (R S : List (List Nat)) : usedJ (R ++ S) = usedJ R + usedJ S := by simp [usedJ]
theorem usedJ_one (r : List Nat) : usedJ [r] = pieces r.length := by simp [usedJ]
theorem usedJ_secs (t k : Nat) (R : List (List Nat)) : (secsJ t k R).length = usedJ R := secsJ_length t k R
theorem usedJ_take (R : List (List Nat)) (c : Nat) : usedJ (R.take c) ≤ usedJ R := by
  conv => rhs; rw [← List.take_append_drop c R, usedJ_append]
  omega
theorem usedJ_pos {R : List (List Nat)} (h : R ≠ []) : 1 ≤ usedJ R := by
  cases R with
  | nil => exact absurd rfl h
  | cons r R => have := pieces_pos r.length; simp [usedJ]; omega
theorem secsJ_append (t : Nat) (R S : List (List Nat)) : ∀ k, secsJ t k (R ++ S) = secsJ t k R ++ secsJ t (k + usedJ R) S := by
  induction R with
  | nil => intro k; rfl
  | cons r R ih =>
    intro k
    show splitS t k r ++ secsJ t (k + pieces r.length) (R ++ S) = (splitS t k r ++ secsJ t (k + pieces r.length) R) ++ _
    rw [ih, List.append_assoc, show usedJ (r :: R) = pieces r.length + usedJ R by simp [usedJ], Nat.add_assoc]
theorem secsJ_one (t k : Nat) (r : List Nat) : secsJ t k [r] = splitS t k r := by simp [secsJ]
theorem posW_append (off : Nat) (A B : List (List Nat)) : posW off (A ++ B) = posW off A ++ posW (off + A.length) B := by
  induction A generalizing off with
  | nil => rfl
  | cons c r ih => simp only [List.cons_append, posW, ih, List.length_cons]; rw [show off + 1 + r.length = off + (r.length + 1) by omega]
/-- t: its turn; from frm, n sectors; its records, the first c of them committed; z: 0 lay there -/
structure JKeep (z : Bool) (t frm n : Nat) (R : List (List Nat)) (c : Nat) (d : Dev) : Prop where
  turn : t ≠ 0 ∧ t < 4294967296
  small : ∀ r ∈ R, ∀ x ∈ r, x < 256
  fit : usedJ R ≤ n
  cl : c ≤ R.length
  up : d.down = false
  calm : d.after = 0
  range : frm + n ≤ d.lies.length
  waits : d.waits = posW (frm + usedJ (R.take c)) (((secsJ t 0 R).drop (usedJ (R.take c))).map secB)
  done : ∀ i s, i < usedJ (R.take c) → (secsJ t 0 R)[i]? = some s → d.lies[frm + i]? = some (secB s)
  old : ∀ i y, usedJ (R.take c) ≤ i → i < n → d.lies[frm + i]? = some y → OldT t i y ∧ (z = true → y = List.replicate 64 0)
section
variable {z : Bool} {t frm n c : Nat} {R : List (List Nat)} {d : Dev}
theorem JKeep.room (h : JKeep z t frm n R c d) (hok : d.Ok) : n ≤ 8192 := by have := h.range; have := hok.size; omega
theorem JKeep.secs (h : JKeep z t frm n R c d) (hok : d.Ok) : ∀ s ∈ secsJ t 0 R, s.Ok ∧ s.turn = t := secsJ_ok h.turn.1 h.turn.2 R 0 h.small (by have := h.fit; have := h.room hok; rw [usedJ_secs]; omega)
/-- nothing written yet -/
theorem JKeep.new (ht : t ≠ 0 ∧ t < 4294967296) (hup : d.down = false) (hc : d.after = 0) (hr : frm + n ≤ d.lies.length) (hw : d.waits = []) (hold : ∀ i y, i < n → d.lies[frm + i]? = some y → OldT t i y ∧ (z = true → y = List.replicate 64 0)) : JKeep z t frm n [] 0 d :=
  ⟨ht, fun r h => by simp at h, Nat.zero_le _, Nat.le_refl _, hup, hc, hr, by rw [hw]; rfl, fun i s h _ => by simp [usedJ] at h, fun i y _ h1 h2 => hold i y h1 h2⟩
/-- of a wiped device -/
theorem JKeep.zero (ht : t ≠ 0 ∧ t < 4294967296) (hup : d.down = false) (hc : d.after = 0) (hr : frm + n ≤ d.lies.length) (hw : d.waits = []) (hold : ∀ i y, i < n → d.lies[frm + i]? = some y → y = List.replicate 64 0) : JKeep z t frm n [] 0 d :=
  JKeep.new ht hup hc hr hw fun i y h1 h2 => by rw [hold i y h1 h2]; exact ⟨(old_zero ht.1 ht.2).at i, fun _ => rfl⟩
/-- a record more, written -/
theorem JKeep.write (h : JKeep z t frm n R c d) {r : List Nat} (hr : ∀ x ∈ r, x < 256) (hf : usedJ R + pieces r.length ≤ n) : JKeep z t frm n (R ++ [r]) c (d.writes (frm + usedJ R) ((splitS t (usedJ R) r).map secB)) := by
  have hE : secsJ t 0 (R ++ [r]) = secsJ t 0 R ++ splitS t (usedJ R) r := by rw [secsJ_append, secsJ_one, Nat.zero_add]
  have ht : (R ++ [r]).take c = R.take c := by rw [List.take_append_of_le_length h.cl]
  have hl := usedJ_secs t 0 R
  have ha := usedJ_take R c
  refine ⟨h.turn, fun x hx => ?_, by rw [usedJ_append, usedJ_one]; exact hf, by rw [List.length_append]; have := h.cl; omega, h.up, h.calm, h.range, ?_, fun i s hi hs => ?_, fun i y hi => ?_⟩
  · rcases List.mem_append.1 hx with h1 | h1
    · exact h.small x h1
    · rw [List.mem_singleton.1 h1]; exact hr
  · rw [ht, hE, List.drop_append_of_le_length (by omega), List.map_append, posW_append]
    show d.waits ++ _ = _
    rw [h.waits]
    congr 2
    rw [List.length_map, List.length_drop]
    omega
  · rw [ht] at hi
    rw [hE, List.getElem?_append_left (by omega)] at hs
    exact h.done i s hi hs
  · rw [ht] at hi
    exact h.old i y hi
theorem JKeep.told_at (h : JKeep z t frm n R c d) (hok : d.Ok) (i : Nat) (hi : i < n) : d.told[frm + i]? = if i < usedJ R then ((secsJ t 0 R)[i]?).map secB else d.lies[frm + i]? := by
  have hl := usedJ_secs t 0 R
  have ha := usedJ_take R c
  have hr := h.range
  unfold Dev.told
  rw [h.waits, laid_pos _ _ _ _ (by omega), List.length_map, List.length_drop]
  by_cases h1 : i < usedJ (R.take c)
  · rw [if_neg (by omega), if_pos (by omega)]
    obtain ⟨s, hs⟩ : ∃ s, (secsJ t 0 R)[i]? = some s := ⟨_, List.getElem?_eq_getElem (by omega)⟩
    rw [h.done i s h1 hs, hs]; rfl
  · by_cases h2 : i < usedJ R
    · rw [if_pos (by omega), if_pos h2, List.getElem?_map, List.getElem?_drop, show usedJ (R.take c) + (frm + i - (frm + usedJ (R.take c))) = i by omega]
      obtain ⟨s, hs⟩ : ∃ s, (secsJ t 0 R)[i]? = some s := ⟨_, List.getElem?_eq_getElem (by omega)⟩
      rw [hs]
      show some (padB (secB s)) = some (secB s)
      rw [padB_whole (secB_length (h.secs hok s (List.mem_of_getElem? hs)).1.2.1)]
    · rw [if_neg (by omega), if_neg h2]
/-- flushed -/
theorem JKeep.flush (h : JKeep z t frm n R c d) (hok : d.Ok) : JKeep z t frm n R R.length d.flush := by
  have hl := usedJ_secs t 0 R
  have ha := usedJ_take R c
  have hf := h.fit
  have hT : R.take R.length = R := List.take_length
  refine ⟨h.turn, h.small, h.fit, Nat.le_refl _, h.up, h.calm, by show _ ≤ d.told.length; rw [d.told_length]; exact h.range, ?_, fun i s hi hs => ?_, fun i y hi hin hy => ?_⟩
  · rw [hT, List.drop_of_length_le (by omega)]; rfl
  · rw [hT] at hi
    show d.told[frm + i]? = _
    rw [h.told_at hok i (by omega), if_pos hi, hs]; rfl
  · rw [hT] at hi
    have hy : d.told[frm + i]? = some y := hy
    rw [h.told_at hok i hin, if_neg (by omega)] at hy
    exact h.old i y (by omega) hin hy
/-- the turn of the first sector -/
def turn0 (L : List (List Nat)) : Nat := (stOf (L.getD 0 [])).turn
/-- what Read tells of these sectors -/
def readsJ (L : List (List Nat)) : List (List Nat) := readJ (turn0 L) 0 [] L
theorem accB_zero (k : Nat) (b : List Nat) : accB 0 k b = false := by
  unfold accB
  by_cases h : unpackE b = 0
  · have h1 : (stOf b).turn ≠ 0 := by
      unfold stOf
      rw [if_pos h]
      intro h2
      have h2 : (stampOf b).1 = 0 := h2
      unfold unpackE at h
      split at h
      · cases h
      · split at h
        · cases h
        · split at h
          · cases h
          · split at h
            · cases h
            · rw [if_pos (.inl h2)] at h; cases h
    rw [decide_eq_false h1]; simp
  · rw [decide_eq_false h]; rfl
theorem readJ_zero (acc : List Nat) (L : List (List Nat)) (k : Nat) : readJ 0 k acc L = [] := by
  cases L with
  | nil => rfl
  | cons b L => rw [readJ_cons, if_neg (by rw [accB_zero]; decide)]
theorem reads_turn {L : List (List Nat)} (h : readJ t 0 [] L ≠ []) : turn0 L = t := by
  cases L with
  | nil => exact absurd rfl h
  | cons b L =>
    rw [readJ_cons] at h
    by_cases h1 : accB t 0 b = true
    · unfold accB at h1
      simp only [Bool.and_eq_true, decide_eq_true_eq] at h1
      exact h1.1.2
    · rw [if_neg h1] at h; exact absurd rfl h
theorem reads_same {L : List (List Nat)} (h : readJ t 0 [] L ≠ [] ∨ turn0 L = t ∨ turn0 L = 0) : readsJ L = readJ t 0 [] L := by
  unfold readsJ
  rcases h with h | h | h
  · rw [reads_turn h]
  · rw [h]
  · rw [h, readJ_zero]
    cases e : readJ t 0 [] L with
    | nil => rfl
    | cons a l =>
      have h2 := reads_turn (t := t) (L := L) (by rw [e]; simp)
      rw [h] at h2
      rw [← h2, readJ_zero] at e; cases e
theorem part_get {L : List (List Nat)} {i : Nat} (hi : i < n) : ((L.drop frm).take n)[i]? = L[frm + i]? := by rw [List.getElem?_take_of_lt hi, List.getElem?_drop]
theorem part_turn {L : List (List Nat)} {b : List Nat} (hn : 0 < n) (h : L[frm]? = some b) : turn0 ((L.drop frm).take n) = (stOf b).turn := by
  unfold turn0
  rw [List.getD, part_get hn, Nat.add_zero, h]; rfl
/-- told of a device with nothing of it lost -/
theorem JKeep.tells (h : JKeep z t frm n R c d) (hok : d.Ok) : readJ t 0 [] ((d.told.drop frm).take n) = R := by
  have hl := usedJ_secs t 0 R
  have hf := h.fit
  have hroom := h.room hok
  have hp : ∀ i, i < n → ((d.told.drop frm).take n)[i]? = d.told[frm + i]? := fun i hi => part_get hi
  obtain ⟨j, hj, hrd, hc⟩ := read_begins h.turn.1 h.turn.2 R 0 ((d.told.drop frm).take n) h.small (by omega) (fun i b hi => by
    have hin : i < n := by have := (List.getElem?_eq_some_iff.1 hi).1; rw [List.length_take] at this; omega
    rw [hp i hin, h.told_at hok i hin] at hi
    by_cases h1 : i < usedJ R
    · rw [if_pos h1] at hi
      obtain ⟨s, hs⟩ : ∃ s, (secsJ t 0 R)[i]? = some s := ⟨_, List.getElem?_eq_getElem (by omega)⟩
      rw [hs] at hi
      cases hi
      exact .inl ⟨s, hs, rfl⟩
    · rw [if_neg h1] at hi
      have ha := usedJ_take R c
      exact .inr (by rw [Nat.zero_add]; exact ((h.old i b (by omega) hin hi).1).other))
  have hjR : R.length ≤ j := hc R.length (Nat.le_refl _) (fun i s hs => by
    rw [List.take_length] at hs
    have hi : i < usedJ R := by have := (List.getElem?_eq_some_iff.1 hs).1; omega
    rw [hp i (by omega), h.told_at hok i (by omega), if_pos hi, hs]; rfl)
  rw [hrd, List.take_of_length_le hjR]
theorem JKeep.first (h : JKeep z t frm n R c d) (hok : d.Ok) (hz : z = true) (hn : 0 < n) : turn0 ((d.told.drop frm).take n) = if R = [] then 0 else t := by
  by_cases h1 : R = []
  · rw [if_pos h1]
    obtain ⟨y, hy⟩ : ∃ y, d.lies[frm]? = some y := ⟨_, List.getElem?_eq_getElem (by have := h.range; omega)⟩
    have hT := h.told_at hok 0 hn
    rw [if_neg (by rw [h1]; simp [usedJ]), Nat.add_zero, hy] at hT
    rw [part_turn hn hT, (h.old 0 y (by rw [h1]; simp [usedJ]) hn hy).2 hz]
    unfold stOf
    rw [unpackE_zero]; rfl
  · rw [if_neg h1]
    exact reads_turn (by rw [h.tells hok]; exact h1)
theorem JKeep.reads (h : JKeep z t frm n R c d) (hok : d.Ok) (hz : z = true) (hn : 0 < n) : readsJ ((d.told.drop frm).take n) = R := by
  rw [reads_same, h.tells hok]
  rw [h.first hok hz hn]
  split
  · exact .inr (.inr rfl)
  · exact .inr (.inl rfl)
/-- behind a crash: the records that were committed, and a beginning of the others -/
theorem JKeep.crash (h : JKeep z t frm n R c d) (hok : d.Ok) (keep : Nat) (torn bytes : Int) (hn : 0 < n) (hz : z = true ∨ 0 < c) :
    ∃ j, c ≤ j ∧ j ≤ R.length ∧ readsJ ((((d.crash keep torn bytes).up.told).drop frm).take n) = R.take j ∧ (0 < c → turn0 ((((d.crash keep torn bytes).up.told).drop frm).take n) = t) := by
  have hT : (d.crash keep torn bytes).up.told = crashed keep torn bytes d.lies ((posW (frm + usedJ (R.take c)) (((secsJ t 0 R).drop (usedJ (R.take c))).map secB)).zipIdx) := by
    show laid (crashed keep torn bytes d.lies d.waits.zipIdx) [] = _
    rw [h.waits]; rfl
  have hl := usedJ_secs t 0 R
  have ha := usedJ_take R c
  have hlc := usedJ_secs t 0 (R.take c)
  have hf := h.fit
  have hr := h.range
  obtain ⟨j, h1, h2, h3⟩ := read_crash (t := t) (frm := frm) (n := n) (c := c) (keep := keep) (torn := torn) (bytes := bytes) (L := d.lies) (R := R) h.turn.1 h.turn.2 h.small hok.sect h.range (h.room hok) (by omega) h.cl (by omega)
    (by rw [hlc]; exact h.done) (by rw [hlc]; exact fun i y hi hin hy => (h.old i y hi hin hy).1)
  rw [hlc] at h3
  rw [← hT] at h3
  have hne : 0 < c → R.take j ≠ [] := fun hc e => by
    have h5 := congrArg List.length e
    rw [List.length_take, List.length_nil] at h5
    have := h.cl
    omega
  refine ⟨j, h1, h2, ?_, fun hc => reads_turn (by rw [h3]; exact hne hc)⟩
  rw [reads_same, h3]
  rw [h3]
  by_cases hc : 0 < c
  · exact .inl (hne hc)
  right
  have hzt : z = true := hz.resolve_right hc
  have hc0 : c = 0 := by omega
  subst hc0
  have h0 : usedJ (R.take 0) = 0 := by simp [usedJ]
  obtain ⟨y, hy⟩ : ∃ y, d.lies[frm]? = some y := ⟨_, List.getElem?_eq_getElem (by omega)⟩
  have hyz := (h.old 0 y (by omega) hn (by rw [Nat.add_zero]; exact hy)).2 hzt
  subst hyz
  have hA : ∀ x ∈ (secsJ t 0 R).map secB, x.length = 64 := fun x hx => by
    obtain ⟨s, hs, rfl⟩ := List.mem_map.1 hx
    exact secB_length (h.secs hok s hs).1.2.1
  rw [h0, List.drop_zero, Nat.add_zero] at hT
  obtain ⟨e1, e2⟩ := crash_each keep torn bytes d.lies frm 0 ((secsJ t 0 R).map secB) hA hok.sect frm (by omega) (by rw [List.length_map]; omega)
  have t0 : (stOf (List.replicate 64 0)).turn = 0 := by unfold stOf; rw [unpackE_zero]; rfl
  by_cases hR : 0 < usedJ R
  · obtain ⟨s, hs⟩ : ∃ s, (secsJ t 0 R)[0]? = some s := ⟨_, List.getElem?_eq_getElem (by omega)⟩
    have hsO := h.secs hok s (List.mem_of_getElem? hs)
    obtain ⟨k, hk, e3⟩ := e1 (secB s) (List.replicate 64 0) (Nat.le_refl _) (by rw [Nat.sub_self, List.getElem?_map, hs]; rfl) hy
    rw [← hT] at e3
    rw [part_turn hn e3]
    have ho := old_zero h.turn.1 h.turn.2
    rcases unpack_torn (secB_length hsO.1.2.1) ho.len (secB_small hsO.1) ho.small hk (by rw [secB_take, secB_drop hsO.1.2.1]) ho.ends (by rw [secB_take, hsO.2]; exact ho.stamp _) with e4 | e4 | e4
    · rw [e4, unpackS_secB hsO.1]; exact .inl hsO.2
    · rw [e4]; exact .inr t0
    · refine .inr ?_
      unfold stOf
      rw [if_neg (by rw [e4]; decide)]; rfl
  · have e3 := e2 (.inr (by rw [List.length_map]; omega))
    rw [← hT, hy] at e3
    rw [part_turn hn e3]
    exact .inr t0
theorem crashed_none (torn bytes : Int) (L : List (List Nat)) (ws : List ((Nat × List Nat) × Nat)) : crashed 0 torn bytes L ws = L := by
  unfold crashed
  induction ws generalizing L with
  | nil => rfl
  | cons x r ih =>
    rw [List.foldl_cons, show crash1 0 torn bytes L x = L from if_neg (by simp [kept])]
    exact ih L
/-- where nothing is kept -/
theorem JKeep.lost (h : JKeep z t frm n R c d) (torn bytes : Int) : JKeep z t frm n (R.take c) c (d.crash 0 torn bytes).up := by
  have hT : (R.take c).take c = R.take c := by rw [List.take_take, Nat.min_self]
  have hl := usedJ_secs t 0 (R.take c)
  have hL : (d.crash 0 torn bytes).up.lies = d.lies := crashed_none _ _ _ _
  have hE := secsJ_append t (R.take c) (R.drop c) 0
  rw [List.take_append_drop] at hE
  refine ⟨h.turn, fun r hr => h.small r (List.mem_of_mem_take hr), Nat.le_trans (usedJ_take R c) h.fit, by rw [List.length_take]; have := h.cl; omega, rfl, rfl, by rw [hL]; exact h.range, ?_, fun i s hi hs => ?_, fun i y hi hin hy => ?_⟩
  · rw [hT, List.drop_of_length_le (by omega)]; rfl
  · rw [hT] at hi
    rw [hL]
    exact h.done i s hi (by rw [hE, List.getElem?_append_left (by omega)]; exact hs)
  · rw [hT] at hi
    rw [hL] at hy
    exact h.old i y hi hin hy
/-- a journal of another turn over it -/
theorem JKeep.over (h : JKeep z t frm n R R.length d) (hok : d.Ok) (hz : z = true) {t' : Nat} (ht : t' ≠ 0 ∧ t' < 4294967296) (hne : t ≠ t') : JKeep false t' frm n [] 0 d := by
  have hT : R.take R.length = R := List.take_length
  have hl := usedJ_secs t 0 R
  have hw := h.waits
  rw [hT, List.drop_of_length_le (by omega)] at hw
  refine JKeep.new ht h.up h.calm h.range hw fun i y hi hy => ⟨?_, fun e => by cases e⟩
  by_cases h1 : i < usedJ R
  · obtain ⟨s, hs⟩ : ∃ s, (secsJ t 0 R)[i]? = some s := ⟨_, List.getElem?_eq_getElem (by omega)⟩
    have := h.done i s (by rw [hT]; exact h1) hs
    rw [this] at hy
    cases hy
    have hsO := h.secs hok s (List.mem_of_getElem? hs)
    exact (old_other hsO.1 ht.2 (by rw [hsO.2]; exact hne)).at i
  · rw [(h.old i y (by rw [hT]; omega) hi hy).2 hz]
    exact (old_zero ht.1 ht.2).at i
end
/-- wiped -/
theorem wiped_lies {d : Dev} {frm n : Nat} (hr : frm + n ≤ d.lies.length) : ∀ i y, i < n → ((d.writes frm (List.replicate n [])).flush).lies[frm + i]? = some y → d.waits = [] → y = List.replicate 64 0 := by
  intro i y hi hy hw
  have e : ((d.writes frm (List.replicate n [])).flush).lies = laid d.lies (posW frm (List.replicate n [])) := by
    show laid d.lies (d.waits ++ posW frm (List.replicate n [])) = _
    rw [hw]; rfl
  rw [e, laid_pos _ _ _ _ (by omega), List.length_replicate, if_pos (by omega), List.getElem?_replicate, if_pos (by omega)] at hy
  cases hy
  simp [padB]
/-- is it what was committed, and a beginning of the others? -/
def beginsL (got done behind : List (List Nat)) : Bool := decide (done.length ≤ got.length ∧ got.length ≤ done.length + behind.length ∧ got = (done ++ behind).take got.length)
theorem begins_take {done behind : List (List Nat)} {j : Nat} (h1 : done.length ≤ j) (h2 : j ≤ (done ++ behind).length) : beginsL ((done ++ behind).take j) done behind = true := by
  unfold beginsL
  rw [decide_eq_true_eq]
  have h3 : ((done ++ behind).take j).length = j := by rw [List.length_take]; omega
  rw [List.length_append] at h2
  rw [h3]
  exact ⟨h1, h2, rfl⟩
theorem begins_self (R : List (List Nat)) : beginsL R R [] = true := by simp [beginsL]
end Go.Proofs.YtcdgbmeechnpiaaDoor
/- A record's sectors, laid one behind the other. -/
namespace Go.Proofs.YtcdgbmeechnpiaaDoor
open Go.RowKit

theorem DevIn.lt {w : World} {B P g1 g2 : Nat} {wv : Value} {d : Dev} (h : DevIn w B P g1 g2 wv d) {k : Nat} (hk : DBlk w P k) : k < w.heap.size := by
  rcases h.blks hk with h1 | h1 | h1 | h1
  · rw [h1]; exact h.blk.lt
  · rw [h1]; exact h.lies.lt
  · rw [h1]; exact h.told.lt
  · exact (h.waits.lt k h1).2
theorem DevAt.lt {w : World} {B P : Nat} {d : Dev} (h : DevAt w B P d) {k : Nat} (hk : DBlk w P k) : k < w.heap.size := by
  obtain ⟨g1, g2, wv, h⟩ := h; exact h.lt hk
/-- the device's blocks are what they were, where it was not touched -/
theorem dblk_on {w w' : World} {B P : Nat} {d : Dev} (h : DevAt w B P d) (hb : Below w.heap.size w w') {k : Nat} (hk : DBlk w' P k) : DBlk w P k := by
  obtain ⟨g1, g2, wv, h⟩ := h
  have hP : P < w.heap.size := h.blk.lt
  rcases hk with h1 | ⟨i, v, hi, hv, hk⟩
  · exact .inl h1
  · exact .inr ⟨i, v, hi, by rw [← hv]; exact (hb.cell (p := ⟨P, i, none⟩) hP).symm, hk⟩
/-- the error when a record doesn't go in -/
theorem joput_full {w : World} {J P frm n t k : Nat} {D : List Nat} {v : Value} (hJ : JAt w J P frm n t k) (hv : Lies w v D) (hk : k ≤ n) (hn : n ≤ 8192) (hbig : D.length ≤ 1000000000) (hf : n < k + pieces D.length) :
    Calls Tryd.prog 43 #[.pointer (some ⟨J, 0, none⟩), v] w fun e w' => e = .returned (.int .i64 6) ∧ Below w.heap.size w w' := by
  obtain ⟨a, c, rfl⟩ := lies_len hv
  obtain ⟨l, hl⟩ : ∃ l, l = D.length := ⟨_, rfl⟩
  obtain ⟨pc, hpc⟩ : ∃ p, p = pieces D.length := ⟨_, rfl⟩
  have HP : Hid (pc = pieces l) := Lib.hid (by rw [hl]; exact hpc)
  rw [← hpc] at hf
  rw [← hl] at hbig ⊢
  have HJ := Lib.hid hJ
  have t1 : decide (((n - k : Nat) : Int) < (pc : Int)) = true := by simp; omega
  clear hJ hv hl hpc
  go_enter Tryd.func43, Tryd.ntmps43
  go_wp2_with (first | (go_at_call 22; refine (jcost_any _ (m := l) (by omega)).mono ?_; rw [← HP.out]; rintro e w1 ⟨rfl, rfl⟩) | (go_at_call 44; refine (joleft_any HJ.out hk hn).mono ?_; rintro e w2 ⟨rfl, hb⟩; have HB := Lib.hid hb; clear hb))
  go_ret
  exact ⟨rfl, HB.out⟩
set_option maxRecDepth 1000000 in
set_option maxHeartbeats 8000000 in
theorem joput_ok {w : World} {B J P frm n t k : Nat} {d : Dev} {D : List Nat} {v : Value} (hJ : JAt w J P frm n t k) (h : DevAt w B P d) (hB : B ≤ w.heap.size) (hgB : 0 < B) (hJd : ¬ DBlk w P J) (hv : Lies w v D) (hD : ∀ x ∈ D, x < 256) (ht : t ≠ 0 ∧ t < 4294967296)
    (hr : frm + n ≤ d.lies.length) (hup : d.down = false) (ha : d.after = 0) (hm : d.waits.length ≤ 900000000) (hl : StepsLaid w) (hf : k + pieces D.length ≤ n) :
    Calls Tryd.prog 43 #[.pointer (some ⟨J, 0, none⟩), v] w fun e w' => e = .returned (.int .i64 0) ∧ DevAt w' B P (d.writes (frm + k) ((splitS t k D).map secB)) ∧ Kept P w w' := by
  obtain ⟨a, c, rfl⟩ := lies_len hv
  obtain ⟨l, hl0⟩ : ∃ l, l = D.length := ⟨_, rfl⟩
  obtain ⟨pc, hpc⟩ : ∃ p, p = pieces D.length := ⟨_, rfl⟩
  have HPC : Hid (pc = pieces l ∧ pc = pieces D.length) := Lib.hid (by rw [hl0]; exact ⟨hpc, hpc⟩)
  have hN : d.lies.length ≤ 8192 := h.ok.size
  have hbig : l ≤ 1000000000 := by rw [hpc.symm] at hf; have := HPC.out.1; unfold pieces at this; omega
  have HBIG : Hid (D.length ≤ 1000000000) := Lib.hid (by rw [← hl0]; exact hbig)
  rw [← hpc] at hf
  have hk : k ≤ n := by omega
  have hn : n ≤ 8192 := by omega
  have hpc1 : 1 ≤ pc := by rw [hpc]; exact pieces_pos _
  have HV : Hid (Lies w (.slice a l c) D) := Lib.hid (by rw [hl0]; exact hv)
  rw [← hl0]
  have HJ := Lib.hid hJ
  have HD := Lib.hid h
  have HT := Lib.hid hl
  have HTT := Lib.hid ht
  have HDX := Lib.hid hD
  have HJD := Lib.hid hJd
  have HR := Lib.hid hr
  have ht0 : ((t : Int) == 0) = false := by simp; exact ht.1
  obtain ⟨m, hmm⟩ : ∃ m, m = n - k := ⟨_, rfl⟩
  have HM := Lib.hid hmm
  have t1 : decide ((m : Int) < (pc : Int)) = false := by simp; omega
  have t2 : decide (m < pc) = false := by simp; omega
  have e1 : IntKind.u32.wrap (k : Int) = (k : Int) := by rw [IntKind.wrap_u32]; omega
  have HSE : Hid (splitE t k D.length = 0) := Lib.hid (by unfold splitE; rw [if_neg ht.1, if_pos (by rw [← hpc]; omega)])
  clear hJ h hv hl hpc hl0 ht hD hJd hr hmm
  go_enter Tryd.func43, Tryd.ntmps43
  go_wp2_with (first | (go_at_call 22; refine (jcost_any _ (m := l) (by omega)).mono ?_; rw [← HPC.out.1]; rintro e w1 ⟨rfl, rfl⟩) | (go_at_call 44; refine (joleft_any HJ.out hk hn).mono ?_; rw [← HM.out]; rintro e w2 ⟨rfl, hb⟩; have HB := Lib.hid hb; clear hb))
  obtain ⟨c0, c1, c2, c3, c4⟩ := (HJ.out.on HB.out).cells
  have hBd : Below w1.heap.size w1 w2.drew := HB.out.drew
  have HSP := Lib.hid (split_any (t := t) (p := k) (lies_on HV.out hBd) (by omega) HBIG.out)
  have HBD := Lib.hid hBd
  clear hBd
  go_cut [5, 6] (fun s5 s6 W => ∃ g r, s5 = .slice (some ⟨g, 0, none⟩) r.length r.length ∧ s6 = .int .i64 0 ∧ r.map Prod.fst = splitS t k D ∧ w1.heap.size ≤ g ∧ Arr W g 94 (rowC r) ∧ (∀ x ∈ r, LiesFrom w1.heap.size W x.2 x.1.data ∧ Fits x.2) ∧ Below w1.heap.size w1 W)
  case first =>
    go_region_with (go_at_call 53; refine (HSP.out).mono ?_; rintro e W3 hsp; rcases hsp with ⟨hne, _⟩ | ⟨_, g, r, rfl, hrf, hg, hA, hls, hb3⟩; exact absurd HSE.out hne; dsimp only)
    all_goals (simp only [List.getElem_toArray, List.getElem_cons_succ, List.getElem_cons_zero, Act.put, List.setIfInBounds_toArray, List.set_cons_succ, List.set_cons_zero])
    all_goals go_wp2_with fail
    all_goals go_meet
    all_goals exact ⟨g, r, rfl, rfl, hrf, Nat.le_trans HBD.out.size hg, hA, fun x hx => ⟨(hls x hx).1.mono HBD.out.size, (hls x hx).2⟩, HBD.out.trans (hb3.mono HBD.out.size)⟩
  case rest =>
    obtain ⟨g, r, rfl, rfl, hrf, hg, hA, hls, hb3⟩ := hcut
    have HDc : Hid (DevAt wc B P d) := Lib.hid (HD.out.beyond hb3)
    have HJc : Hid (JAt wc J P frm n t k) := Lib.hid (HJ.out.on hb3)
    have HJN : Hid (¬ DBlk wc P J) := Lib.hid (fun hh => HJD.out (dblk_on HD.out hb3 hh))
    have HGN : Hid (∀ q, w1.heap.size ≤ q → ¬ DBlk wc P q) := Lib.hid (fun q hq hh => by have := HD.out.lt (dblk_on HD.out hb3 hh); omega)
    have HA := Lib.hid hA
    have HLS := Lib.hid hls
    have HB3 := Lib.hid hb3
    have HRF := Lib.hid hrf
    have hBc : Hid (B ≤ wc.heap.size) := Lib.hid (Nat.le_trans hB hb3.size)
    have hrl : r.length = pc := by have := congrArg List.length hrf; rw [List.length_map, splitS_length, ← HPC.out.2] at this; exact this
    obtain ⟨L, hL⟩ : ∃ L, L = (splitS t k D).map secB := ⟨_, rfl⟩
    have hLl : L.length = pc := by rw [hL, List.length_map, splitS_length, HPC.out.2]
    have HL := Lib.hid hL
    rw [hrl]
    have HG := Lib.hid hg
    clear hA hls hb3 hrf hrl hL hg
    go_wp2_with fail
    go_loopw [39] (fun x wr => ∃ i : Nat, i ≤ pc ∧ x = .int .i64 (i : Int) ∧ DevAt wr B P (d.writes (frm + k) (L.take i)) ∧ Kept P wc wr) (fun x _ => pc - (intOf x).toNat)
    case atStart => exact ⟨0, by omega, rfl, by rw [List.take_zero, Dev.writes_nil]; exact HDc.out, Kept.refl _ _⟩
    case round =>
      obtain ⟨i, hi, rfl, hd, hkp⟩ := hrel
      have HDi := Lib.hid hd
      have HKi := Lib.hid hkp
      clear hd hkp
      by_cases hlt : i < pc
      · obtain ⟨x, hx⟩ : ∃ x, r[i]? = some x := ⟨r[i]'(by have := congrArg List.length HRF.out; rw [List.length_map, splitS_length, ← HPC.out.2] at this; omega), List.getElem?_eq_getElem _⟩
        have hx1 : x.1 = pieceS t k D i := by
          have h1 : (splitS t k D)[i]? = some x.1 := by rw [← HRF.out, List.getElem?_map, hx]; rfl
          rw [splitS_get (by rw [← HPC.out.2]; exact hlt)] at h1
          exact (Option.some.inj h1).symm
        have hok : x.1.Ok := by rw [hx1]; exact pieceS_ok HTT.out.1 HTT.out.2 (by omega) HDX.out
        have hpl : x.1.place = k + i := by rw [hx1]; rfl
        have hLi : L[i]? = some (secB x.1) := by rw [HL.out, List.getElem?_map, splitS_get (by rw [← HPC.out.2]; exact hlt), hx1]; rfl
        have hAr : Arr wr g 94 (rowC r) := HA.out.only HKi.out.only (HGN.out g HG.out)
        obtain ⟨y0, y1, y2, y3⟩ := strow_cells (off := 0) (fun j u hj => by rw [Nat.zero_add]; exact hAr.cell hj) hx
        have hls : Lies wr x.2 x.1.data := ((HLS.out x (List.mem_of_getElem? hx)).1.only HKi.out.only (fun b off j z hb _ => HGN.out b hb)).lies
        obtain ⟨s, u⟩ := x
        have HOK : Hid (s.Ok ∧ s.place = k + i ∧ L[i]? = some (secB s) ∧ Lies wr u s.data) := Lib.hid ⟨hok, hpl, hLi, hls⟩
        simp only at y0 y1 y2 y3
        rw [Nat.zero_add] at y0 y1 y2 y3
        obtain ⟨au, cu, hu⟩ := lies_len hls
        obtain ⟨nu, hnu⟩ : ∃ m, m = s.data.length := ⟨_, rfl⟩
        simp only at hu
        rw [← hnu] at hu
        subst hu
        clear hx hx1 hok hpl hLi hAr hls hnu
        go_wp2_with fail
        obtain ⟨W5, hW5⟩ : ∃ W, W = wr.alloc (.cells #[.int .u32 (s.turn : Int), .int .u32 (s.place : Int), .bool s.last, .slice au nu cu] 94) := ⟨_, rfl⟩
        rw [← hW5]
        have HB5 : Hid (Below wr.heap.size wr W5) := Lib.hid (by rw [hW5]; exact (Below.refl _ _).alloc (Nat.le_refl _) _)
        have hBr : B ≤ wr.heap.size := Nat.le_trans hBc.out HKi.out.only.size
        have hst : StepsLaid wr := HT.out.keep ((HB3.out.mono hB).trans (HDc.out.below hBc.out HKi.out)) hgB
        have hlt2 : frm + s.place < d.lies.length := by rw [HOK.out.2.1]; have := HR.out; omega
        have hwt : (d.writes (frm + k) (L.take i)).waits.length ≤ 1000000000 := by
          show (d.waits ++ _).length ≤ _
          rw [List.length_append, posW_length, List.length_take]; omega
        refine (jolay_ok (d := d.writes (frm + k) (L.take i)) (s := s) (u := .slice au nu cu) ((HJc.out.only HKi.out.only HJN.out).on HB5.out) (HDi.out.beyond HB5.out) (Nat.le_trans hBr HB5.out.size) HOK.out.1 (lies_on HOK.out.2.2.2 HB5.out) hup ha hlt2 hwt (hst.below HB5.out)).mono ?_
        rintro e w6 ⟨rfl, hd6, hk6⟩
        have hd7 : DevAt w6 B P (d.writes (frm + k) (L.take (i + 1))) := by
          rw [HOK.out.2.1, ← Nat.add_assoc, Dev.writes_next d (frm + k) HOK.out.2.2.1] at hd6; exact hd6
        have HD7 := Lib.hid hd7
        have HK7 : Hid (Kept P wc w6) := Lib.hid ((HKi.out.trans (kept_on HDi.out HB5.out)).trans hk6)
        clear hd6 hk6 hd7 hW5 y0 y1 y2 y3
        dsimp only
        go_wp2_with fail
        go_roundw
        case rel => exact ⟨i + 1, by omega, by simp, HD7.out, HK7.out⟩
        case measure => simp [intOf]; omega
      · obtain rfl : i = pc := by omega
        go_wp2
        go_ret
        have := HDi.out
        rw [List.take_of_length_le (by omega)] at this
        rw [HL.out] at this
        exact ⟨rfl, this, (kept_on HD.out HB3.out).trans HKi.out⟩
end Go.Proofs.YtcdgbmeechnpiaaDoor
/- A record written; committed. -/
namespace Go.Proofs.YtcdgbmeechnpiaaDoor
open Go.RowKit

/-- of the old blocks just the journal's and its device's are written -/
structure JKept (J P : Nat) (w w' : World) : Prop where
  only : Only (fun q => q = J ∨ DBlk w P q) w w'
  own : ∀ k, DBlk w' P k → DBlk w P k ∨ w.heap.size ≤ k
theorem Kept.jo {J P : Nat} {w w' : World} (h : Kept P w w') : JKept J P w w' := ⟨h.only.mono (fun _ _ hk => .inr hk), h.own⟩
theorem JKept.trans {J P : Nat} {a b c : World} (h : JKept J P a b) (k : JKept J P b c) : JKept J P a c :=
  ⟨h.only.trans k.only (fun i hi ht => ht.elim .inl (fun ht => (h.own i ht).elim .inr fun h1 => absurd hi (by omega))), fun i hi => (k.own i hi).elim (h.own i) fun h1 => .inr (Nat.le_trans h.only.size h1)⟩
/-- the journal's block set anew -/
theorem jkept_set {w w' : World} {B J P : Nat} {d : Dev} (h : DevAt w B P d) (hJ : ¬ DBlk w P J) (ho : Only (fun q => q = J) w w') : JKept J P w w' ∧ DevAt w' B P d := by
  have h' : DevAt w' B P d := h.only ho (fun k hk e => hJ (e ▸ hk))
  obtain ⟨g1, g2, wv, h⟩ := h
  have hP : P < w.heap.size := h.blk.lt
  have hPJ : P ≠ J := fun e => hJ (e ▸ h.isP)
  refine ⟨⟨ho.mono (fun _ _ hk => .inl hk), fun k hk => .inl ?_⟩, h'⟩
  rcases hk with h1 | ⟨i, v, hi, hv, hk⟩
  · exact .inl h1
  · exact .inr ⟨i, v, hi, by rw [← hv]; exact (World.cell?_of_block (a := ⟨P, i, none⟩) (ho.block P hP (fun e => hPJ e))).symm, hk⟩
theorem JAt.used {w : World} {J P frm n t k : Nat} (h : JAt w J P frm n t k) (k' : Nat) : JAt (w.setCell ⟨J, 4, none⟩ (.int .i64 (k' : Int))) J P frm n t k' := by
  have := Arr.set h 4 (.int .i64 (k' : Int))
  exact this
theorem jowrite_end {w w2 : World} {B J P frm n t k pc : Nat} {d : Dev} (hd : DevAt w2 B P d) (hk : Kept P w w2) (hJ : JAt w2 J P frm n t k) (hJd : ¬ DBlk w2 P J) :
    DevAt (w2.setCell ⟨J, 4, none⟩ (.int .i64 ((k : Int) + (pc : Int)))).drew B P d ∧ JAt (w2.setCell ⟨J, 4, none⟩ (.int .i64 ((k : Int) + (pc : Int)))).drew J P frm n t (k + pc) ∧ JKept J P w (w2.setCell ⟨J, 4, none⟩ (.int .i64 ((k : Int) + (pc : Int)))).drew := by
  have hA := JAt.used hJ (k + pc)
  rw [Int.natCast_add] at hA
  have ho : Only (fun q => q = J) w2 (w2.setCell ⟨J, 4, none⟩ (.int .i64 ((k : Int) + (pc : Int)))) := Only.setCell (S := fun q => q = J) _ (p := ⟨J, 4, none⟩) rfl _
  obtain ⟨k1, d1⟩ := jkept_set hd hJd ho
  exact ⟨d1.drew, hA.only (Only.drew (fun _ => False) _) (fun h => h), (hk.jo.trans k1).trans (kept_drew P _).jo⟩
set_option maxRecDepth 1000000 in
set_option maxHeartbeats 4000000 in
theorem jocommit_full {w : World} {J P frm n t k : Nat} {D : List Nat} {v : Value} (hJ : JAt w J P frm n t k) (hv : Lies w v D) (hk : k ≤ n) (hn : n ≤ 8192) (hbig : D.length ≤ 1000000000) (hf : n < k + pieces D.length) :
    Calls Tryd.prog 28 #[.pointer (some ⟨J, 0, none⟩), v] w fun e w' => e = .returned (.int .i64 6) ∧ Below w.heap.size w w' := by
  have HP := Lib.hid (joput_full hJ hv hk hn hbig hf)
  clear hJ hv hf
  go_enter Tryd.func28, Tryd.ntmps28
  go_wp2_with (go_at_call 43; refine (HP.out).mono ?_; rintro e w2 ⟨rfl, hb⟩; have HB := Lib.hid hb; clear hb)
  go_ret
  exact ⟨rfl, HB.out⟩
set_option maxRecDepth 1000000 in
set_option maxHeartbeats 8000000 in
theorem jocommit_ok {w : World} {B J P frm n t k : Nat} {d : Dev} {D : List Nat} {v : Value} (hJ : JAt w J P frm n t k) (h : DevAt w B P d) (hB : B ≤ w.heap.size) (hgB : 0 < B) (hJd : ¬ DBlk w P J) (hv : Lies w v D) (hD : ∀ x ∈ D, x < 256) (ht : t ≠ 0 ∧ t < 4294967296)
    (hr : frm + n ≤ d.lies.length) (hup : d.down = false) (ha : d.after = 0) (hm : d.waits.length ≤ 900000000) (hl : StepsLaid w) (hf : k + pieces D.length ≤ n) :
    Calls Tryd.prog 28 #[.pointer (some ⟨J, 0, none⟩), v] w fun e w' => e = .returned (.int .i64 0) ∧ DevAt w' B P (d.writes (frm + k) ((splitS t k D).map secB)).flush ∧ JAt w' J P frm n t (k + pieces D.length) ∧ JKept J P w w' := by
  have HP := Lib.hid (joput_ok hJ h hB hgB hJd hv hD ht hr hup ha hm hl hf)
  obtain ⟨a, c, rfl⟩ := lies_len hv
  have hN : d.lies.length ≤ 8192 := h.ok.size
  obtain ⟨l, hl0⟩ : ∃ l, l = D.length := ⟨_, rfl⟩
  obtain ⟨pc, hpc⟩ : ∃ p, p = pieces D.length := ⟨_, rfl⟩
  have HPC : Hid (pc = pieces l ∧ pc = pieces D.length) := Lib.hid (by rw [hl0]; exact ⟨hpc, hpc⟩)
  have hbig : l ≤ 1000000000 := by rw [hpc.symm] at hf; have := HPC.out.1; unfold pieces at this; omega
  rw [← hpc] at hf ⊢
  rw [← hl0] at HP ⊢
  have HJ := Lib.hid hJ
  have HD := Lib.hid h
  have HJD := Lib.hid hJd
  have e1 : IntKind.i64.wrap ((k : Int) + (pc : Int)) = ((k + pc : Nat) : Int) := by rw [IntKind.wrap_i64]; omega
  obtain ⟨d2, hd2⟩ : ∃ d2, d2 = d.writes (frm + k) ((splitS t k D).map secB) := ⟨_, rfl⟩
  have hup2 : d2.down = false := by rw [hd2]; exact hup
  rw [← hd2] at HP ⊢
  clear hJ h hJd hv hD ht hr hl hl0 hpc hd2
  go_enter Tryd.func28, Tryd.ntmps28
  go_wp2_with (first | (go_at_call 43; refine (HP.out).mono ?_; rintro e w2 ⟨rfl, hd3, hk3⟩; have c0 := (JAt.cells (HJ.out.only hk3.only HJD.out)).1; have HD3 := Lib.hid hd3; have HK3 := Lib.hid hk3; clear hd3 hk3; dsimp only) | (go_at_call 37; refine (flush_ok HD3.out hup2).mono ?_; rintro e w4 ⟨rfl, hd4, hk4⟩; have HD4 := Lib.hid hd4; have HK4 := Lib.hid hk4; clear hd4 hk4 c0; dsimp only))
  have HJ2 : Hid (JAt w2 J P frm n t k) := Lib.hid (HJ.out.only HK3.out.only HJD.out)
  have HJD2 : Hid (¬ DBlk w2 P J) := Lib.hid (fun hh => (HK3.out.own J hh).elim HJD.out (fun h1 => by have := Arr.lt HJ.out; omega))
  have HK5 : Hid (Kept P w w4) := Lib.hid (HK3.out.trans HK4.out)
  have HJ4 : Hid (JAt w4 J P frm n t k) := Lib.hid (HJ2.out.only HK4.out.only HJD2.out)
  have HJD4 : Hid (¬ DBlk w4 P J) := Lib.hid (fun hh => (HK4.out.own J hh).elim HJD2.out (fun h1 => by have := Arr.lt HJ2.out; omega))
  obtain ⟨c0, c1, c2, c3, c4⟩ := HJ4.out.cells
  have f4 := Arr.free HJ4.out 4
  go_region_with (go_at_call 22; refine (jcost_any _ (m := l) (by omega)).mono ?_; rw [← HPC.out.1]; rintro e w1 ⟨rfl, rfl⟩; dsimp only)
  all_goals (try simp only [List.getElem_toArray, List.getElem_cons_succ, List.getElem_cons_zero, Act.put, List.setIfInBounds_toArray, List.set_cons_succ, List.set_cons_zero])
  all_goals go_wp2
  all_goals go_ret
  all_goals exact ⟨rfl, jowrite_end HD4.out HK5.out HJ4.out HJD4.out⟩
end Go.Proofs.YtcdgbmeechnpiaaDoor
/- Own rows of slices of bytes: what they hold lies apart from them; appended to. -/
namespace Go.Proofs.YtcdgbmeechnpiaaDoor
open Go.RowKit

theorem Lies.only2 {w w' : World} {u : Value} {bs : List Nat} {S : Nat → Prop} (h : Lies w u bs) (ho : Only S w w') (hS : ∀ k, u.ownBlock = some k → bs ≠ [] → ¬ S k) : Lies w' u bs := by
  rcases h with h | h | ⟨b, off, cap, h, hc⟩
  · exact .inl h
  · exact .inr (.inl h)
  · refine .inr (.inr ⟨b, off, cap, h, fun j hj => ?_⟩)
    have h1 := hc j hj
    rw [← h1]
    exact World.cell?_of_block (w := w) (ho.block b (by have := cell_lt h1; exact this) (hS b (by rw [h]; rfl) (by intro e; rw [e] at hj; simp at hj)))
theorem Lies.block {k : Nat} {w : World} {u : Value} {bs : List Nat} (h : Lies w u bs) (hk : u.ownBlock = some k) (hb : bs ≠ []) : k < w.heap.size := by
  rcases h with h | ⟨_, _, _, h⟩ | ⟨b, off, cap, h, hc⟩
  · exact absurd h.2 hb
  · exact absurd h hb
  · rw [h] at hk
    cases hk
    exact cell_lt (hc 0 (List.length_pos_iff.2 hb))
/-- bytes apart from a block -/
def LieN (own : Option Nat) (w : World) (u : Value) (bs : List Nat) : Prop := Lies w u bs ∧ ∀ k, u.ownBlock = some k → bs ≠ [] → own ≠ some k
/-- an own row of slices, and what these hold -/
structure RowsO (B : Nat) (w : World) (v : Value) (us : List Value) (R : List (List Nat)) : Prop where
  row : w.ownsRow B 31 1 v us.length us
  len : us.length = R.length
  data : ∀ (i : Nat) (u : Value) (bs : List Nat), us[i]? = some u → R[i]? = some bs → LieN v.ownBlock w u bs
theorem RowsO.nil (B : Nat) (w : World) : RowsO B w (.slice none 0 0) [] [] := ⟨World.ownsRow_nil _ _ _ _, rfl, fun i u bs h => by simp at h⟩
theorem RowsO.lt {B k : Nat} {w : World} {v : Value} {us : List Value} {R : List (List Nat)} (h : RowsO B w v us R) (hk : v.ownBlock = some k) : B ≤ k ∧ k < w.heap.size := h.row.lt k hk
theorem RowsO.only {B : Nat} {w w' : World} {v : Value} {us : List Value} {R : List (List Nat)} {S : Nat → Prop} (h : RowsO B w v us R) (ho : Only S w w') (h1 : ∀ k, v.ownBlock = some k → ¬ S k) (h2 : ∀ (i : Nat) (u : Value) (bs : List Nat) (k : Nat), us[i]? = some u → R[i]? = some bs → u.ownBlock = some k → bs ≠ [] → ¬ S k) : RowsO B w' v us R :=
  ⟨row_only h.row ho h1, h.len, fun i u bs hu hb => ⟨(h.data i u bs hu hb).1.only2 ho (fun k hk hne => h2 i u bs k hu hb hk hne), (h.data i u bs hu hb).2⟩⟩
theorem RowsO.on {B : Nat} {w w' : World} {v : Value} {us : List Value} {R : List (List Nat)} (h : RowsO B w v us R) (hb : Below w.heap.size w w') : RowsO B w' v us R :=
  h.only (only_beyond (S := fun _ => False) hb) (fun _ _ e => e) (fun _ _ _ _ _ _ _ _ e => e)
theorem RowsO.slice {B : Nat} {w : World} {v : Value} {us : List Value} {R : List (List Nat)} (h : RowsO B w v us R) : ∃ a c, v = .slice a R.length c := by
  obtain ⟨a, c, hv⟩ := own_slice h.row; exact ⟨a, c, by rw [hv, h.len]⟩
theorem RowsO.at {B : Nat} {w : World} {v : Value} {us : List Value} {R : List (List Nat)} (h : RowsO B w v us R) : RowsAt w v R := by
  rcases h.row.2 with ⟨hv, h0⟩ | ⟨g, cap, cur, hv, hgb, hgg, _⟩
  · have hR : R = [] := List.length_eq_zero_iff.1 (by rw [← h.len]; exact h0)
    subst hR
    exact ⟨none, 0, hv, fun e => absurd rfl e⟩
  · refine ⟨some ⟨g, 0, none⟩, cap, by rw [hv, h.len], fun _ => ⟨g, 0, rfl, fun i bs hi => ?_⟩⟩
    have hil : i < us.length := by rw [h.len]; exact (List.getElem?_eq_some_iff.1 hi).1
    have hu : us[i]? = some us[i] := List.getElem?_eq_getElem hil
    have hrow := h.row
    rw [hv] at hrow
    exact ⟨us[i], by rw [Nat.zero_add, hrow.cellAt i (by omega), hu], (h.data i _ bs hu hi).1⟩
/-- one more appended -/
theorem RowsO.append {B g' cap' : Nat} {w w5 w6 : World} {v u : Value} {us : List Value} {R : List (List Nat)} {bs : List Nat} {m : Nat} (h : RowsO B w v us R) (hm : m = us.length) (h5 : Below w.heap.size w w5) (hu : Lies w5 u bs) (hd : ∀ k, u.ownBlock = some k → bs ≠ [] → v.ownBlock ≠ some k)
    (hg : w5.grownBy w6 v.ownBlock) (hown : w6.ownsRow B 31 1 (.slice (some ⟨g', 0, none⟩) (m + 1) cap') (m + 1) (us ++ [u]))
    (hat : (Value.slice (some ⟨g', 0, none⟩) (m + 1) cap').ownBlock = v.ownBlock ∨ (Value.slice (some ⟨g', 0, none⟩) (m + 1) cap').ownBlock = some w5.heap.size) : RowsO B w6 (.slice (some ⟨g', 0, none⟩) (m + 1) cap') (us ++ [u]) (R ++ [bs]) := by
  have ho6 := Only.grown hg
  have h1 := h.on h5
  refine ⟨by rw [List.length_append, List.length_singleton, ← hm]; exact hown, by rw [List.length_append, List.length_append, h.len]; rfl, fun i x cs hx hc => ?_⟩
  have key : ∀ x cs, Lies w5 x cs → (∀ k, x.ownBlock = some k → cs ≠ [] → v.ownBlock ≠ some k) → LieN (Value.slice (some ⟨g', 0, none⟩) (m + 1) cap').ownBlock w6 x cs := fun x cs hl hn => by
    refine ⟨hl.only2 ho6 (fun k hk hne e => hn k hk hne e), fun k hk hne e => ?_⟩
    rcases hat with ha | ha
    · rw [ha] at e; exact hn k hk hne e
    · rw [ha] at e
      cases e
      have := hl.block hk hne
      omega
  by_cases hi : i < us.length
  · rw [List.getElem?_append_left hi] at hx
    rw [List.getElem?_append_left (by rw [← h.len]; exact hi)] at hc
    obtain ⟨h2, h3⟩ := h1.data i x cs hx hc
    exact key x cs h2 h3
  · have hi2 : i = us.length := by have := (List.getElem?_eq_some_iff.1 hx).1; simp at this; omega
    subst hi2
    rw [List.getElem?_append_right (Nat.le_refl _), Nat.sub_self] at hx
    rw [h.len, List.getElem?_append_right (Nat.le_refl _), Nat.sub_self] at hc
    cases hx
    cases hc
    exact key u bs hu hd
theorem infoR : (Tryd.prog.info? 31).map (fun i => (i.zero, i.size, i.bytes)) = some (some (.slice none 0 0), 1, 24) := by kernel_rfl
end Go.Proofs.YtcdgbmeechnpiaaDoor
/- A journal on its device, as the laws use it. -/
namespace Go.Proofs.YtcdgbmeechnpiaaDoor
open Go.RowKit

/-- a journal, its device, its records -/
structure Sess (B : Nat) (w : World) (J P : Nat) (z : Bool) (t frm n : Nat) (R : List (List Nat)) (c : Nat) (d : Dev) : Prop where
  dev : DevAt w B P d
  jo : JAt w J P frm n t (usedJ R)
  jk : JKeep z t frm n R c d
  sm : SmallD d
  jn : ¬ DBlk w P J
  jb : B ≤ J
theorem secs_small {t k : Nat} {r : List Nat} (ht : t ≠ 0 ∧ t < 4294967296) (hb : ∀ x ∈ r, x < 256) (hk : k + pieces r.length ≤ 8192) : SmallL ((splitS t k r).map secB) := fun s hs => by
  obtain ⟨x, hx, rfl⟩ := List.mem_map.1 hs
  unfold splitS at hx
  obtain ⟨i, hi, rfl⟩ := List.mem_map.1 hx
  exact secB_small (pieceS_ok ht.1 ht.2 (by have := List.mem_range.1 hi; omega) hb)
theorem JKeep.waits_le {z : Bool} {t frm n c : Nat} {R : List (List Nat)} {d : Dev} (h : JKeep z t frm n R c d) (hok : d.Ok) : d.waits.length ≤ 8192 := by
  have hn := h.room hok
  have hf := h.fit
  rw [h.waits, posW_length, List.length_map, List.length_drop, usedJ_secs]
  omega
section
variable {B : Nat} {w : World} {J P : Nat} {z : Bool} {t frm n : Nat} {R : List (List Nat)} {c : Nat} {d : Dev}
/-- whatever leaves the journal and its device alone -/
theorem Sess.only {S : Nat → Prop} {w' : World} (h : Sess B w J P z t frm n R c d) (ho : Only S w w') (h1 : ¬ S J) (h2 : ∀ k, DBlk w P k → ¬ S k) : Sess B w' J P z t frm n R c d := by
  refine ⟨h.dev.only ho h2, h.jo.only ho h1, h.jk, h.sm, fun hh => h.jn ?_, h.jb⟩
  obtain ⟨g1, g2, wv, hd⟩ := h.dev
  have hP : P < w.heap.size := hd.blk.lt
  rcases hh with h3 | ⟨i, v, hi, hv, hk⟩
  · exact .inl h3
  · exact .inr ⟨i, v, hi, by rw [← hv]; exact (World.cell?_of_block (a := ⟨P, i, none⟩) (ho.block P hP (h2 P hd.isP))).symm, hk⟩
theorem Sess.on {w' : World} (h : Sess B w J P z t frm n R c d) (hb : Below w.heap.size w w') : Sess B w' J P z t frm n R c d := h.only (only_beyond (S := fun _ => False) hb) (fun e => e) (fun _ _ e => e)
theorem Sess.below {w' : World} (h : Sess B w J P z t frm n R c d) (hB : B ≤ w.heap.size) (hk : JKept J P w w') : Below B w w' := hk.only.below hB (fun k h1 => h1.elim (fun e => by rw [e]; exact h.jb) (fun h1 => h.dev.low h1))
theorem Sess.jlt (h : Sess B w J P z t frm n R c d) : J < w.heap.size := Arr.lt h.jo
theorem Sess.kept {w' : World} (h : Sess B w J P z t frm n R c d) (hk : JKept J P w w') : ¬ DBlk w' P J := fun hh => (hk.own J hh).elim h.jn (fun h1 => by have := h.jlt; omega)
theorem sess_commit {v : Value} {D : List Nat} (h : Sess B w J P z t frm n R c d) (hB : B ≤ w.heap.size) (hgB : 0 < B) (hl : StepsLaid w) (hv : Lies w v D) (hD : ∀ x ∈ D, x < 256) (hf : usedJ R + pieces D.length ≤ n) :
    Calls Tryd.prog 28 #[.pointer (some ⟨J, 0, none⟩), v] w fun e w' => e = .returned (.int .i64 0) ∧ (∃ d', Sess B w' J P z t frm n (R ++ [D]) (R.length + 1) d') ∧ JKept J P w w' := by
  have hok := h.dev.ok
  refine (jocommit_ok h.jo h.dev hB hgB h.jn hv hD h.jk.turn h.jk.range h.jk.up h.jk.calm (by have := h.jk.waits_le hok; omega) hl hf).mono ?_
  rintro e w' ⟨rfl, h1, h2, h3⟩
  have hw := h.jk.write hD hf
  have hsm := h.sm.writes (secs_small (k := usedJ R) h.jk.turn hD (by have := h.jk.room hok; omega)) (frm + usedJ R)
  have hwok : (d.writes (frm + usedJ R) ((splitS t (usedJ R) D).map secB)).Ok := ⟨hok.sect, fun x hx => by
    rcases List.mem_append.1 hx with h4 | h4
    · exact hok.wait x h4
    · refine writes_wok (fun b hb => ?_) ?_ x h4
      · obtain ⟨s, hs, rfl⟩ := List.mem_map.1 hb
        unfold splitS at hs
        obtain ⟨i, hi, rfl⟩ := List.mem_map.1 hs
        rw [secB_length (pieceS_ok h.jk.turn.1 h.jk.turn.2 (by have := h.jk.room hok; have := List.mem_range.1 hi; omega) hD).2.1]; exact Nat.le_refl _
      · rw [List.length_map, splitS_length]; have := h.jk.range; show _ ≤ d.lies.length; omega, hok.pos, hok.size⟩
  have hfl := hw.flush hwok
  rw [List.length_append, List.length_singleton] at hfl
  exact ⟨rfl, ⟨_, h1, by rw [usedJ_append, usedJ_one]; exact h2, hfl, hsm.flush, h.kept h3, h.jb⟩, h3⟩
end
/-- own rows of what came in -/
structure RowsC (B : Nat) (w : World) (v : Value) (us : List Value) (R : List (List Nat)) : Prop where
  rows : RowsO B w v us R
  far : ∀ (i : Nat) (u : Value) (bs : List Nat) (k : Nat), us[i]? = some u → R[i]? = some bs → u.ownBlock = some k → bs ≠ [] → k < B
theorem RowsC.nil (B : Nat) (w : World) : RowsC B w (.slice none 0 0) [] [] := ⟨RowsO.nil B w, fun i u bs k h => by simp at h⟩
theorem RowsC.on {B : Nat} {w w' : World} {v : Value} {us : List Value} {R : List (List Nat)} (h : RowsC B w v us R) (hb : Below w.heap.size w w') : RowsC B w' v us R := ⟨h.rows.on hb, h.far⟩
theorem own_apart {w : World} {B B' : Nat} {v v' : Value} {e e' : TypeId} {s s' n n' k : Nat} {xs xs' : List Value} (h : w.ownsRow B e s v n xs) (h' : w.ownsRow B' e' s' v' n' xs') (hne : e ≠ e') (hk : v.ownBlock = some k) : v'.ownBlock ≠ some k := fun hk' => by
  rcases h.2 with ⟨hv, _⟩ | ⟨g, cap, cur, hv, _, hg, _⟩
  · rw [hv] at hk; cases hk
  · rw [hv] at hk
    cases hk
    exact row_ne hg h' hne hk'
theorem RowsC.dev {B : Nat} {w : World} {v : Value} {us : List Value} {R : List (List Nat)} {P k : Nat} {d : Dev} (h : RowsC B w v us R) (hd : DevAt w B P d) (hk : v.ownBlock = some k) : ¬ DBlk w P k := fun hh => by
  obtain ⟨g1, g2, wv, hd⟩ := hd
  rcases hd.blks hh with h1 | h1 | h1 | h1
  · subst h1; exact row_ne hd.blk h.rows.row (by decide) hk
  · subst h1; exact row_ne hd.lies h.rows.row (by decide) hk
  · subst h1; exact row_ne hd.told h.rows.row (by decide) hk
  · exact own_apart h.rows.row hd.waits (by decide) hk h1
/-- the device's doings leave it -/
theorem RowsC.kept {B : Nat} {w w' : World} {v : Value} {us : List Value} {R : List (List Nat)} {P : Nat} {d : Dev} (h : RowsC B w v us R) (hd : DevAt w B P d) (hk : Kept P w w') : RowsC B w' v us R :=
  ⟨h.rows.only hk.only (fun k hk => h.dev hd hk) (fun i u bs k hu hb hk hne hh => by have h1 := h.far i u bs k hu hb hk hne; have h2 := hd.low hh; omega), h.far⟩
theorem RowsC.sess {B : Nat} {w w' : World} {v : Value} {us : List Value} {R R' : List (List Nat)} {J P : Nat} {z : Bool} {t frm n c : Nat} {d : Dev} (h : RowsC B w v us R) (hs : Sess B w J P z t frm n R' c d) (hk : JKept J P w w') : RowsC B w' v us R :=
  ⟨h.rows.only hk.only (fun k hv hh => hh.elim (fun e => row_ne hs.jo h.rows.row (by decide) (by rw [← e]; exact hv)) (fun hh => h.dev hs.dev hv hh)) (fun i u bs k hu hb hk hne hh => by
    have h1 := h.far i u bs k hu hb hk hne
    rcases hh with e | hh
    · have := hs.jb; omega
    · have h2 := hs.dev.low hh; omega), h.far⟩
end Go.Proofs.YtcdgbmeechnpiaaDoor
/- Writings of a journal on a device that may be armed: they all go, or the device falls in their midst. -/
namespace Go.Proofs.YtcdgbmeechnpiaaDoor
open Go.RowKit

/-- so many sectors written, one behind the other, and counted -/
def Dev.run (d : Dev) (off : Nat) (L : List (List Nat)) : Dev := { d.writes off L with after := d.after - L.length }
/-- the crash that is armed, behind the last of those that were taken -/
def Dev.fell (d : Dev) (off : Nat) (L : List (List Nat)) : Dev := (d.writes off (L.take d.after)).crash d.keep d.torn d.bytes
/-- what is armed lets so many go -/
def Dev.Goes (d : Dev) (m : Nat) : Prop := d.after = 0 ∨ m < d.after
/-- what is answered, and the device behind it -/
def Ran (d : Dev) (off : Nat) (L : List (List Nat)) (c : Int) (d' : Dev) : Prop := (c = 0 ∧ d.Goes L.length ∧ d' = d.run off L) ∨ (c = 13 ∧ ¬ d.Goes L.length ∧ d' = d.fell off L)
section
variable {d : Dev} {off k : Nat} {L : List (List Nat)}
theorem Dev.run_nil (d : Dev) (off : Nat) : d.run off [] = d := by
  unfold Dev.run
  rw [Dev.writes_nil]
  rfl
theorem Dev.run_calm (h : d.after = 0) : d.run off L = d.writes off L := by
  have : d.writes off L = { d.writes off L with after := d.after } := rfl
  unfold Dev.run
  rw [h, Nat.zero_sub, this, h]
theorem Dev.run_next {b : List Nat} (h : L[k]? = some b) (hg : d.Goes (k + 1)) : ((d.run off (L.take k)).write (off + k) b).count = (0, d.run off (L.take (k + 1))) := by
  have hk := List.getElem?_eq_some_iff.1 h
  have h1 : (L.take k).length = k := by rw [List.length_take]; have := hk.1; omega
  have h2 : (L.take (k + 1)).length = k + 1 := by rw [List.length_take]; have := hk.1; omega
  have hw := Dev.writes_next d off h
  have ha : ((d.run off (L.take k)).write (off + k) b).after = d.after - k := by show d.after - (L.take k).length = _; rw [h1]
  have hd : ∀ a, { (d.run off (L.take k)).write (off + k) b with after := a } = { d.writes off (L.take (k + 1)) with after := a } := fun a => by rw [← hw]; rfl
  unfold Dev.count
  rw [ha]
  rcases hg with hg | hg
  · rw [if_pos (by omega)]
    have := hd (d.after - k)
    refine Prod.ext rfl ?_
    show (d.run off (L.take k)).write (off + k) b = { d.writes off (L.take (k + 1)) with after := d.after - (L.take (k + 1)).length }
    rw [h2, show d.after - (k + 1) = d.after - k by omega, ← this, ← ha]
  · rw [if_neg (by omega), if_pos (by omega)]
    refine Prod.ext rfl ?_
    show { (d.run off (L.take k)).write (off + k) b with after := d.after - k - 1 } = { d.writes off (L.take (k + 1)) with after := d.after - (L.take (k + 1)).length }
    rw [h2, hd, Nat.sub_sub]
theorem Dev.run_falls {b : List Nat} (h : L[k]? = some b) (hg : d.Goes k) (hn : ¬ d.Goes (k + 1)) : ((d.run off (L.take k)).write (off + k) b).count = (13, d.fell off L) ∧ ¬ d.Goes L.length := by
  have hk := List.getElem?_eq_some_iff.1 h
  have h1 : (L.take k).length = k := by rw [List.length_take]; have := hk.1; omega
  have hw := Dev.writes_next d off h
  unfold Dev.Goes at hg hn
  have h0 : d.after = k + 1 := by omega
  have ha : ((d.run off (L.take k)).write (off + k) b).after = 1 := by show d.after - (L.take k).length = _; rw [h1]; omega
  refine ⟨?_, fun hh => by rcases hh with hh | hh <;> have := hk.1 <;> omega⟩
  unfold Dev.count
  rw [ha, if_neg (by decide), if_neg (by decide)]
  refine Prod.ext rfl ?_
  show Dev.crash _ d.keep d.torn d.bytes = (d.writes off (L.take d.after)).crash d.keep d.torn d.bytes
  rw [h0, ← hw]
  rfl
theorem Dev.Goes.less {m m' : Nat} (h : d.Goes m) (hm : m' ≤ m) : d.Goes m' := by rcases h with h | h; exact .inl h; exact .inr (by omega)
end
set_option maxRecDepth 1000000 in
set_option maxHeartbeats 4000000 in
theorem jolay_any {w : World} {B J P frm n t k : Nat} {d : Dev} {s : Sec} {u : Value} (hJ : JAt w J P frm n t k) (h : DevAt w B P d) (hB : B ≤ w.heap.size) (hs : s.Ok) (hu : Lies w u s.data) (hup : d.down = false) (ha : d.after < 9223372036854775808) (hkp : d.keep < 18446744073709551616) (hlt : frm + s.place < d.lies.length) (hm : d.waits.length ≤ 1000000000) (hl : StepsLaid w) :
    Calls Tryd.prog 54 #[.pointer (some ⟨J, 0, none⟩), secV s u] w fun e w' => e = .returned (.int .i64 (d.write (frm + s.place) (secB s)).count.1) ∧ DevAt w' B P (d.write (frm + s.place) (secB s)).count.2 ∧ Kept P w w' := by
  obtain ⟨x, p, L, D⟩ := s
  obtain ⟨s0, hs0⟩ : ∃ s0, s0 = secB ⟨x, p, L, D⟩ := ⟨_, rfl⟩
  have HS : Hid ((⟨x, p, L, D⟩ : Sec).Ok ∧ s0 = secB ⟨x, p, L, D⟩) := Lib.hid ⟨hs, hs0⟩
  have HL : Hid (Lies w u D) := Lib.hid hu
  have hS64 : Hid (s0.length = 64) := Lib.hid (by rw [hs0]; exact secB_length hs.2.1)
  have HT := Lib.hid hl
  have HJ := Lib.hid hJ
  have HD := Lib.hid h
  have hN : d.lies.length ≤ 8192 := h.ok.size
  have hlt' : Hid (frm + p < d.lies.length) := Lib.hid hlt
  have hp : p < 8192 := by have : frm + p < d.lies.length := hlt; omega
  have hf : frm < 8192 := by have : frm + p < d.lies.length := hlt; omega
  rw [← hs0]
  obtain ⟨c1, hc1⟩ : ∃ c, c = (d.write (frm + p) s0).count.1 := ⟨_, rfl⟩
  obtain ⟨d1, hd1⟩ : ∃ c, c = (d.write (frm + p) s0).count.2 := ⟨_, rfl⟩
  have HC : Hid (c1 = (d.write (frm + p) s0).count.1 ∧ d1 = (d.write (frm + p) s0).count.2) := Lib.hid ⟨hc1, hd1⟩
  show Calls _ _ #[_, .agg #[.int .u32 (x : Int), .int .u32 (p : Int), .bool L, u]] _ fun e w' => e = .returned (.int .i64 (d.write (frm + p) s0).count.1) ∧ DevAt w' B P (d.write (frm + p) s0).count.2 ∧ Kept P w w'
  rw [← hc1, ← hd1]
  have HW1 : Hid (Below w.heap.size w (w.alloc (.cells #[.int .u32 (x : Int), .int .u32 (p : Int), .bool L, u] 94))) := Lib.hid ((Below.refl _ _).alloc (Nat.le_refl _) _)
  obtain ⟨W1, hW1⟩ : ∃ W1, W1 = w.alloc (.cells #[.int .u32 (x : Int), .int .u32 (p : Int), .bool L, u] 94) := ⟨_, rfl⟩
  obtain ⟨V, hV⟩ : ∃ V, V = w.heap.size := ⟨_, rfl⟩
  have hA1 : Arr W1 V 94 [.int .u32 (x : Int), .int .u32 (p : Int), .bool L, u] := by rw [hW1, hV]; exact arr_new w _ _
  rw [← hW1] at HW1
  have e1 : IntKind.i64.wrap (p : Int) = (p : Int) := by rw [IntKind.wrap_i64]; omega
  have e2 : IntKind.i64.wrap ((frm : Int) + (p : Int)) = ((frm + p : Nat) : Int) := by rw [IntKind.wrap_i64]; omega
  have HAK : Hid (d.after < 9223372036854775808 ∧ d.keep < 18446744073709551616) := Lib.hid ⟨ha, hkp⟩
  clear hs hu hl hJ h hs0 hlt hc1 hd1 ha hkp
  go_enter Tryd.func54, Tryd.ntmps54
  go_wp2_with fail
  rw [← hW1, ← hV]
  refine (pack_ok (s := ⟨x, p, L, D⟩) (u := u) HS.out.1 (lies_on HL.out HW1.out) (HT.out.below HW1.out)).mono ?_
  rintro e W2 ⟨v, rfl, hown, hb2⟩
  have hb : Below w.heap.size w W2 := HW1.out.trans (hb2.mono HW1.out.size)
  have HA2 : Arr W2 V 94 [.int .u32 (x : Int), .int .u32 (p : Int), .bool L, u] := hA1.only (only_beyond (S := fun _ => False) hb2) (fun h => h)
  have a1 : W2.cell? ⟨V, 1, none⟩ = some (.int .u32 (p : Int)) := HA2.cell rfl
  obtain ⟨c0, c1', c2, c3, c4⟩ := (HJ.out.on hb).cells
  have HV : Hid (Lies W2.drew v s0) := Lib.hid (by rw [HS.out.2]; exact (LiesFrom.of_row (B := W1.heap.size) (by rw [secB_length HS.out.1.2.1]; exact hown)).lies)
  have HD2 : Hid (DevAt W2.drew B P d) := Lib.hid ((HD.out.beyond hb).drew)
  have HB2 : Hid (Below w.heap.size w W2.drew) := Lib.hid hb.drew
  have hB2 : B ≤ W2.drew.heap.size := Nat.le_trans hB HB2.out.size
  clear hown hb2 hb HA2 hA1 hW1 hV
  dsimp only
  go_wp2_with fail
  refine wp_region_still_tail 14 (by kernel_rfl) (by kernel_rfl) ?_
  simp only [List.take_succ_cons, List.take_zero, List.drop_succ_cons, List.drop_zero]
  repeat still_step
  refine wpStill_nil ?_
  change wpList _ _ _ _ _ W2.drew
  go_wp2_with (go_at_call 51; refine (write_any HD2.out hB2 HV.out hup HAK.out.1 HAK.out.2 hlt'.out (by rw [hS64.out]; exact Nat.le_refl _) hm).mono ?_; rw [← HC.out.1, ← HC.out.2]; rintro e w3 ⟨rfl, hd3, hk3⟩; have HD3 := Lib.hid hd3; have HK3 := Lib.hid hk3; clear hd3 hk3)
  go_ret
  exact ⟨rfl, HD3.out, (kept_on HD.out HB2.out).trans HK3.out⟩
set_option maxRecDepth 1000000 in
set_option maxHeartbeats 8000000 in
theorem joput_any {w : World} {B J P frm n t k : Nat} {d : Dev} {D : List Nat} {v : Value} (hJ : JAt w J P frm n t k) (h : DevAt w B P d) (hB : B ≤ w.heap.size) (hgB : 0 < B) (hJd : ¬ DBlk w P J) (hv : Lies w v D) (hD : ∀ x ∈ D, x < 256) (ht : t ≠ 0 ∧ t < 4294967296)
    (hr : frm + n ≤ d.lies.length) (hup : d.down = false) (ha : d.after < 9223372036854775808) (hkp : d.keep < 18446744073709551616) (hm : d.waits.length ≤ 900000000) (hl : StepsLaid w) (hf : k + pieces D.length ≤ n) :
    Calls Tryd.prog 43 #[.pointer (some ⟨J, 0, none⟩), v] w fun e w' => ∃ c d', e = .returned (.int .i64 c) ∧ Ran d (frm + k) ((splitS t k D).map secB) c d' ∧ DevAt w' B P d' ∧ Kept P w w' := by
  obtain ⟨a, c, rfl⟩ := lies_len hv
  obtain ⟨l, hl0⟩ : ∃ l, l = D.length := ⟨_, rfl⟩
  obtain ⟨pc, hpc⟩ : ∃ p, p = pieces D.length := ⟨_, rfl⟩
  have HPC : Hid (pc = pieces l ∧ pc = pieces D.length) := Lib.hid (by rw [hl0]; exact ⟨hpc, hpc⟩)
  have hN : d.lies.length ≤ 8192 := h.ok.size
  have hbig : l ≤ 1000000000 := by rw [hpc.symm] at hf; have := HPC.out.1; unfold pieces at this; omega
  have HBIG : Hid (D.length ≤ 1000000000) := Lib.hid (by rw [← hl0]; exact hbig)
  rw [← hpc] at hf
  have hk : k ≤ n := by omega
  have hn : n ≤ 8192 := by omega
  have hpc1 : 1 ≤ pc := by rw [hpc]; exact pieces_pos _
  have HV : Hid (Lies w (.slice a l c) D) := Lib.hid (by rw [hl0]; exact hv)
  rw [← hl0]
  have HJ := Lib.hid hJ
  have HD := Lib.hid h
  have HT := Lib.hid hl
  have HTT := Lib.hid ht
  have HDX := Lib.hid hD
  have HJD := Lib.hid hJd
  have HR := Lib.hid hr
  have ht0 : ((t : Int) == 0) = false := by simp; exact ht.1
  obtain ⟨m, hmm⟩ : ∃ m, m = n - k := ⟨_, rfl⟩
  have HM := Lib.hid hmm
  have t1 : decide ((m : Int) < (pc : Int)) = false := by simp; omega
  have t2 : decide (m < pc) = false := by simp; omega
  have e1 : IntKind.u32.wrap (k : Int) = (k : Int) := by rw [IntKind.wrap_u32]; omega
  have HSE : Hid (splitE t k D.length = 0) := Lib.hid (by unfold splitE; rw [if_neg ht.1, if_pos (by rw [← hpc]; omega)])
  have HAK : Hid (d.after < 9223372036854775808 ∧ d.keep < 18446744073709551616 ∧ d.down = false) := Lib.hid ⟨ha, hkp, hup⟩
  clear hJ h hv hl hpc hl0 ht hD hJd hr hmm ha hkp hup
  go_enter Tryd.func43, Tryd.ntmps43
  go_wp2_with (first | (go_at_call 22; refine (jcost_any _ (m := l) (by omega)).mono ?_; rw [← HPC.out.1]; rintro e w1 ⟨rfl, rfl⟩) | (go_at_call 44; refine (joleft_any HJ.out hk hn).mono ?_; rw [← HM.out]; rintro e w2 ⟨rfl, hb⟩; have HB := Lib.hid hb; clear hb))
  obtain ⟨c0, c1, c2, c3, c4⟩ := (HJ.out.on HB.out).cells
  have hBd : Below w1.heap.size w1 w2.drew := HB.out.drew
  have HSP := Lib.hid (split_any (t := t) (p := k) (lies_on HV.out hBd) (by omega) HBIG.out)
  have HBD := Lib.hid hBd
  clear hBd
  go_cut [5, 6] (fun s5 s6 W => ∃ g r, s5 = .slice (some ⟨g, 0, none⟩) r.length r.length ∧ s6 = .int .i64 0 ∧ r.map Prod.fst = splitS t k D ∧ w1.heap.size ≤ g ∧ Arr W g 94 (rowC r) ∧ (∀ x ∈ r, LiesFrom w1.heap.size W x.2 x.1.data ∧ Fits x.2) ∧ Below w1.heap.size w1 W)
  case first =>
    go_region_with (go_at_call 53; refine (HSP.out).mono ?_; rintro e W3 hsp; rcases hsp with ⟨hne, _⟩ | ⟨_, g, r, rfl, hrf, hg, hA, hls, hb3⟩; exact absurd HSE.out hne; dsimp only)
    all_goals (simp only [List.getElem_toArray, List.getElem_cons_succ, List.getElem_cons_zero, Act.put, List.setIfInBounds_toArray, List.set_cons_succ, List.set_cons_zero])
    all_goals go_wp2_with fail
    all_goals go_meet
    all_goals exact ⟨g, r, rfl, rfl, hrf, Nat.le_trans HBD.out.size hg, hA, fun x hx => ⟨(hls x hx).1.mono HBD.out.size, (hls x hx).2⟩, HBD.out.trans (hb3.mono HBD.out.size)⟩
  case rest =>
    obtain ⟨g, r, rfl, rfl, hrf, hg, hA, hls, hb3⟩ := hcut
    have HDc : Hid (DevAt wc B P d) := Lib.hid (HD.out.beyond hb3)
    have HJc : Hid (JAt wc J P frm n t k) := Lib.hid (HJ.out.on hb3)
    have HJN : Hid (¬ DBlk wc P J) := Lib.hid (fun hh => HJD.out (dblk_on HD.out hb3 hh))
    have HGN : Hid (∀ q, w1.heap.size ≤ q → ¬ DBlk wc P q) := Lib.hid (fun q hq hh => by have := HD.out.lt (dblk_on HD.out hb3 hh); omega)
    have HA := Lib.hid hA
    have HLS := Lib.hid hls
    have HB3 := Lib.hid hb3
    have HRF := Lib.hid hrf
    have hBc : Hid (B ≤ wc.heap.size) := Lib.hid (Nat.le_trans hB hb3.size)
    have hrl : r.length = pc := by have := congrArg List.length hrf; rw [List.length_map, splitS_length, ← HPC.out.2] at this; exact this
    obtain ⟨L, hL⟩ : ∃ L, L = (splitS t k D).map secB := ⟨_, rfl⟩
    have hLl : L.length = pc := by rw [hL, List.length_map, splitS_length, HPC.out.2]
    have HL := Lib.hid hL
    rw [hrl]
    have HG := Lib.hid hg
    clear hA hls hb3 hrf hrl hL hg
    go_wp2_with fail
    go_loopw [39] (fun x wr => ∃ i : Nat, i ≤ pc ∧ x = .int .i64 (i : Int) ∧ d.Goes i ∧ DevAt wr B P (d.run (frm + k) (L.take i)) ∧ Kept P wc wr) (fun x _ => pc - (intOf x).toNat)
    case atStart => exact ⟨0, by omega, rfl, by unfold Dev.Goes; omega, by rw [List.take_zero, Dev.run_nil]; exact HDc.out, Kept.refl _ _⟩
    case round =>
      obtain ⟨i, hi, rfl, hgo, hd, hkp⟩ := hrel
      have HGO := Lib.hid hgo
      have HDi := Lib.hid hd
      have HKi := Lib.hid hkp
      clear hd hkp hgo
      by_cases hlt : i < pc
      · obtain ⟨x, hx⟩ : ∃ x, r[i]? = some x := ⟨r[i]'(by have := congrArg List.length HRF.out; rw [List.length_map, splitS_length, ← HPC.out.2] at this; omega), List.getElem?_eq_getElem _⟩
        have hx1 : x.1 = pieceS t k D i := by
          have h1 : (splitS t k D)[i]? = some x.1 := by rw [← HRF.out, List.getElem?_map, hx]; rfl
          rw [splitS_get (by rw [← HPC.out.2]; exact hlt)] at h1
          exact (Option.some.inj h1).symm
        have hok : x.1.Ok := by rw [hx1]; exact pieceS_ok HTT.out.1 HTT.out.2 (by omega) HDX.out
        have hpl : x.1.place = k + i := by rw [hx1]; rfl
        have hLi : L[i]? = some (secB x.1) := by rw [HL.out, List.getElem?_map, splitS_get (by rw [← HPC.out.2]; exact hlt), hx1]; rfl
        have hAr : Arr wr g 94 (rowC r) := HA.out.only HKi.out.only (HGN.out g HG.out)
        obtain ⟨y0, y1, y2, y3⟩ := strow_cells (off := 0) (fun j u hj => by rw [Nat.zero_add]; exact hAr.cell hj) hx
        have hls : Lies wr x.2 x.1.data := ((HLS.out x (List.mem_of_getElem? hx)).1.only HKi.out.only (fun b off j z hb _ => HGN.out b hb)).lies
        obtain ⟨s, u⟩ := x
        have HOK : Hid (s.Ok ∧ s.place = k + i ∧ L[i]? = some (secB s) ∧ Lies wr u s.data) := Lib.hid ⟨hok, hpl, hLi, hls⟩
        simp only at y0 y1 y2 y3
        rw [Nat.zero_add] at y0 y1 y2 y3
        obtain ⟨au, cu, hu⟩ := lies_len hls
        obtain ⟨nu, hnu⟩ : ∃ m, m = s.data.length := ⟨_, rfl⟩
        simp only at hu
        rw [← hnu] at hu
        subst hu
        clear hx hx1 hok hpl hLi hAr hls hnu
        go_wp2_with fail
        obtain ⟨W5, hW5⟩ : ∃ W, W = wr.alloc (.cells #[.int .u32 (s.turn : Int), .int .u32 (s.place : Int), .bool s.last, .slice au nu cu] 94) := ⟨_, rfl⟩
        rw [← hW5]
        have HB5 : Hid (Below wr.heap.size wr W5) := Lib.hid (by rw [hW5]; exact (Below.refl _ _).alloc (Nat.le_refl _) _)
        have hBr : B ≤ wr.heap.size := Nat.le_trans hBc.out HKi.out.only.size
        have hst : StepsLaid wr := HT.out.keep ((HB3.out.mono hB).trans (HDc.out.below hBc.out HKi.out)) hgB
        have hlt2 : frm + s.place < d.lies.length := by rw [HOK.out.2.1]; have := HR.out; omega
        have hwt : (d.run (frm + k) (L.take i)).waits.length ≤ 1000000000 := by
          show (d.waits ++ _).length ≤ _
          rw [List.length_append, posW_length, List.length_take]; omega
        have HLY := Lib.hid (jolay_any (d := d.run (frm + k) (L.take i)) (s := s) (u := .slice au nu cu) ((HJc.out.only HKi.out.only HJN.out).on HB5.out) (HDi.out.beyond HB5.out) (Nat.le_trans hBr HB5.out.size) HOK.out.1 (lies_on HOK.out.2.2.2 HB5.out) HAK.out.2.2 (by show d.after - (L.take i).length < _; have := HAK.out.1; omega) HAK.out.2.1 hlt2 hwt (hst.below HB5.out))
        have hpl : frm + s.place = frm + k + i := by rw [HOK.out.2.1]; omega
        rw [hpl] at HLY
        clear hpl hlt2 hwt hst
        by_cases hg2 : d.Goes (i + 1)
        · rw [Dev.run_next (d := d) (off := frm + k) HOK.out.2.2.1 hg2] at HLY
          have HG2 := Lib.hid hg2
          clear hg2
          refine (HLY.out).mono ?_
          rintro e w6 ⟨rfl, hd6, hk6⟩
          have HD7 : Hid (DevAt w6 B P (d.run (frm + k) (L.take (i + 1)))) := Lib.hid hd6
          have HK7 : Hid (Kept P wc w6) := Lib.hid ((HKi.out.trans (kept_on HDi.out HB5.out)).trans hk6)
          clear hd6 hk6 hW5 y0 y1 y2 y3
          dsimp only
          go_wp2_with fail
          go_roundw
          case rel => exact ⟨i + 1, by omega, by simp, HG2.out, HD7.out, HK7.out⟩
          case measure => simp [intOf]; omega
        · obtain ⟨hq, hq2⟩ := Dev.run_falls (d := d) (off := frm + k) HOK.out.2.2.1 HGO.out hg2
          rw [hq] at HLY
          have HQ := Lib.hid hq2
          clear hg2 hq hq2
          refine (HLY.out).mono ?_
          rintro e w6 ⟨rfl, hd6, hk6⟩
          have HD7 : Hid (DevAt w6 B P (d.fell (frm + k) L)) := Lib.hid hd6
          have HK7 : Hid (Kept P wc w6) := Lib.hid ((HKi.out.trans (kept_on HDi.out HB5.out)).trans hk6)
          clear hd6 hk6 hW5 y0 y1 y2 y3
          dsimp only
          go_wp2_with fail
          go_ret
          rw [← HL.out]
          exact ⟨13, rfl, _, .inr ⟨rfl, HQ.out, rfl⟩, HD7.out, (kept_on HD.out HB3.out).trans HK7.out⟩
      · obtain rfl : i = pc := by omega
        go_wp2
        go_ret
        have := HDi.out
        rw [List.take_of_length_le (by omega)] at this
        rw [← HL.out]
        exact ⟨0, _, rfl, .inl ⟨rfl, by rw [hLl]; exact HGO.out, rfl⟩, this, (kept_on HD.out HB3.out).trans HKi.out⟩
theorem joput_goes {w : World} {B J P frm n t k : Nat} {d : Dev} {D : List Nat} {v : Value} (hJ : JAt w J P frm n t k) (h : DevAt w B P d) (hB : B ≤ w.heap.size) (hgB : 0 < B) (hJd : ¬ DBlk w P J) (hv : Lies w v D) (hD : ∀ x ∈ D, x < 256) (ht : t ≠ 0 ∧ t < 4294967296)
    (hr : frm + n ≤ d.lies.length) (hup : d.down = false) (ha : d.after < 9223372036854775808) (hkp : d.keep < 18446744073709551616) (hm : d.waits.length ≤ 900000000) (hl : StepsLaid w) (hf : k + pieces D.length ≤ n) (hg : d.Goes (pieces D.length)) :
    Calls Tryd.prog 43 #[.pointer (some ⟨J, 0, none⟩), v] w fun e w' => e = .returned (.int .i64 0) ∧ DevAt w' B P (d.run (frm + k) ((splitS t k D).map secB)) ∧ Kept P w w' := by
  refine (joput_any hJ h hB hgB hJd hv hD ht hr hup ha hkp hm hl hf).mono ?_
  rintro e w' ⟨c, d', rfl, hr, hd, hk⟩
  rcases hr with ⟨rfl, _, rfl⟩ | ⟨_, h2, _⟩
  · exact ⟨rfl, hd, hk⟩
  · exact absurd (by rw [List.length_map, splitS_length]; exact hg) h2
theorem joput_falls {w : World} {B J P frm n t k : Nat} {d : Dev} {D : List Nat} {v : Value} (hJ : JAt w J P frm n t k) (h : DevAt w B P d) (hB : B ≤ w.heap.size) (hgB : 0 < B) (hJd : ¬ DBlk w P J) (hv : Lies w v D) (hD : ∀ x ∈ D, x < 256) (ht : t ≠ 0 ∧ t < 4294967296)
    (hr : frm + n ≤ d.lies.length) (hup : d.down = false) (ha : d.after < 9223372036854775808) (hkp : d.keep < 18446744073709551616) (hm : d.waits.length ≤ 900000000) (hl : StepsLaid w) (hf : k + pieces D.length ≤ n) (hg : ¬ d.Goes (pieces D.length)) :
    Calls Tryd.prog 43 #[.pointer (some ⟨J, 0, none⟩), v] w fun e w' => e = .returned (.int .i64 13) ∧ DevAt w' B P (d.fell (frm + k) ((splitS t k D).map secB)) ∧ Kept P w w' := by
  refine (joput_any hJ h hB hgB hJd hv hD ht hr hup ha hkp hm hl hf).mono ?_
  rintro e w' ⟨c, d', rfl, hr, hd, hk⟩
  rcases hr with ⟨_, h2, _⟩ | ⟨rfl, _, rfl⟩
  · exact absurd (by rw [List.length_map, splitS_length] at h2; exact h2) hg
  · exact ⟨rfl, hd, hk⟩
set_option maxRecDepth 1000000 in
set_option maxHeartbeats 8000000 in
theorem jocommit_goes {w : World} {B J P frm n t k : Nat} {d : Dev} {D : List Nat} {v : Value} (hJ : JAt w J P frm n t k) (h : DevAt w B P d) (hB : B ≤ w.heap.size) (hgB : 0 < B) (hJd : ¬ DBlk w P J) (hv : Lies w v D) (hD : ∀ x ∈ D, x < 256) (ht : t ≠ 0 ∧ t < 4294967296)
    (hr : frm + n ≤ d.lies.length) (hup : d.down = false) (ha : d.after < 9223372036854775808) (hkp : d.keep < 18446744073709551616) (hm : d.waits.length ≤ 900000000) (hl : StepsLaid w) (hf : k + pieces D.length ≤ n) (hg : d.Goes (pieces D.length)) :
    Calls Tryd.prog 28 #[.pointer (some ⟨J, 0, none⟩), v] w fun e w' => e = .returned (.int .i64 0) ∧ DevAt w' B P (d.run (frm + k) ((splitS t k D).map secB)).flush ∧ JAt w' J P frm n t (k + pieces D.length) ∧ JKept J P w w' := by
  have HP := Lib.hid (joput_goes hJ h hB hgB hJd hv hD ht hr hup ha hkp hm hl hf hg)
  clear hg hkp
  obtain ⟨a, c, rfl⟩ := lies_len hv
  have hN : d.lies.length ≤ 8192 := h.ok.size
  obtain ⟨l, hl0⟩ : ∃ l, l = D.length := ⟨_, rfl⟩
  obtain ⟨pc, hpc⟩ : ∃ p, p = pieces D.length := ⟨_, rfl⟩
  have HPC : Hid (pc = pieces l ∧ pc = pieces D.length) := Lib.hid (by rw [hl0]; exact ⟨hpc, hpc⟩)
  have hbig : l ≤ 1000000000 := by rw [hpc.symm] at hf; have := HPC.out.1; unfold pieces at this; omega
  rw [← hpc] at hf ⊢
  rw [← hl0] at HP ⊢
  have HJ := Lib.hid hJ
  have HD := Lib.hid h
  have HJD := Lib.hid hJd
  have e1 : IntKind.i64.wrap ((k : Int) + (pc : Int)) = ((k + pc : Nat) : Int) := by rw [IntKind.wrap_i64]; omega
  obtain ⟨d2, hd2⟩ : ∃ d2, d2 = d.run (frm + k) ((splitS t k D).map secB) := ⟨_, rfl⟩
  have hup2 : d2.down = false := by rw [hd2]; exact hup
  rw [← hd2] at HP ⊢
  clear hJ h hJd hv hD ht hr hl hl0 hpc hd2
  go_enter Tryd.func28, Tryd.ntmps28
  go_wp2_with (first | (go_at_call 43; refine (HP.out).mono ?_; rintro e w2 ⟨rfl, hd3, hk3⟩; have c0 := (JAt.cells (HJ.out.only hk3.only HJD.out)).1; have HD3 := Lib.hid hd3; have HK3 := Lib.hid hk3; clear hd3 hk3; dsimp only) | (go_at_call 37; refine (flush_ok HD3.out hup2).mono ?_; rintro e w4 ⟨rfl, hd4, hk4⟩; have HD4 := Lib.hid hd4; have HK4 := Lib.hid hk4; clear hd4 hk4 c0; dsimp only))
  have HJ2 : Hid (JAt w2 J P frm n t k) := Lib.hid (HJ.out.only HK3.out.only HJD.out)
  have HJD2 : Hid (¬ DBlk w2 P J) := Lib.hid (fun hh => (HK3.out.own J hh).elim HJD.out (fun h1 => by have := Arr.lt HJ.out; omega))
  have HK5 : Hid (Kept P w w4) := Lib.hid (HK3.out.trans HK4.out)
  have HJ4 : Hid (JAt w4 J P frm n t k) := Lib.hid (HJ2.out.only HK4.out.only HJD2.out)
  have HJD4 : Hid (¬ DBlk w4 P J) := Lib.hid (fun hh => (HK4.out.own J hh).elim HJD2.out (fun h1 => by have := Arr.lt HJ2.out; omega))
  obtain ⟨c0, c1, c2, c3, c4⟩ := HJ4.out.cells
  have f4 := Arr.free HJ4.out 4
  go_region_with (go_at_call 22; refine (jcost_any _ (m := l) (by omega)).mono ?_; rw [← HPC.out.1]; rintro e w1 ⟨rfl, rfl⟩; dsimp only)
  all_goals (try simp only [List.getElem_toArray, List.getElem_cons_succ, List.getElem_cons_zero, Act.put, List.setIfInBounds_toArray, List.set_cons_succ, List.set_cons_zero])
  all_goals go_wp2
  all_goals go_ret
  all_goals exact ⟨rfl, jowrite_end HD4.out HK5.out HJ4.out HJD4.out⟩
set_option maxRecDepth 1000000 in
set_option maxHeartbeats 8000000 in
theorem jocommit_falls {w : World} {B J P frm n t k : Nat} {d : Dev} {D : List Nat} {v : Value} (hJ : JAt w J P frm n t k) (h : DevAt w B P d) (hB : B ≤ w.heap.size) (hgB : 0 < B) (hJd : ¬ DBlk w P J) (hv : Lies w v D) (hD : ∀ x ∈ D, x < 256) (ht : t ≠ 0 ∧ t < 4294967296)
    (hr : frm + n ≤ d.lies.length) (hup : d.down = false) (ha : d.after < 9223372036854775808) (hkp : d.keep < 18446744073709551616) (hm : d.waits.length ≤ 900000000) (hl : StepsLaid w) (hf : k + pieces D.length ≤ n) (hg : ¬ d.Goes (pieces D.length)) :
    Calls Tryd.prog 28 #[.pointer (some ⟨J, 0, none⟩), v] w fun e w' => e = .returned (.int .i64 13) ∧ DevAt w' B P (d.fell (frm + k) ((splitS t k D).map secB)) ∧ Kept P w w' := by
  have HP := Lib.hid (joput_falls hJ h hB hgB hJd hv hD ht hr hup ha hkp hm hl hf hg)
  obtain ⟨d2, hd2⟩ : ∃ d2, d2 = d.fell (frm + k) ((splitS t k D).map secB) := ⟨_, rfl⟩
  rw [← hd2] at HP ⊢
  clear hJ h hJd hv hD ht hr hl hd2 hg hkp ha hup hm hf
  go_enter Tryd.func28, Tryd.ntmps28
  go_wp2_with (go_at_call 43; refine (HP.out).mono ?_; rintro e w2 ⟨rfl, hd3, hk3⟩; have HD3 := Lib.hid hd3; have HK3 := Lib.hid hk3; clear hd3 hk3; dsimp only)
  go_ret
  exact ⟨rfl, HD3.out, HK3.out⟩
end Go.Proofs.YtcdgbmeechnpiaaDoor
/- A journal's sectors wiped. -/
namespace Go.Proofs.YtcdgbmeechnpiaaDoor
open Go.RowKit

set_option maxRecDepth 1000000 in
set_option maxHeartbeats 4000000 in
theorem jowipe_bad {w : World} {B P : Nat} {d : Dev} {f n : Int} (h : DevAt w B P d) (hf2 : f ≤ 9223372036854775807) (hb : decide (0 ≤ f ∧ 1 ≤ n ∧ n ≤ (d.lies.length : Int) - f) = false) :
    Calls Tryd.prog 38 #[.pointer (some ⟨P, 0, none⟩), .int .i64 f, .int .i64 n] w fun e w' => e = .returned (.int .i64 1) ∧ w' = w := by
  have HH := Lib.hid (johas_any (n := n) h hf2)
  have HE := Lib.hid hb
  clear h hb
  go_enter Tryd.func38, Tryd.ntmps38
  go_wp2_with (go_at_call 50; refine (HH.out).mono ?_; rw [HE.out]; rintro e w' ⟨rfl, rfl⟩)
  go_ret
  exact ⟨rfl, rfl⟩
set_option maxRecDepth 1000000 in
set_option maxHeartbeats 4000000 in
theorem jowipe_ok {w : World} {B P frm n : Nat} {d : Dev} (h : DevAt w B P d) (hB : B ≤ w.heap.size) (hn : 1 ≤ n) (hr : frm + n ≤ d.lies.length) (hup : d.down = false) (ha : d.after = 0) (hm : d.waits.length ≤ 900000000) :
    Calls Tryd.prog 38 #[.pointer (some ⟨P, 0, none⟩), .int .i64 (frm : Int), .int .i64 (n : Int)] w fun e w' => e = .returned (.int .i64 0) ∧ DevAt w' B P (d.writes frm (List.replicate n [])).flush ∧ Kept P w w' := by
  have hN : d.lies.length ≤ 8192 := h.ok.size
  have HH := Lib.hid (johas_any (f := (frm : Int)) (n := (n : Int)) h (by omega))
  have HE : Hid (decide (0 ≤ (frm : Int) ∧ 1 ≤ (n : Int) ∧ (n : Int) ≤ (d.lies.length : Int) - (frm : Int)) = true) := Lib.hid (by simp; omega)
  have HD := Lib.hid h
  have HR := Lib.hid hr
  obtain ⟨L, hL⟩ : ∃ L : List (List Nat), L = List.replicate n [] := ⟨_, rfl⟩
  have hLl : L.length = n := by rw [hL, List.length_replicate]
  have HL : Hid (∀ i, i < n → L[i]? = some []) := Lib.hid (fun i hi => by rw [hL, List.getElem?_replicate, if_pos hi])
  have hn8 : frm + n ≤ 8192 := by omega
  rw [← hL]
  clear h hL hr
  go_enter Tryd.func38, Tryd.ntmps38
  go_wp2_with (go_at_call 50; refine (HH.out).mono ?_; rw [HE.out]; rintro e w1 ⟨rfl, rfl⟩)
  go_loopw [15] (fun x wr => ∃ i : Nat, i ≤ n ∧ x = .int .i64 (i : Int) ∧ DevAt wr B P (d.writes frm (L.take i)) ∧ Kept P w1 wr) (fun x _ => n - (intOf x).toNat)
  case atStart => exact ⟨0, by omega, rfl, by rw [List.take_zero, Dev.writes_nil]; exact HD.out, Kept.refl _ _⟩
  case round =>
    obtain ⟨i, hi, rfl, hd, hkp⟩ := hrel
    have HDi := Lib.hid hd
    have HKi := Lib.hid hkp
    clear hd hkp
    by_cases hlt : i < n
    · have e1 : IntKind.i64.wrap ((frm : Int) + (i : Int)) = ((frm + i : Nat) : Int) := by rw [IntKind.wrap_i64]; omega
      have hwt : (d.writes frm (L.take i)).waits.length ≤ 1000000000 := by
        show (d.waits ++ _).length ≤ _
        rw [List.length_append, posW_length, List.length_take]; omega
      have HW := Lib.hid (write_ok (at_ := frm + i) (v := .slice none 0 0) (bs := []) (d := d.writes frm (L.take i)) HDi.out (Nat.le_trans hB HKi.out.only.size) (.inl ⟨rfl, rfl⟩) hup ha (by have h1 := HR.out; show frm + i < d.lies.length; omega) (Nat.zero_le _) hwt)
      clear hwt
      go_wp2_with (go_at_call 51; refine (HW.out).mono ?_; rintro e w6 ⟨rfl, hd6, hk6⟩; have HD6 := Lib.hid hd6; have HK6 := Lib.hid hk6; clear hd6 hk6; dsimp only)
      go_roundw
      case rel => exact ⟨i + 1, by omega, by simp, by rw [← Dev.writes_next d frm (HL.out i hlt)]; exact HD6.out, HKi.out.trans HK6.out⟩
      case measure => simp [intOf]; omega
    · obtain rfl : i = n := by omega
      have HDe : Hid (DevAt wr B P (d.writes frm L)) := Lib.hid (by have := HDi.out; rw [List.take_of_length_le (by omega)] at this; exact this)
      go_wp2_with (go_at_call 37; refine (flush_ok HDe.out hup).mono ?_; rintro e w4 ⟨rfl, hd4, hk4⟩; have HD4 := Lib.hid hd4; have HK4 := Lib.hid hk4; clear hd4 hk4; dsimp only)
      go_ret
      exact ⟨rfl, HD4.out, HKi.out.trans HK4.out⟩
end Go.Proofs.YtcdgbmeechnpiaaDoor
/- A journal's sectors wiped, on a device that may be armed. -/
namespace Go.Proofs.YtcdgbmeechnpiaaDoor
open Go.RowKit

set_option maxRecDepth 1000000 in
set_option maxHeartbeats 4000000 in
theorem jowipe_any {w : World} {B P frm n : Nat} {d : Dev} (h : DevAt w B P d) (hB : B ≤ w.heap.size) (hn : 1 ≤ n) (hr : frm + n ≤ d.lies.length) (hup : d.down = false) (ha : d.after < 9223372036854775808) (hkp : d.keep < 18446744073709551616) (hm : d.waits.length ≤ 900000000) :
    Calls Tryd.prog 38 #[.pointer (some ⟨P, 0, none⟩), .int .i64 (frm : Int), .int .i64 (n : Int)] w fun e w' => ∃ c d', e = .returned (.int .i64 c) ∧ ((c = 0 ∧ d.Goes n ∧ d' = (d.run frm (List.replicate n [])).flush) ∨ (c = 13 ∧ ¬ d.Goes n ∧ d' = d.fell frm (List.replicate n []))) ∧ DevAt w' B P d' ∧ Kept P w w' := by
  have hN : d.lies.length ≤ 8192 := h.ok.size
  have HH := Lib.hid (johas_any (f := (frm : Int)) (n := (n : Int)) h (by omega))
  have HE : Hid (decide (0 ≤ (frm : Int) ∧ 1 ≤ (n : Int) ∧ (n : Int) ≤ (d.lies.length : Int) - (frm : Int)) = true) := Lib.hid (by simp; omega)
  have HD := Lib.hid h
  have HR := Lib.hid hr
  obtain ⟨L, hL⟩ : ∃ L : List (List Nat), L = List.replicate n [] := ⟨_, rfl⟩
  have hLl : L.length = n := by rw [hL, List.length_replicate]
  have HL : Hid (∀ i, i < n → L[i]? = some []) := Lib.hid (fun i hi => by rw [hL, List.getElem?_replicate, if_pos hi])
  have hn8 : frm + n ≤ 8192 := by omega
  rw [← hL]
  have HAK : Hid (d.after < 9223372036854775808 ∧ d.keep < 18446744073709551616 ∧ d.down = false) := Lib.hid ⟨ha, hkp, hup⟩
  clear h hL hr ha hkp hup
  go_enter Tryd.func38, Tryd.ntmps38
  go_wp2_with (go_at_call 50; refine (HH.out).mono ?_; rw [HE.out]; rintro e w1 ⟨rfl, rfl⟩)
  go_loopw [15] (fun x wr => ∃ i : Nat, i ≤ n ∧ x = .int .i64 (i : Int) ∧ d.Goes i ∧ DevAt wr B P (d.run frm (L.take i)) ∧ Kept P w1 wr) (fun x _ => n - (intOf x).toNat)
  case atStart => exact ⟨0, by omega, rfl, by unfold Dev.Goes; omega, by rw [List.take_zero, Dev.run_nil]; exact HD.out, Kept.refl _ _⟩
  case round =>
    obtain ⟨i, hi, rfl, hgo, hd, hkp⟩ := hrel
    have HGO := Lib.hid hgo
    have HDi := Lib.hid hd
    have HKi := Lib.hid hkp
    clear hd hkp hgo
    by_cases hlt : i < n
    · have e1 : IntKind.i64.wrap ((frm : Int) + (i : Int)) = ((frm + i : Nat) : Int) := by rw [IntKind.wrap_i64]; omega
      have hwt : (d.run frm (L.take i)).waits.length ≤ 1000000000 := by
        show (d.waits ++ _).length ≤ _
        rw [List.length_append, posW_length, List.length_take]; omega
      have HW := Lib.hid (write_any (at_ := frm + i) (v := .slice none 0 0) (bs := []) (d := d.run frm (L.take i)) HDi.out (Nat.le_trans hB HKi.out.only.size) (.inl ⟨rfl, rfl⟩) HAK.out.2.2 (by show d.after - (L.take i).length < _; have := HAK.out.1; omega) HAK.out.2.1 (by have h1 := HR.out; show frm + i < d.lies.length; omega) (Nat.zero_le _) hwt)
      clear hwt
      by_cases hg2 : d.Goes (i + 1)
      · rw [Dev.run_next (d := d) (off := frm) (HL.out i hlt) hg2] at HW
        have HG2 := Lib.hid hg2
        clear hg2
        go_wp2_with (go_at_call 51; refine (HW.out).mono ?_; rintro e w6 ⟨rfl, hd6, hk6⟩; have HD6 := Lib.hid hd6; have HK6 := Lib.hid hk6; clear hd6 hk6; dsimp only)
        go_roundw
        case rel => exact ⟨i + 1, by omega, by simp, HG2.out, HD6.out, HKi.out.trans HK6.out⟩
        case measure => simp [intOf]; omega
      · obtain ⟨hq, hq2⟩ := Dev.run_falls (d := d) (off := frm) (HL.out i hlt) HGO.out hg2
        rw [hq] at HW
        rw [hLl] at hq2
        have HQ := Lib.hid hq2
        clear hg2 hq hq2
        go_wp2_with (go_at_call 51; refine (HW.out).mono ?_; rintro e w6 ⟨rfl, hd6, hk6⟩; have HD6 := Lib.hid hd6; have HK6 := Lib.hid hk6; clear hd6 hk6; dsimp only)
        go_ret
        exact ⟨13, rfl, _, .inr ⟨rfl, HQ.out, rfl⟩, HD6.out, HKi.out.trans HK6.out⟩
    · obtain rfl : i = n := by omega
      have HDe : Hid (DevAt wr B P (d.run frm L)) := Lib.hid (by have := HDi.out; rw [List.take_of_length_le (by omega)] at this; exact this)
      go_wp2_with (go_at_call 37; refine (flush_ok HDe.out HAK.out.2.2).mono ?_; rintro e w4 ⟨rfl, hd4, hk4⟩; have HD4 := Lib.hid hd4; have HK4 := Lib.hid hk4; clear hd4 hk4; dsimp only)
      go_ret
      exact ⟨0, _, rfl, .inl ⟨rfl, HGO.out, rfl⟩, HD4.out, HKi.out.trans HK4.out⟩
end Go.Proofs.YtcdgbmeechnpiaaDoor
/- Texts and rows held against each other. -/
namespace Go.Proofs.YtcdgbmeechnpiaaDoor
open Go.RowKit

theorem str_beq {xs ys : List Nat} (hx : ∀ x ∈ xs, x < 256) (hy : ∀ x ∈ ys, x < 256) : ((strOf xs).toList == (strOf ys).toList) = decide (xs = ys) := by
  rw [text_beq]
  by_cases he : xs = ys
  · rw [he]; simp
  · rw [decide_eq_false he]
    exact decide_eq_false fun h => he (by rw [← ords_strOf hx, ← ords_strOf hy, h])
/-- a row's slice, as it lies -/
theorem rows_get {w : World} {a : Option Addr} {i : Nat} {A : List (List Nat)} {bs : List Nat} (h : A ≠ [] → ∃ b off, a = some ⟨b, off, none⟩ ∧ ∀ (i : Nat) (bs : List Nat), A[i]? = some bs → ∃ u, w.cell? ⟨b, off + i, none⟩ = some u ∧ Lies w u bs) (hi : A[i]? = some bs) :
    ∃ b off ar cr, a = some ⟨b, off, none⟩ ∧ w.cell? ⟨b, off + i, none⟩ = some (.slice ar bs.length cr) ∧ Lies w (.slice ar bs.length cr) bs := by
  obtain ⟨b, off, ha, hr⟩ := h (fun e => by rw [e] at hi; simp at hi)
  obtain ⟨u, h1, h2⟩ := hr i bs hi
  obtain ⟨ar, cr, hu⟩ := lies_len h2
  subst hu
  exact ⟨b, off, ar, cr, ha, h1, h2⟩
end Go.Proofs.YtcdgbmeechnpiaaDoor
