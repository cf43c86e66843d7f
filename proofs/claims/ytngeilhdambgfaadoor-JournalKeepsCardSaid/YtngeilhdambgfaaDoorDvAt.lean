/- A device as it lies; what is asked of it. -/
import Derived.Test.YtngeilhdambgfaaDoorDvL
namespace Go.Proofs.YtngeilhdambgfaaDoor
open Go.RowKit

/-- its cells -/
def dcells (g1 g2 : Nat) (wv : Value) (d : Dev) : List Value :=
  [.slice (some ⟨g1, 0, none⟩) d.lies.length d.lies.length, .slice (some ⟨g2, 0, none⟩) d.lies.length d.lies.length, wv, .bool d.down, .int .i64 (d.after : Int), .int .u64 (d.keep : Int), .int .i64 d.torn, .int .i64 d.bytes]
/-- a device: at P, its sectors at g1, what is read of them at g2, what waits as wv -/
structure DevIn (w : World) (B P g1 g2 : Nat) (wv : Value) (d : Dev) : Prop where
  blk : Arr w P 56 (dcells g1 g2 wv d)
  lies : Arr w g1 62 (u8s d.lies.flatten)
  told : Arr w g2 62 (u8s d.told.flatten)
  waits : w.ownsRow B 64 65 wv d.waits.length (wcells d.waits)
  ne : g1 ≠ g2
  lo : B ≤ P ∧ B ≤ g1 ∧ B ≤ g2
  ok : d.Ok
def DevAt (w : World) (B P : Nat) (d : Dev) : Prop := ∃ g1 g2 wv, DevIn w B P g1 g2 wv d
/-- the device's own blocks -/
def DBlk (w : World) (P k : Nat) : Prop := k = P ∨ ∃ i v, i < 3 ∧ w.cell? ⟨P, i, none⟩ = some v ∧ v.ownBlock = some k
/-- of the old blocks just its own are written; those that are its own are new, or were -/
structure Kept (P : Nat) (w w' : World) : Prop where
  only : Only (DBlk w P) w w'
  own : ∀ k, DBlk w' P k → DBlk w P k ∨ w.heap.size ≤ k
theorem Kept.refl (P : Nat) (w : World) : Kept P w w := ⟨Only.refl _ _, fun _ h => .inl h⟩
theorem Kept.trans {P : Nat} {a b c : World} (h : Kept P a b) (k : Kept P b c) : Kept P a c :=
  ⟨h.only.trans k.only (fun i hi ht => (h.own i ht).elim id fun h1 => absurd hi (by omega)), fun i hi => (k.own i hi).elim (h.own i) fun h1 => .inr (Nat.le_trans h.only.size h1)⟩
theorem arr_ne {w : World} {P g : Nat} {t e : TypeId} {l m : List Value} (h : Arr w P t l) (k : Arr w g e m) (hne : t ≠ e) : P ≠ g := by
  rintro rfl
  unfold Arr at h k
  rw [h] at k
  simp at k
  exact hne k.2
section
variable {w : World} {B P g1 g2 : Nat} {wv : Value} {d : Dev}
theorem DevIn.blks (h : DevIn w B P g1 g2 wv d) {k : Nat} (hk : DBlk w P k) : k = P ∨ k = g1 ∨ k = g2 ∨ wv.ownBlock = some k := by
  rcases hk with h1 | ⟨i, v, hi, hv, hk⟩
  · exact .inl h1
  · right
    match i, hi with
    | 0, _ => rw [h.blk.cell (i := 0) (u := .slice (some ⟨g1, 0, none⟩) d.lies.length d.lies.length) rfl] at hv; cases hv; left; simpa [Value.ownBlock] using hk.symm
    | 1, _ => rw [h.blk.cell (i := 1) (u := .slice (some ⟨g2, 0, none⟩) d.lies.length d.lies.length) rfl] at hv; cases hv; right; left; simpa [Value.ownBlock] using hk.symm
    | 2, _ => rw [h.blk.cell (i := 2) (u := wv) rfl] at hv; cases hv; right; right; exact hk
theorem DevIn.isP (_h : DevIn w B P g1 g2 wv d) : DBlk w P P := .inl rfl
theorem DevIn.is1 (h : DevIn w B P g1 g2 wv d) : DBlk w P g1 := .inr ⟨0, _, by omega, h.blk.cell (i := 0) rfl, rfl⟩
theorem DevIn.is2 (h : DevIn w B P g1 g2 wv d) : DBlk w P g2 := .inr ⟨1, _, by omega, h.blk.cell (i := 1) rfl, rfl⟩
theorem DevIn.isW (h : DevIn w B P g1 g2 wv d) {k : Nat} (hk : wv.ownBlock = some k) : DBlk w P k := .inr ⟨2, wv, by omega, h.blk.cell (i := 2) rfl, hk⟩
theorem DevIn.ne1 (h : DevIn w B P g1 g2 wv d) : P ≠ g1 := arr_ne h.blk h.lies (by decide)
theorem DevIn.ne2 (h : DevIn w B P g1 g2 wv d) : P ≠ g2 := arr_ne h.blk h.told (by decide)
theorem DevIn.neW (h : DevIn w B P g1 g2 wv d) : wv.ownBlock ≠ some P := row_ne h.blk h.waits (by decide)
theorem DevIn.neW1 (h : DevIn w B P g1 g2 wv d) : wv.ownBlock ≠ some g1 := row_ne h.lies h.waits (by decide)
theorem DevIn.neW2 (h : DevIn w B P g1 g2 wv d) : wv.ownBlock ≠ some g2 := row_ne h.told h.waits (by decide)
theorem DevIn.low (h : DevIn w B P g1 g2 wv d) {k : Nat} (hk : DBlk w P k) : B ≤ k := by
  rcases h.blks hk with h1 | h1 | h1 | h1
  · rw [h1]; exact h.lo.1
  · rw [h1]; exact h.lo.2.1
  · rw [h1]; exact h.lo.2.2
  · exact (h.waits.lt k h1).1
/-- the device's cells, for the walk -/
theorem DevIn.cells (h : DevIn w B P g1 g2 wv d) : w.cell? ⟨P, 0, none⟩ = some (.slice (some ⟨g1, 0, none⟩) d.lies.length d.lies.length) ∧ w.cell? ⟨P, 1, none⟩ = some (.slice (some ⟨g2, 0, none⟩) d.lies.length d.lies.length) ∧ w.cell? ⟨P, 2, none⟩ = some wv ∧
    w.cell? ⟨P, 3, none⟩ = some (.bool d.down) ∧ w.cell? ⟨P, 4, none⟩ = some (.int .i64 (d.after : Int)) ∧ w.cell? ⟨P, 5, none⟩ = some (.int .u64 (d.keep : Int)) ∧ w.cell? ⟨P, 6, none⟩ = some (.int .i64 d.torn) ∧ w.cell? ⟨P, 7, none⟩ = some (.int .i64 d.bytes) :=
  ⟨h.blk.cell rfl, h.blk.cell rfl, h.blk.cell rfl, h.blk.cell rfl, h.blk.cell rfl, h.blk.cell rfl, h.blk.cell rfl, h.blk.cell rfl⟩
theorem DevIn.slice (h : DevIn w B P g1 g2 wv d) : ∃ a c, wv = .slice a d.waits.length c := own_slice h.waits
/-- where nothing of its own is written -/
theorem DevIn.only {S : Nat → Prop} {w' : World} (h : DevIn w B P g1 g2 wv d) (ho : Only S w w') (hS : ∀ k, DBlk w P k → ¬ S k) : DevIn w' B P g1 g2 wv d :=
  ⟨h.blk.only ho (hS _ h.isP), h.lies.only ho (hS _ h.is1), h.told.only ho (hS _ h.is2), row_only h.waits ho (fun _ hk => hS _ (h.isW hk)), h.ne, h.lo, h.ok⟩
/-- a writing that waits, as it lies -/
theorem DevIn.wait (h : DevIn w B P g1 g2 wv d) {k : Nat} {x : Nat × List Nat} (hx : d.waits[k]? = some x) : ∃ gw c, wv = .slice (some ⟨gw, 0, none⟩) d.waits.length c ∧ gw < w.heap.size ∧ (∀ j v, (wcell x)[j]? = some v → w.cell? ⟨gw, k * 65 + j, none⟩ = some v) := by
  have hk := (List.getElem?_eq_some_iff.1 hx).1
  rcases h.waits.2 with ⟨_, h0⟩ | ⟨g, cap, cur, hv, hg, hgg, _⟩
  · omega
  · refine ⟨g, cap, hv, lt_of_block hgg, fun j v hj => ?_⟩
    have hl := wcell_length (h.ok.wait x (List.mem_of_getElem? hx)).2
    have hj65 : j < 65 := by have := (List.getElem?_eq_some_iff.1 hj).1; omega
    have hw := h.waits
    rw [hv] at hw
    rw [hw.cellAt (k * 65 + j) (by have := Nat.mul_le_mul_right 65 (show k + 1 ≤ d.waits.length from hk); omega), wcells_get h.ok.wait hx hj65, hj]
end
theorem DevAt.only {S : Nat → Prop} {w w' : World} {B P : Nat} {d : Dev} (h : DevAt w B P d) (ho : Only S w w') (hS : ∀ k, DBlk w P k → ¬ S k) : DevAt w' B P d := by
  obtain ⟨g1, g2, wv, h⟩ := h; exact ⟨g1, g2, wv, h.only ho hS⟩
theorem DevAt.beyond {w w' : World} {B P : Nat} {d : Dev} (h : DevAt w B P d) (hb : Below w.heap.size w w') : DevAt w' B P d := h.only (only_beyond (S := fun _ => False) hb) (fun _ _ h => h)
theorem DevAt.low {w : World} {B P : Nat} {d : Dev} (h : DevAt w B P d) {k : Nat} (hk : DBlk w P k) : B ≤ k := by
  obtain ⟨g1, g2, wv, h⟩ := h; exact h.low hk
theorem DevAt.below {w w' : World} {B P : Nat} {d : Dev} (h : DevAt w B P d) (hB : B ≤ w.heap.size) (hk : Kept P w w') : Below B w w' := hk.only.below hB (fun _ h1 => h.low h1)
theorem DevAt.ok {w : World} {B P : Nat} {d : Dev} (h : DevAt w B P d) : d.Ok := by obtain ⟨g1, g2, wv, h⟩ := h; exact h.ok
theorem kept_drew (P : Nat) (w : World) : Kept P w w.drew := ⟨Only.drew _ w, fun _ hk => .inl hk⟩
theorem DevAt.drew {w : World} {B P : Nat} {d : Dev} (h : DevAt w B P d) : DevAt w.drew B P d := h.only (Only.drew (fun _ => False) w) (fun _ _ h => h)

theorem DevIn.reblk {w w' : World} {B P g1 g2 : Nat} {wv : Value} {d d' : Dev} (h : DevIn w B P g1 g2 wv d) (ho : Only (fun k => k = P) w w') (hb : Arr w' P 56 (dcells g1 g2 wv d')) (e1 : d'.lies = d.lies) (e2 : d'.waits = d.waits) : DevIn w' B P g1 g2 wv d' := by
  have e3 : d'.told = d.told := by unfold Dev.told; rw [e1, e2]
  exact ⟨hb, by rw [e1]; exact h.lies.only ho (fun e => h.ne1 e.symm), by rw [e3]; exact h.told.only ho (fun e => h.ne2 e.symm), by rw [e2]; exact row_only h.waits ho (fun k hk e => h.neW (e ▸ hk)), h.ne, h.lo, ⟨by rw [e1]; exact h.ok.sect, by rw [e1, e2]; exact h.ok.wait, by rw [e1]; exact h.ok.pos, by rw [e1]; exact h.ok.size⟩⟩
/-- where just its own blocks are written, and its cells name no new one -/
theorem DevIn.keeps {w w' : World} {B P g1 g2 : Nat} {wv : Value} {d d' : Dev} (h : DevIn w B P g1 g2 wv d) (ho : Only (fun k => k = P ∨ k = g1 ∨ k = g2) w w') {wv' : Value} (h' : DevIn w' B P g1 g2 wv' d') (hw : ∀ k, wv'.ownBlock = some k → wv.ownBlock = some k ∨ w.heap.size ≤ k) : Kept P w w' :=
  ⟨ho.mono (fun k _ hk => by rcases hk with rfl | rfl | rfl; exact h.isP; exact h.is1; exact h.is2), fun k hk => by
    rcases h'.blks hk with rfl | rfl | rfl | h1
    · exact .inl h.isP
    · exact .inl h.is1
    · exact .inl h.is2
    · exact (hw k h1).imp h.isW id⟩
set_option maxHeartbeats 1000000 in
theorem down_none (w : World) : Calls Tryd.prog 35 #[.pointer none] w fun e w' => e = .returned (.bool true) ∧ w' = w := by
  go_enter Tryd.func35, Tryd.ntmps35
  go_wp2
  go_ret
  exact ⟨rfl, rfl⟩
set_option maxHeartbeats 1000000 in
theorem down_any {w : World} {B P : Nat} {d : Dev} (h : DevAt w B P d) : Calls Tryd.prog 35 #[.pointer (some ⟨P, 0, none⟩)] w fun e w' => e = .returned (.bool d.down) ∧ w' = w := by
  obtain ⟨g1, g2, wv, h⟩ := h
  obtain ⟨_, _, _, c3, _⟩ := h.cells
  clear h
  go_enter Tryd.func35, Tryd.ntmps35
  go_wp2
  go_ret
  exact ⟨rfl, rfl⟩
set_option maxHeartbeats 1000000 in
theorem len_none (w : World) : Calls Tryd.prog 32 #[.pointer none] w fun e w' => e = .returned (.int .i64 0) ∧ w' = w := by
  go_enter Tryd.func32, Tryd.ntmps32
  go_wp2
  go_ret
  exact ⟨rfl, rfl⟩
set_option maxHeartbeats 1000000 in
theorem len_any {w : World} {B P : Nat} {d : Dev} (h : DevAt w B P d) : Calls Tryd.prog 32 #[.pointer (some ⟨P, 0, none⟩)] w fun e w' => e = .returned (.int .i64 (d.lies.length : Int)) ∧ w' = w := by
  obtain ⟨g1, g2, wv, h⟩ := h
  obtain ⟨c0, _⟩ := h.cells
  clear h
  go_enter Tryd.func32, Tryd.ntmps32
  go_wp2
  go_ret
  exact ⟨rfl, rfl⟩
end Go.Proofs.YtngeilhdambgfaaDoor
