/- DvL, DvAt, DvUp, DvRows, DvLaws, DvWrite, DvFlush, OpenRows, DvJoin, DvImg, DvCrash, DvCount, DvArmed, DvNew: laid into one. -/
import Derived.Test.YtcdgbmeechnpiaaDoorMA
import Derived.Deep.Matrix
/- Devices as plain lists: sectors, what waits, what a crash leaves. No function of the program. -/
namespace Go.Proofs.YtcdgbmeechnpiaaDoor
open Go.RowKit

/-! ### Sectors, one behind the other -/
def Sect (L : List (List Nat)) : Prop := ∀ s ∈ L, s.length = 64
theorem Sect.tail {s : List Nat} {L : List (List Nat)} (h : Sect (s :: L)) : Sect L := fun x hx => h x (List.mem_cons_of_mem _ hx)
theorem Sect.set {L : List (List Nat)} (h : Sect L) {i : Nat} {b : List Nat} (hb : b.length = 64) : Sect (L.set i b) := fun x hx => by
  rcases List.mem_or_eq_of_mem_set hx with h1 | h1
  · exact h x h1
  · rw [h1]; exact hb
theorem Sect.get {L : List (List Nat)} (h : Sect L) {i : Nat} {s : List Nat} (hs : L[i]? = some s) : s.length = 64 := h s (List.mem_of_getElem? hs)
theorem flat_length {L : List (List Nat)} (h : Sect L) : L.flatten.length = L.length * 64 := by
  induction L with
  | nil => rfl
  | cons s r ih => rw [List.flatten_cons, List.length_append, ih h.tail, h s (by simp), List.length_cons]; omega
theorem flat_drop {L : List (List Nat)} (h : Sect L) (i : Nat) : (L.drop i).flatten = L.flatten.drop (i * 64) := by
  induction L generalizing i with
  | nil => simp
  | cons s r ih =>
    cases i with
    | zero => simp
    | succ i =>
      rw [List.drop_succ_cons, ih h.tail, List.flatten_cons, List.drop_append, (show s.drop ((i + 1) * 64) = [] from List.drop_eq_nil_of_le (by rw [h s (by simp)]; omega)), List.nil_append, h s (by simp)]
      congr 1; omega
theorem flat_take {L : List (List Nat)} (h : Sect L) (i : Nat) : (L.take i).flatten = L.flatten.take (i * 64) := by
  induction L generalizing i with
  | nil => simp
  | cons s r ih =>
    cases i with
    | zero => simp
    | succ i =>
      rw [List.take_succ_cons, List.flatten_cons, ih h.tail, List.flatten_cons, List.take_append, List.take_of_length_le (l := s) (by rw [h s (by simp)]; omega), h s (by simp)]
      congr 2; omega
theorem flat_at {L : List (List Nat)} (h : Sect L) {i : Nat} {s : List Nat} (hs : L[i]? = some s) : (L.flatten.drop (i * 64)).take 64 = s := by
  have hi := (List.getElem?_eq_some_iff.1 hs).1
  rw [← flat_drop h, List.drop_eq_getElem_cons hi, (List.getElem?_eq_some_iff.1 hs).2, List.flatten_cons, List.take_append, List.take_of_length_le (by rw [h.get hs]; omega), h.get hs]
  simp
theorem flat_get {L : List (List Nat)} (h : Sect L) {i j : Nat} {s : List Nat} (hs : L[i]? = some s) (hj : j < 64) : L.flatten[i * 64 + j]? = s[j]? := by
  rw [← flat_at h hs, List.getElem?_take, if_pos hj, List.getElem?_drop]
theorem flat_set {L : List (List Nat)} (h : Sect L) {i : Nat} {b : List Nat} (hi : i < L.length) (hb : b.length = 64) : (L.set i b).flatten = splice L.flatten (i * 64) b := by
  unfold splice
  rw [hb, show i * 64 + 64 = (i + 1) * 64 by omega, ← flat_take h, ← flat_drop h, List.set_eq_take_append_cons_drop, if_pos hi, List.flatten_append, List.flatten_cons]
theorem splice_splice {α : Type} (L : List α) (off n : Nat) (s b : List α) (hs : (L.drop off).take s.length = s) (hn : n ≤ b.length) (hb : b.length ≤ s.length) : splice L off (b.take n) = splice L off (b.take n ++ s.drop n) := by
  unfold splice
  congr 1
  rw [List.append_assoc]
  congr 1
  have e : L.drop off = s ++ L.drop (off + s.length) := by
    conv => lhs; rw [← List.take_append_drop s.length (L.drop off), hs, List.drop_drop]
  rw [List.length_take, Nat.min_eq_left hn, List.length_append, List.length_take, Nat.min_eq_left hn, List.length_drop, show off + (n + (s.length - n)) = off + s.length by omega, ← List.drop_drop, e, List.drop_append, show n - s.length = 0 by omega, List.drop_zero]
theorem flat_part {L : List (List Nat)} (h : Sect L) {i n : Nat} {s b : List Nat} (hs : L[i]? = some s) (hn : n ≤ 64) (hb : b.length = 64) : (L.set i (b.take n ++ s.drop n)).flatten = splice L.flatten (i * 64) (b.take n) := by
  have hi := (List.getElem?_eq_some_iff.1 hs).1
  have hl := h.get hs
  rw [flat_set h hi (by simp; omega), splice_splice _ _ n s b (by rw [hl]; exact flat_at h hs) (by omega) (by omega)]
theorem u8s_splice (L b : List Nat) (off : Nat) : splice (u8s L) off (u8s b) = u8s (splice L off b) := by unfold splice u8s; simp [List.map_take, List.map_drop]

/-! ### What waits -/
def laid (L : List (List Nat)) (ws : List (Nat × List Nat)) : List (List Nat) := ws.foldl (fun L x => L.set x.1 x.2) L
theorem laid_snoc (L : List (List Nat)) (ws : List (Nat × List Nat)) (x : Nat × List Nat) : laid L (ws ++ [x]) = (laid L ws).set x.1 x.2 := by simp [laid]
theorem laid_length (L : List (List Nat)) (ws : List (Nat × List Nat)) : (laid L ws).length = L.length := by
  unfold laid
  induction ws generalizing L with
  | nil => rfl
  | cons x r ih => rw [List.foldl_cons, ih]; simp
def WOk (n : Nat) (ws : List (Nat × List Nat)) : Prop := ∀ x ∈ ws, x.1 < n ∧ x.2.length = 64
theorem laid_sect {L : List (List Nat)} (h : Sect L) {n : Nat} {ws : List (Nat × List Nat)} (hw : WOk n ws) : Sect (laid L ws) := by
  unfold laid
  induction ws generalizing L with
  | nil => exact h
  | cons x r ih => rw [List.foldl_cons]; exact ih (h.set (hw x (by simp)).2) (fun y hy => hw y (List.mem_cons_of_mem _ hy))
theorem take_more {α : Type} {l : List α} {k : Nat} {x : α} (h : l[k]? = some x) : l.take (k + 1) = l.take k ++ [x] := by rw [List.take_add_one, h]; rfl
theorem laid_take {L : List (List Nat)} {ws : List (Nat × List Nat)} {k : Nat} {x : Nat × List Nat} (h : ws[k]? = some x) : laid L (ws.take (k + 1)) = (laid L (ws.take k)).set x.1 x.2 := by rw [take_more h, laid_snoc]
/-- as they lie: a place, and 64 bytes -/
def wcell (x : Nat × List Nat) : List Value := .int .i64 (x.1 : Int) :: u8s x.2
def wcells (ws : List (Nat × List Nat)) : List Value := ws.flatMap wcell
theorem wcell_length {x : Nat × List Nat} (h : x.2.length = 64) : (wcell x).length = 65 := by simp [wcell, u8s_length, h]
theorem wcells_length {n : Nat} {ws : List (Nat × List Nat)} (h : WOk n ws) : (wcells ws).length = ws.length * 65 := by
  induction ws with
  | nil => rfl
  | cons x r ih =>
    have h1 := ih (fun y hy => h y (List.mem_cons_of_mem _ hy))
    unfold wcells at h1 ⊢
    rw [List.flatMap_cons, List.length_append, h1, wcell_length (h x (by simp)).2, List.length_cons]; omega
theorem wcells_snoc (ws : List (Nat × List Nat)) (x : Nat × List Nat) : wcells (ws ++ [x]) = wcells ws ++ wcell x := by simp [wcells]
theorem wcells_get {n : Nat} {ws : List (Nat × List Nat)} (h : WOk n ws) {k j : Nat} {x : Nat × List Nat} (hx : ws[k]? = some x) (hj : j < 65) : (wcells ws)[k * 65 + j]? = (wcell x)[j]? := by
  induction ws generalizing k with
  | nil => simp at hx
  | cons y r ih =>
    have hy := wcell_length (h y (by simp)).2
    cases k with
    | zero =>
      have e : y = x := by simpa using hx
      subst e
      unfold wcells
      rw [Nat.zero_mul, Nat.zero_add, List.flatMap_cons, List.getElem?_append_left (by omega)]
    | succ k =>
      have h1 := ih (fun z hz => h z (List.mem_cons_of_mem _ hz)) (k := k) (by simpa using hx)
      unfold wcells at h1 ⊢
      rw [List.flatMap_cons, List.getElem?_append_right (by rw [hy]; omega), hy, show (k + 1) * 65 + j - 65 = k * 65 + j by omega, h1]
theorem wcell_one (x : Nat × List Nat) : ∀ u ∈ wcell x, u.oneCell' = true := by
  intro u hu
  rcases List.mem_cons.1 hu with h | h
  · rw [h]; rfl
  · exact u8s_one _ u h
theorem wcells_one (ws : List (Nat × List Nat)) : ∀ u ∈ wcells ws, u.oneCell' = true := by
  intro u hu
  obtain ⟨x, _, hx⟩ := List.mem_flatMap.1 hu
  exact wcell_one x u hx

/-! ### A crash -/
/-- how many bytes of a torn one are written -/
def tornN (b : Int) : Nat := (min (max b 0) 64).toNat
theorem tornN_le (b : Int) : tornN b ≤ 64 := by unfold tornN; omega
def kept (keep i : Nat) : Bool := keep / 2 ^ (i % 64) % 2 == 1
def crash1 (keep : Nat) (torn bytes : Int) (L : List (List Nat)) (x : (Nat × List Nat) × Nat) : List (List Nat) :=
  if kept keep x.2 = true then (L.set x.1.1 (x.1.2.take (if (x.2 : Int) = torn then tornN bytes else 64) ++ (L.getD x.1.1 []).drop (if (x.2 : Int) = torn then tornN bytes else 64))) else L
def crashed (keep : Nat) (torn bytes : Int) (L : List (List Nat)) (ws : List ((Nat × List Nat) × Nat)) : List (List Nat) := ws.foldl (crash1 keep torn bytes) L
theorem crash1_length (keep : Nat) (torn bytes : Int) (L : List (List Nat)) (x : (Nat × List Nat) × Nat) : (crash1 keep torn bytes L x).length = L.length := by unfold crash1; split <;> simp
theorem crashed_length (keep : Nat) (torn bytes : Int) (L : List (List Nat)) (ws : List ((Nat × List Nat) × Nat)) : (crashed keep torn bytes L ws).length = L.length := by
  unfold crashed
  induction ws generalizing L with
  | nil => rfl
  | cons x r ih => rw [List.foldl_cons, ih, crash1_length]
theorem crashed_take {keep : Nat} {torn bytes : Int} {L : List (List Nat)} {ws : List (Nat × List Nat)} {k : Nat} {x : Nat × List Nat} (h : ws[k]? = some x) : crashed keep torn bytes L (ws.zipIdx.take (k + 1)) = crash1 keep torn bytes (crashed keep torn bytes L (ws.zipIdx.take k)) (x, k) := by
  have h1 : ws.zipIdx[k]? = some (x, k) := by simp [List.getElem?_zipIdx, h]
  rw [take_more h1]
  simp [crashed]
theorem crash1_sect {keep : Nat} {torn bytes : Int} {L : List (List Nat)} {x : (Nat × List Nat) × Nat} (h : Sect L) (h1 : x.1.1 < L.length) (h2 : x.1.2.length = 64) : Sect (crash1 keep torn bytes L x) := by
  unfold crash1
  split
  · refine h.set ?_
    have h3 : (L.getD x.1.1 []).length = 64 := by simp [List.getD, h1]; exact h _ (List.getElem_mem h1)
    have := tornN_le bytes
    rw [List.length_append, List.length_take, List.length_drop, h3]
    split <;> omega
  · exact h
theorem crashed_sect {keep : Nat} {torn bytes : Int} {L : List (List Nat)} (h : Sect L) {ws : List ((Nat × List Nat) × Nat)} (hw : ∀ x ∈ ws, x.1.1 < L.length ∧ x.1.2.length = 64) : Sect (crashed keep torn bytes L ws) := by
  unfold crashed
  induction ws generalizing L with
  | nil => exact h
  | cons x r ih =>
    rw [List.foldl_cons]
    exact ih (crash1_sect h (hw x (by simp)).1 (hw x (by simp)).2) (fun y hy => by rw [crash1_length]; exact hw y (List.mem_cons_of_mem _ hy))
theorem crash1_other {keep : Nat} {torn bytes : Int} {L : List (List Nat)} {x : (Nat × List Nat) × Nat} {j : Nat} (h : x.1.1 ≠ j) : (crash1 keep torn bytes L x)[j]? = L[j]? := by
  unfold crash1
  split
  · rw [List.getElem?_set_ne h]
  · rfl
theorem crashed_other {keep : Nat} {torn bytes : Int} {L : List (List Nat)} {ws : List ((Nat × List Nat) × Nat)} {j : Nat} (h : ∀ x ∈ ws, x.1.1 ≠ j) : (crashed keep torn bytes L ws)[j]? = L[j]? := by
  unfold crashed
  induction ws generalizing L with
  | nil => rfl
  | cons x r ih => rw [List.foldl_cons, ih (fun y hy => h y (List.mem_cons_of_mem _ hy)), crash1_other (h x (by simp))]
theorem laid_other {L : List (List Nat)} {ws : List (Nat × List Nat)} {j : Nat} (h : ∀ x ∈ ws, x.1 ≠ j) : (laid L ws)[j]? = L[j]? := by
  unfold laid
  induction ws generalizing L with
  | nil => rfl
  | cons x r ih => rw [List.foldl_cons, ih (fun y hy => h y (List.mem_cons_of_mem _ hy)), List.getElem?_set_ne (h x (by simp))]
/-- what is told of the sectors that were written, set anew -/
def again (M L : List (List Nat)) (ws : List (Nat × List Nat)) : List (List Nat) := ws.foldl (fun T x => T.set x.1 (M.getD x.1 [])) L
theorem again_length (M L : List (List Nat)) (ws : List (Nat × List Nat)) : (again M L ws).length = L.length := by
  unfold again
  induction ws generalizing L with
  | nil => rfl
  | cons x r ih => rw [List.foldl_cons, ih]; simp
theorem again_take {M L : List (List Nat)} {ws : List (Nat × List Nat)} {k : Nat} {x : Nat × List Nat} (h : ws[k]? = some x) : again M L (ws.take (k + 1)) = (again M L (ws.take k)).set x.1 (M.getD x.1 []) := by
  rw [take_more h]; simp [again]
theorem again_get {M L : List (List Nat)} {ws : List (Nat × List Nat)} {j : Nat} (hl : M.length = L.length) (h : (∃ x ∈ ws, x.1 = j) ∨ L[j]? = M[j]?) : (again M L ws)[j]? = M[j]? := by
  unfold again
  induction ws generalizing L with
  | nil =>
    rcases h with ⟨x, hx, _⟩ | h
    · simp at hx
    · exact h
  | cons y r ih =>
    rw [List.foldl_cons]
    refine ih (by simpa using hl) ?_
    by_cases hy : y.1 = j
    · right
      subst hy
      by_cases hlt : y.1 < L.length
      · rw [List.getElem?_set_self hlt]
        simp [List.getD, List.getElem?_eq_getElem (show y.1 < M.length by omega)]
      · rw [List.getElem?_eq_none (by simp; omega), List.getElem?_eq_none (by omega)]
    · rcases h with ⟨x, hx, hxj⟩ | h
      · rcases List.mem_cons.1 hx with h1 | h1
        · subst h1; exact absurd hxj hy
        · exact .inl ⟨x, h1, hxj⟩
      · right; rw [List.getElem?_set_ne hy]; exact h
theorem again_crash (keep : Nat) (torn bytes : Int) (L : List (List Nat)) (ws : List (Nat × List Nat)) : again (crashed keep torn bytes L ws.zipIdx) (laid L ws) ws = crashed keep torn bytes L ws.zipIdx := by
  refine List.ext_getElem? fun j => ?_
  by_cases h : ∃ x ∈ ws, x.1 = j
  · exact again_get (by rw [crashed_length, laid_length]) (.inl h)
  · have h1 : ∀ x ∈ ws, x.1 ≠ j := fun x hx e => h ⟨x, hx, e⟩
    refine again_get (by rw [crashed_length, laid_length]) (.inr ?_)
    rw [laid_other h1, crashed_other]
    intro x hx
    have := List.mem_zipIdx hx
    exact h1 x.1 (by rw [this.2.2]; exact List.getElem_mem _)

/-! ### A device -/
structure Dev where
  lies : List (List Nat)
  waits : List (Nat × List Nat)
  down : Bool
  after : Nat
  keep : Nat
  torn : Int
  bytes : Int
def Dev.told (d : Dev) : List (List Nat) := laid d.lies d.waits
structure Dev.Ok (d : Dev) : Prop where
  sect : Sect d.lies
  wait : WOk d.lies.length d.waits
  pos : 1 ≤ d.lies.length
  size : d.lies.length ≤ 8192
theorem Dev.Ok.told {d : Dev} (h : d.Ok) : Sect d.told := laid_sect h.sect h.wait
theorem Dev.told_length (d : Dev) : d.told.length = d.lies.length := laid_length _ _
/-- a new one -/
def Dev.fresh (n : Nat) : Dev := ⟨List.replicate n (List.replicate 64 0), [], false, 0, 0, 0, 0⟩
theorem Dev.fresh_ok {n : Nat} (h1 : 1 ≤ n) (h2 : n ≤ 8192) : (Dev.fresh n).Ok :=
  ⟨fun s hs => by rw [(List.mem_replicate.1 hs).2]; simp, fun x hx => by simp [Dev.fresh] at hx, by simpa [Dev.fresh] using h1, by simpa [Dev.fresh] using h2⟩
/-- bytes, and the rest 0 -/
def padB (b : List Nat) : List Nat := b ++ List.replicate (64 - b.length) 0
theorem padB_length {b : List Nat} (h : b.length ≤ 64) : (padB b).length = 64 := by simp [padB]; omega
theorem padB_splice {b : List Nat} (_h : b.length ≤ 64) : splice (List.replicate 64 0) 0 b = padB b := by
  unfold splice padB
  rw [List.take_zero, List.nil_append, Nat.zero_add, List.drop_replicate]
def Dev.write (d : Dev) (at_ : Nat) (b : List Nat) : Dev := { d with waits := d.waits ++ [(at_, padB b)] }
theorem Dev.write_ok {d : Dev} (h : d.Ok) {at_ : Nat} {b : List Nat} (h1 : at_ < d.lies.length) (h2 : b.length ≤ 64) : (d.write at_ b).Ok :=
  ⟨h.sect, fun x hx => by
    rcases List.mem_append.1 hx with h3 | h3
    · exact h.wait x h3
    · rw [List.mem_singleton.1 h3]; exact ⟨h1, padB_length h2⟩, h.pos, h.size⟩
theorem Dev.write_told (d : Dev) (at_ : Nat) (b : List Nat) : (d.write at_ b).told = d.told.set at_ (padB b) := laid_snoc _ _ _
def Dev.flush (d : Dev) : Dev := { d with lies := d.told, waits := [] }
theorem Dev.flush_ok {d : Dev} (h : d.Ok) : d.flush.Ok := ⟨h.told, fun x hx => by simp [Dev.flush] at hx, by show 1 ≤ d.told.length; rw [d.told_length]; exact h.pos, by show d.told.length ≤ _; rw [d.told_length]; exact h.size⟩
def Dev.crash (d : Dev) (keep : Nat) (torn bytes : Int) : Dev := ⟨crashed keep torn bytes d.lies d.waits.zipIdx, [], true, 0, 0, 0, 0⟩
theorem Dev.zip_ok {d : Dev} (h : d.Ok) : ∀ x ∈ d.waits.zipIdx, x.1.1 < d.lies.length ∧ x.1.2.length = 64 := fun x hx => h.wait _ (by rw [(List.mem_zipIdx hx).2.2]; exact List.getElem_mem _)
theorem Dev.crash_ok {d : Dev} (h : d.Ok) (keep : Nat) (torn bytes : Int) : (d.crash keep torn bytes).Ok :=
  ⟨crashed_sect h.sect (Dev.zip_ok h), fun x hx => by simp [Dev.crash] at hx, by show 1 ≤ (crashed _ _ _ _ _).length; rw [crashed_length]; exact h.pos, by show (crashed _ _ _ _ _).length ≤ _; rw [crashed_length]; exact h.size⟩
def Dev.up (d : Dev) : Dev := { d with down := false, after := 0, keep := 0, torn := 0, bytes := 0 }
theorem Dev.up_ok {d : Dev} (h : d.Ok) : d.up.Ok := ⟨h.sect, h.wait, h.pos, h.size⟩
end Go.Proofs.YtcdgbmeechnpiaaDoor
/- A device as it lies; what is asked of it. -/
namespace Go.Proofs.YtcdgbmeechnpiaaDoor
open Go.RowKit

/-- its cells -/
def dcells (g1 g2 : Nat) (wv : Value) (d : Dev) : List Value :=
  [.slice (some ⟨g1, 0, none⟩) d.lies.length d.lies.length, .slice (some ⟨g2, 0, none⟩) d.lies.length d.lies.length, wv, .bool d.down, .int .i64 (d.after : Int), .int .u64 (d.keep : Int), .int .i64 d.torn, .int .i64 d.bytes]
/-- a device: at P, its sectors at g1, what is read of them at g2, what waits as wv -/
structure DevIn (w : World) (B P g1 g2 : Nat) (wv : Value) (d : Dev) : Prop where
  blk : Arr w P 57 (dcells g1 g2 wv d)
  lies : Arr w g1 69 (u8s d.lies.flatten)
  told : Arr w g2 69 (u8s d.told.flatten)
  waits : w.ownsRow B 71 65 wv d.waits.length (wcells d.waits)
  ne : g1 ≠ g2
  lo : B ≤ P ∧ B ≤ g1 ∧ B ≤ g2
  ok : d.Ok
def DevAt (w : World) (B P : Nat) (d : Dev) : Prop := ∃ g1 g2 wv, DevIn w B P g1 g2 wv d
/-- the device's own blocks -/
def DBlk (w : World) (P k : Nat) : Prop := k = P ∨ ∃ i v, i < 3 ∧ w.cell? ⟨P, i, none⟩ = some v ∧ v.ownBlock = some k
/-- of the old blocks just its own are written; those that are its own are new, or were -/
structure Kept (P : Nat) (w w' : World) : Prop where
  only : Only (DBlk w P) w w'
  own : ∀ k, DBlk w' P k → DBlk w P k ∨ w.heap.size ≤ k
theorem Kept.refl (P : Nat) (w : World) : Kept P w w := ⟨Only.refl _ _, fun _ h => .inl h⟩
theorem Kept.trans {P : Nat} {a b c : World} (h : Kept P a b) (k : Kept P b c) : Kept P a c :=
  ⟨h.only.trans k.only (fun i hi ht => (h.own i ht).elim id fun h1 => absurd hi (by omega)), fun i hi => (k.own i hi).elim (h.own i) fun h1 => .inr (Nat.le_trans h.only.size h1)⟩
theorem arr_ne {w : World} {P g : Nat} {t e : TypeId} {l m : List Value} (h : Arr w P t l) (k : Arr w g e m) (hne : t ≠ e) : P ≠ g := by
  rintro rfl
  unfold Arr at h k
  rw [h] at k
  simp at k
  exact hne k.2
section
variable {w : World} {B P g1 g2 : Nat} {wv : Value} {d : Dev}
theorem DevIn.blks (h : DevIn w B P g1 g2 wv d) {k : Nat} (hk : DBlk w P k) : k = P ∨ k = g1 ∨ k = g2 ∨ wv.ownBlock = some k := by
  rcases hk with h1 | ⟨i, v, hi, hv, hk⟩
  · exact .inl h1
  · right
    match i, hi with
    | 0, _ => rw [h.blk.cell (i := 0) (u := .slice (some ⟨g1, 0, none⟩) d.lies.length d.lies.length) rfl] at hv; cases hv; left; simpa [Value.ownBlock] using hk.symm
    | 1, _ => rw [h.blk.cell (i := 1) (u := .slice (some ⟨g2, 0, none⟩) d.lies.length d.lies.length) rfl] at hv; cases hv; right; left; simpa [Value.ownBlock] using hk.symm
    | 2, _ => rw [h.blk.cell (i := 2) (u := wv) rfl] at hv; cases hv; right; right; exact hk
theorem DevIn.isP (_h : DevIn w B P g1 g2 wv d) : DBlk w P P := .inl rfl
theorem DevIn.is1 (h : DevIn w B P g1 g2 wv d) : DBlk w P g1 := .inr ⟨0, _, by omega, h.blk.cell (i := 0) rfl, rfl⟩
theorem DevIn.is2 (h : DevIn w B P g1 g2 wv d) : DBlk w P g2 := .inr ⟨1, _, by omega, h.blk.cell (i := 1) rfl, rfl⟩
theorem DevIn.isW (h : DevIn w B P g1 g2 wv d) {k : Nat} (hk : wv.ownBlock = some k) : DBlk w P k := .inr ⟨2, wv, by omega, h.blk.cell (i := 2) rfl, hk⟩
theorem DevIn.ne1 (h : DevIn w B P g1 g2 wv d) : P ≠ g1 := arr_ne h.blk h.lies (by decide)
theorem DevIn.ne2 (h : DevIn w B P g1 g2 wv d) : P ≠ g2 := arr_ne h.blk h.told (by decide)
theorem DevIn.neW (h : DevIn w B P g1 g2 wv d) : wv.ownBlock ≠ some P := row_ne h.blk h.waits (by decide)
theorem DevIn.neW1 (h : DevIn w B P g1 g2 wv d) : wv.ownBlock ≠ some g1 := row_ne h.lies h.waits (by decide)
theorem DevIn.neW2 (h : DevIn w B P g1 g2 wv d) : wv.ownBlock ≠ some g2 := row_ne h.told h.waits (by decide)
theorem DevIn.low (h : DevIn w B P g1 g2 wv d) {k : Nat} (hk : DBlk w P k) : B ≤ k := by
  rcases h.blks hk with h1 | h1 | h1 | h1
  · rw [h1]; exact h.lo.1
  · rw [h1]; exact h.lo.2.1
  · rw [h1]; exact h.lo.2.2
  · exact (h.waits.lt k h1).1
/-- the device's cells, for the walk -/
theorem DevIn.cells (h : DevIn w B P g1 g2 wv d) : w.cell? ⟨P, 0, none⟩ = some (.slice (some ⟨g1, 0, none⟩) d.lies.length d.lies.length) ∧ w.cell? ⟨P, 1, none⟩ = some (.slice (some ⟨g2, 0, none⟩) d.lies.length d.lies.length) ∧ w.cell? ⟨P, 2, none⟩ = some wv ∧
    w.cell? ⟨P, 3, none⟩ = some (.bool d.down) ∧ w.cell? ⟨P, 4, none⟩ = some (.int .i64 (d.after : Int)) ∧ w.cell? ⟨P, 5, none⟩ = some (.int .u64 (d.keep : Int)) ∧ w.cell? ⟨P, 6, none⟩ = some (.int .i64 d.torn) ∧ w.cell? ⟨P, 7, none⟩ = some (.int .i64 d.bytes) :=
  ⟨h.blk.cell rfl, h.blk.cell rfl, h.blk.cell rfl, h.blk.cell rfl, h.blk.cell rfl, h.blk.cell rfl, h.blk.cell rfl, h.blk.cell rfl⟩
theorem DevIn.slice (h : DevIn w B P g1 g2 wv d) : ∃ a c, wv = .slice a d.waits.length c := own_slice h.waits
/-- where nothing of its own is written -/
theorem DevIn.only {S : Nat → Prop} {w' : World} (h : DevIn w B P g1 g2 wv d) (ho : Only S w w') (hS : ∀ k, DBlk w P k → ¬ S k) : DevIn w' B P g1 g2 wv d :=
  ⟨h.blk.only ho (hS _ h.isP), h.lies.only ho (hS _ h.is1), h.told.only ho (hS _ h.is2), row_only h.waits ho (fun _ hk => hS _ (h.isW hk)), h.ne, h.lo, h.ok⟩
/-- a writing that waits, as it lies -/
theorem DevIn.wait (h : DevIn w B P g1 g2 wv d) {k : Nat} {x : Nat × List Nat} (hx : d.waits[k]? = some x) : ∃ gw c, wv = .slice (some ⟨gw, 0, none⟩) d.waits.length c ∧ gw < w.heap.size ∧ (∀ j v, (wcell x)[j]? = some v → w.cell? ⟨gw, k * 65 + j, none⟩ = some v) := by
  have hk := (List.getElem?_eq_some_iff.1 hx).1
  rcases h.waits.2 with ⟨_, h0⟩ | ⟨g, cap, cur, hv, hg, hgg, _⟩
  · omega
  · refine ⟨g, cap, hv, lt_of_block hgg, fun j v hj => ?_⟩
    have hl := wcell_length (h.ok.wait x (List.mem_of_getElem? hx)).2
    have hj65 : j < 65 := by have := (List.getElem?_eq_some_iff.1 hj).1; omega
    have hw := h.waits
    rw [hv] at hw
    rw [hw.cellAt (k * 65 + j) (by have := Nat.mul_le_mul_right 65 (show k + 1 ≤ d.waits.length from hk); omega), wcells_get h.ok.wait hx hj65, hj]
end
theorem DevAt.only {S : Nat → Prop} {w w' : World} {B P : Nat} {d : Dev} (h : DevAt w B P d) (ho : Only S w w') (hS : ∀ k, DBlk w P k → ¬ S k) : DevAt w' B P d := by
  obtain ⟨g1, g2, wv, h⟩ := h; exact ⟨g1, g2, wv, h.only ho hS⟩
theorem DevAt.beyond {w w' : World} {B P : Nat} {d : Dev} (h : DevAt w B P d) (hb : Below w.heap.size w w') : DevAt w' B P d := h.only (only_beyond (S := fun _ => False) hb) (fun _ _ h => h)
theorem DevAt.low {w : World} {B P : Nat} {d : Dev} (h : DevAt w B P d) {k : Nat} (hk : DBlk w P k) : B ≤ k := by
  obtain ⟨g1, g2, wv, h⟩ := h; exact h.low hk
theorem DevAt.below {w w' : World} {B P : Nat} {d : Dev} (h : DevAt w B P d) (hB : B ≤ w.heap.size) (hk : Kept P w w') : Below B w w' := hk.only.below hB (fun _ h1 => h.low h1)
theorem DevAt.ok {w : World} {B P : Nat} {d : Dev} (h : DevAt w B P d) : d.Ok := by obtain ⟨g1, g2, wv, h⟩ := h; exact h.ok
theorem kept_drew (P : Nat) (w : World) : Kept P w w.drew := ⟨Only.drew _ w, fun _ hk => .inl hk⟩
theorem DevAt.drew {w : World} {B P : Nat} {d : Dev} (h : DevAt w B P d) : DevAt w.drew B P d := h.only (Only.drew (fun _ => False) w) (fun _ _ h => h)

theorem DevIn.reblk {w w' : World} {B P g1 g2 : Nat} {wv : Value} {d d' : Dev} (h : DevIn w B P g1 g2 wv d) (ho : Only (fun k => k = P) w w') (hb : Arr w' P 57 (dcells g1 g2 wv d')) (e1 : d'.lies = d.lies) (e2 : d'.waits = d.waits) : DevIn w' B P g1 g2 wv d' := by
  have e3 : d'.told = d.told := by unfold Dev.told; rw [e1, e2]
  exact ⟨hb, by rw [e1]; exact h.lies.only ho (fun e => h.ne1 e.symm), by rw [e3]; exact h.told.only ho (fun e => h.ne2 e.symm), by rw [e2]; exact row_only h.waits ho (fun k hk e => h.neW (e ▸ hk)), h.ne, h.lo, ⟨by rw [e1]; exact h.ok.sect, by rw [e1, e2]; exact h.ok.wait, by rw [e1]; exact h.ok.pos, by rw [e1]; exact h.ok.size⟩⟩
/-- where just its own blocks are written, and its cells name no new one -/
theorem DevIn.keeps {w w' : World} {B P g1 g2 : Nat} {wv : Value} {d d' : Dev} (h : DevIn w B P g1 g2 wv d) (ho : Only (fun k => k = P ∨ k = g1 ∨ k = g2) w w') {wv' : Value} (h' : DevIn w' B P g1 g2 wv' d') (hw : ∀ k, wv'.ownBlock = some k → wv.ownBlock = some k ∨ w.heap.size ≤ k) : Kept P w w' :=
  ⟨ho.mono (fun k _ hk => by rcases hk with rfl | rfl | rfl; exact h.isP; exact h.is1; exact h.is2), fun k hk => by
    rcases h'.blks hk with rfl | rfl | rfl | h1
    · exact .inl h.isP
    · exact .inl h.is1
    · exact .inl h.is2
    · exact (hw k h1).imp h.isW id⟩
set_option maxHeartbeats 1000000 in
theorem down_none (w : World) : Calls Tryd.prog 18 #[.pointer none] w fun e w' => e = .returned (.bool true) ∧ w' = w := by
  go_enter Tryd.func18, Tryd.ntmps18
  go_wp2
  go_ret
  exact ⟨rfl, rfl⟩
set_option maxHeartbeats 1000000 in
theorem down_any {w : World} {B P : Nat} {d : Dev} (h : DevAt w B P d) : Calls Tryd.prog 18 #[.pointer (some ⟨P, 0, none⟩)] w fun e w' => e = .returned (.bool d.down) ∧ w' = w := by
  obtain ⟨g1, g2, wv, h⟩ := h
  obtain ⟨_, _, _, c3, _⟩ := h.cells
  clear h
  go_enter Tryd.func18, Tryd.ntmps18
  go_wp2
  go_ret
  exact ⟨rfl, rfl⟩
set_option maxHeartbeats 1000000 in
theorem len_none (w : World) : Calls Tryd.prog 21 #[.pointer none] w fun e w' => e = .returned (.int .i64 0) ∧ w' = w := by
  go_enter Tryd.func21, Tryd.ntmps21
  go_wp2
  go_ret
  exact ⟨rfl, rfl⟩
set_option maxHeartbeats 1000000 in
theorem len_any {w : World} {B P : Nat} {d : Dev} (h : DevAt w B P d) : Calls Tryd.prog 21 #[.pointer (some ⟨P, 0, none⟩)] w fun e w' => e = .returned (.int .i64 (d.lies.length : Int)) ∧ w' = w := by
  obtain ⟨g1, g2, wv, h⟩ := h
  obtain ⟨c0, _⟩ := h.cells
  clear h
  go_enter Tryd.func21, Tryd.ntmps21
  go_wp2
  go_ret
  exact ⟨rfl, rfl⟩
end Go.Proofs.YtcdgbmeechnpiaaDoor
/- What is armed counted and taken back; a device up again. -/
namespace Go.Proofs.YtcdgbmeechnpiaaDoor
open Go.RowKit

set_option maxHeartbeats 1000000 in
theorem count_none {w : World} {B P : Nat} {d : Dev} (h : DevAt w B P d) (ha : d.after = 0) : Calls Tryd.prog 62 #[.pointer (some ⟨P, 0, none⟩)] w fun e w' => e = .returned (.int .i64 0) ∧ w' = w := by
  obtain ⟨g1, g2, wv, h⟩ := h
  obtain ⟨_, _, _, _, c4, _⟩ := h.cells
  rw [ha] at c4
  clear h
  go_enter Tryd.func62, Tryd.ntmps62
  go_wp2
  go_ret
  exact ⟨rfl, rfl⟩
/-- nothing armed -/
def Dev.calm (d : Dev) : Dev := { d with after := 0, keep := 0, torn := 0, bytes := 0 }
theorem DevIn.free {w : World} {B P g1 g2 : Nat} {wv : Value} {d : Dev} (h : DevIn w B P g1 g2 wv d) (i : Nat) : w.frozen? ⟨P, i, none⟩ = false := h.blk.free i
set_option maxHeartbeats 4000000 in
theorem disarm_any {w : World} {B P g1 g2 : Nat} {wv : Value} {d : Dev} (h : DevIn w B P g1 g2 wv d) : Calls Tryd.prog 31 #[.pointer (some ⟨P, 0, none⟩)] w fun e w' => e = .returned (.tuple #[]) ∧ DevIn w' B P g1 g2 wv d.calm ∧ Only (fun k => k = P) w w' := by
  obtain ⟨_, _, _, _, c4, c5, c6, c7⟩ := h.cells
  have f4 := h.free 4
  have f5 := h.free 5
  have f6 := h.free 6
  have f7 := h.free 7
  have HD := Lib.hid h
  clear h
  go_enter Tryd.func31, Tryd.ntmps31
  go_wp2
  go_end0
  have HA := (((HD.out.blk.set 4 (.int .i64 0)).set 5 (.int .u64 0)).set 6 (.int .i64 0)).set 7 (.int .i64 0)
  have HO : Only (fun k => k = P) w ((((w.setCell ⟨P, 4, none⟩ (.int .i64 0)).setCell ⟨P, 5, none⟩ (.int .u64 0)).setCell ⟨P, 6, none⟩ (.int .i64 0)).setCell ⟨P, 7, none⟩ (.int .i64 0)) :=
    (((Only.setCell (S := fun k => k = P) _ (p := ⟨P, 4, none⟩) rfl _).trans (Only.setCell (S := fun k => k = P) _ (p := ⟨P, 5, none⟩) rfl _) (fun _ _ h => h)).trans (Only.setCell (S := fun k => k = P) _ (p := ⟨P, 6, none⟩) rfl _) (fun _ _ h => h)).trans (Only.setCell (S := fun k => k = P) _ (p := ⟨P, 7, none⟩) rfl _) (fun _ _ h => h)
  exact ⟨rfl, HD.out.reblk HO HA rfl rfl, HO⟩
set_option maxHeartbeats 4000000 in
theorem up_any {w : World} {B P : Nat} {d : Dev} (h : DevAt w B P d) : Calls Tryd.prog 14 #[.pointer (some ⟨P, 0, none⟩)] w fun e w' => e = .returned (.tuple #[]) ∧ DevAt w' B P d.up ∧ Kept P w w' := by
  obtain ⟨g1, g2, wv, h⟩ := h
  obtain ⟨_, _, _, c3, _⟩ := h.cells
  have f3 := h.free 3
  have HO : Hid (Only (fun k => k = P) w (w.setCell ⟨P, 3, none⟩ (.bool false))) := Lib.hid (Only.setCell (S := fun k => k = P) _ (p := ⟨P, 3, none⟩) rfl _)
  have HD1 : Hid (DevIn (w.setCell ⟨P, 3, none⟩ (.bool false)) B P g1 g2 wv { d with down := false }) := Lib.hid (h.reblk HO.out (h.blk.set 3 (.bool false)) rfl rfl)
  have HD := Lib.hid h
  clear h
  go_enter Tryd.func14, Tryd.ntmps14
  go_wp2_with (go_at_call 31; refine (disarm_any HD1.out).mono ?_; rintro e w' ⟨rfl, hd, ho⟩; have HD2 := Lib.hid hd; have HO2 := Lib.hid ho; clear hd ho)
  go_end0
  exact ⟨rfl, ⟨g1, g2, wv, HD2.out⟩, HD.out.keeps ((HO.out.trans HO2.out (fun _ _ h => h)).mono (fun _ _ h => .inl h)) HD2.out (fun _ h => .inl h)⟩
set_option maxHeartbeats 1000000 in
theorem up_none (w : World) : Calls Tryd.prog 14 #[.pointer none] w fun e w' => e = .returned (.tuple #[]) ∧ w' = w := by
  go_enter Tryd.func14, Tryd.ntmps14
  go_wp2
  (try simp only [Exit.inBlock, Exit.then])
  refine bodyPost_ret (results_none rfl _ _ _) rfl ?_
  exact ⟨rfl, rfl⟩
set_option maxHeartbeats 1000000 in
theorem crash_none (w : World) (x y z : Value) : Calls Tryd.prog 13 #[.pointer none, x, y, z] w fun e w' => e = .returned (.tuple #[]) ∧ w' = w := by
  go_enter Tryd.func13, Tryd.ntmps13
  go_wp2
  (try simp only [Exit.inBlock, Exit.then])
  refine bodyPost_ret (results_none rfl _ _ _) rfl ?_
  exact ⟨rfl, rfl⟩
set_option maxHeartbeats 1000000 in
theorem write_none (w : World) (x y : Value) : Calls Tryd.prog 51 #[.pointer none, x, y] w fun e w' => e = .returned (.int .i64 13) ∧ w' = w := by
  go_enter Tryd.func51, Tryd.ntmps51
  go_wp2_with (go_at_call 18; refine (down_none _).mono ?_; rintro e w' ⟨rfl, rfl⟩)
  go_ret
  exact ⟨rfl, rfl⟩
set_option maxHeartbeats 1000000 in
theorem flush_none (w : World) : Calls Tryd.prog 37 #[.pointer none] w fun e w' => e = .returned (.int .i64 13) ∧ w' = w := by
  go_enter Tryd.func37, Tryd.ntmps37
  go_wp2_with (go_at_call 18; refine (down_none _).mono ?_; rintro e w' ⟨rfl, rfl⟩)
  go_ret
  exact ⟨rfl, rfl⟩
end Go.Proofs.YtcdgbmeechnpiaaDoor
/- Rows written one behind the other, and what a crash leaves of them. -/
namespace Go.Proofs.YtcdgbmeechnpiaaDoor
open Go.RowKit

/-- writings of rows, from a sector on -/
def posW : Nat → List (List Nat) → List (Nat × List Nat)
  | _, [] => []
  | off, b :: r => (off, padB b) :: posW (off + 1) r
theorem posW_snoc (off : Nat) (A : List (List Nat)) (b : List Nat) : posW off (A ++ [b]) = posW off A ++ [(off + A.length, padB b)] := by
  induction A generalizing off with
  | nil => rfl
  | cons c r ih => simp only [List.cons_append, posW, ih, List.length_cons]; rw [show off + 1 + r.length = off + (r.length + 1) by omega]
theorem posW_length (off : Nat) (A : List (List Nat)) : (posW off A).length = A.length := by
  induction A generalizing off with
  | nil => rfl
  | cons c r ih => simp [posW, ih]
def Dev.writes (d : Dev) (off : Nat) (A : List (List Nat)) : Dev := { d with waits := d.waits ++ posW off A }
theorem Dev.writes_nil (d : Dev) (off : Nat) : d.writes off [] = d := by simp [Dev.writes, posW]
theorem Dev.writes_next (d : Dev) (off : Nat) {A : List (List Nat)} {k : Nat} {b : List Nat} (h : A[k]? = some b) : (d.writes off (A.take k)).write (off + k) b = d.writes off (A.take (k + 1)) := by
  have hk := (List.getElem?_eq_some_iff.1 h).1
  rw [take_more h]
  simp [Dev.writes, Dev.write, posW_snoc, List.length_take, Nat.min_eq_left (Nat.le_of_lt hk)]
theorem laid_pos (L : List (List Nat)) (off : Nat) (A : List (List Nat)) (j : Nat) (hj : j < L.length) : (laid L (posW off A))[j]? = if off ≤ j ∧ j < off + A.length then (A[j - off]?).map padB else L[j]? := by
  induction A generalizing L off with
  | nil => rw [if_neg (by rintro ⟨h1, h2⟩; rw [List.length_nil] at h2; omega)]; rfl
  | cons b r ih =>
    have h := ih (L.set off (padB b)) (off + 1) (by simpa using hj)
    show (laid (L.set off (padB b)) (posW (off + 1) r))[j]? = _
    rw [h, List.length_cons]
    by_cases h1 : off + 1 ≤ j ∧ j < off + 1 + r.length
    · rw [if_pos h1, if_pos (by omega), show j - off = (j - (off + 1)) + 1 by omega, List.getElem?_cons_succ]
    · rw [if_neg h1]
      by_cases h2 : off = j
      · subst h2
        rw [List.getElem?_set_self hj, if_pos (by omega), Nat.sub_self]; rfl
      · rw [List.getElem?_set_ne h2, if_neg (by omega)]
theorem crash_pos (keep : Nat) (L : List (List Nat)) (off s : Nat) (A : List (List Nat)) (hA : ∀ b ∈ A, b.length ≤ 64) (hL : Sect L) (j : Nat) (hj : j < L.length) (hoff : off + A.length ≤ L.length) :
    (crashed keep (-1) 0 L ((posW off A).zipIdx s))[j]? = if off ≤ j ∧ j < off + A.length ∧ kept keep (s + (j - off)) = true then (A[j - off]?).map padB else L[j]? := by
  induction A generalizing L off s with
  | nil => rw [if_neg (by simp; omega)]; rfl
  | cons b r ih =>
    have hb := padB_length (hA b (by simp))
    have hlt : off < L.length := by rw [List.length_cons] at hoff; omega
    have e1 : crash1 keep (-1) 0 L ((off, padB b), s) = if kept keep s = true then L.set off (padB b) else L := by
      unfold crash1
      simp only
      rw [if_neg (show ¬ ((s : Int) = -1) by omega), List.take_of_length_le (by omega), List.drop_eq_nil_of_le (by rw [show (L.getD off []).length = 64 by simp [List.getD, hlt]; exact hL _ (List.getElem_mem hlt)]; omega), List.append_nil]
    have hS : Sect (crash1 keep (-1) 0 L ((off, padB b), s)) := crash1_sect hL hlt hb
    have hl : (crash1 keep (-1) 0 L ((off, padB b), s)).length = L.length := crash1_length _ _ _ _ _
    have h := ih (crash1 keep (-1) 0 L ((off, padB b), s)) (off + 1) (s + 1) (fun c hc => hA c (List.mem_cons_of_mem _ hc)) hS (by rw [hl]; exact hj) (by rw [hl]; rw [List.length_cons] at hoff; omega)
    show (crashed keep (-1) 0 (crash1 keep (-1) 0 L ((off, padB b), s)) ((posW (off + 1) r).zipIdx (s + 1)))[j]? = _
    rw [h, List.length_cons, e1]
    by_cases h1 : off + 1 ≤ j ∧ j < off + 1 + r.length
    · have e2 : s + 1 + (j - (off + 1)) = s + (j - off) := by omega
      rw [e2, show j - off = (j - (off + 1)) + 1 by omega, List.getElem?_cons_succ]
      have h3 : (if kept keep s = true then L.set off (padB b) else L)[j]? = L[j]? := by
        split
        · rw [List.getElem?_set_ne (by omega)]
        · rfl
      rw [h3, show j - (off + 1) + 1 = j - off by omega]
      by_cases h2 : kept keep (s + (j - off)) = true
      · rw [if_pos ⟨h1.1, h1.2, h2⟩, if_pos ⟨by omega, by omega, h2⟩]
      · rw [if_neg (fun h => h2 h.2.2), if_neg (fun h => h2 h.2.2)]
    · rw [if_neg (fun h => h1 ⟨h.1, h.2.1⟩)]
      by_cases h2 : off = j
      · subst h2
        rw [Nat.sub_self, Nat.add_zero]
        by_cases h3 : kept keep s = true
        · rw [if_pos h3, List.getElem?_set_self hlt, if_pos ⟨by omega, by omega, h3⟩]; rfl
        · rw [if_neg h3, if_neg (fun h => h3 h.2.2)]
      · have h3 : (if kept keep s = true then L.set off (padB b) else L)[j]? = L[j]? := by
          split
          · rw [List.getElem?_set_ne h2]
          · rfl
        rw [h3, if_neg (fun hh => by have := hh.1; have := hh.2.1; omega)]
/-- behind the crash -/
def flushD (A Bs : List (List Nat)) (keep : Nat) : Dev := ((((Dev.fresh 50).writes 0 A).flush).writes 25 Bs).crash keep (-1) 0
/-- a sector, as the law wants it -/
def wantB (A Bs : List (List Nat)) (keep i : Nat) : List Nat :=
  if i < A.length then padB (A.getD i []) else if 25 ≤ i ∧ i < 25 + Bs.length ∧ kept keep (i - 25) = true then padB (Bs.getD (i - 25) []) else padB []
theorem writes_wok {n : Nat} {off : Nat} {A : List (List Nat)} (hA : ∀ b ∈ A, b.length ≤ 64) (h : off + A.length ≤ n) : WOk n (posW off A) := by
  induction A generalizing off with
  | nil => intro x hx; simp [posW] at hx
  | cons b r ih =>
    intro x hx
    rw [List.length_cons] at h
    rcases List.mem_cons.1 hx with h1 | h1
    · subst h1; exact ⟨by show off < n; omega, padB_length (hA b (by simp))⟩
    · exact ih (fun c hc => hA c (List.mem_cons_of_mem _ hc)) (by omega) x h1
theorem flush_get {A Bs : List (List Nat)} (keep : Nat) (hA : ∀ b ∈ A, b.length ≤ 64) (hB : ∀ b ∈ Bs, b.length ≤ 64) (la : A.length ≤ 20) (lb : Bs.length ≤ 20) {i : Nat} (hi : i < 50) : (flushD A Bs keep).lies[i]? = some (wantB A Bs keep i) := by
  have hfl : (Dev.fresh 50).lies.length = 50 := by simp [Dev.fresh]
  have hS0 : Sect (Dev.fresh 50).lies := (Dev.fresh_ok (n := 50) (by omega) (by omega)).sect
  have e0 : (((Dev.fresh 50).writes 0 A).flush).lies = laid (Dev.fresh 50).lies (posW 0 A) := by simp [Dev.flush, Dev.told, Dev.writes, Dev.fresh]
  have hS : Sect (laid (Dev.fresh 50).lies (posW 0 A)) := laid_sect hS0 (writes_wok (n := 50) hA (by omega))
  have hlen : (laid (Dev.fresh 50).lies (posW 0 A)).length = 50 := by rw [laid_length, hfl]
  have e1 : (flushD A Bs keep).lies = crashed keep (-1) 0 (laid (Dev.fresh 50).lies (posW 0 A)) ((posW 25 Bs).zipIdx 0) := by
    unfold flushD Dev.crash
    show crashed keep (-1) 0 (((Dev.fresh 50).writes 0 A).flush).lies (((((Dev.fresh 50).writes 0 A).flush).writes 25 Bs).waits.zipIdx) = _
    rw [e0]
    simp [Dev.writes, Dev.flush]
  rw [e1, crash_pos keep _ 25 0 Bs hB hS i (by omega) (by omega), laid_pos _ 0 A i (by omega)]
  unfold wantB
  have hZ : (Dev.fresh 50).lies[i]? = some (padB []) := by
    simp only [Dev.fresh, List.getElem?_replicate, hi, if_true]; rfl
  rw [hZ, Nat.zero_add, Nat.zero_add, Nat.sub_zero]
  by_cases h1 : i < A.length
  · rw [if_neg (by omega), if_pos ⟨Nat.zero_le _, h1⟩, if_pos h1]
    simp [List.getD, h1]
  · rw [if_neg (show ¬ (0 ≤ i ∧ i < A.length) by omega), if_neg h1]
    by_cases h2 : 25 ≤ i ∧ i < 25 + Bs.length ∧ kept keep (i - 25) = true
    · rw [if_pos h2, if_pos h2]
      have : i - 25 < Bs.length := by omega
      simp [List.getD, this]
    · rw [if_neg h2, if_neg h2]
end Go.Proofs.YtcdgbmeechnpiaaDoor
/- Writings and rows of sectors, built; a new row. -/
namespace Go.Proofs.YtcdgbmeechnpiaaDoor
open Go.RowKit

/-- a writing, built -/
def zeroW : List Value := .int .i64 0 :: u8s (List.replicate 64 0)
theorem zeroW_length : zeroW.length = 65 := by simp [zeroW, u8s_length]
theorem built_writing (n : Int) (l : List Value) (hl : l.length = 64) : Tryd.prog.built 71 [(0, .int .i64 n), (1, .agg l.toArray)] = some (.int .i64 n :: l).toArray := by
  have h : ∀ ps, Tryd.prog.built 71 ps = Instr.fill (#[((0 : Nat), (1 : Nat)), (1, 64)][·]?) zeroW.toArray ps := by intro ps; kernel_rfl
  rw [h, fill_next _ _ 0 0 1 _ [.int .i64 n] _ rfl rfl rfl (by rw [zeroW_length]; omega), fill_last _ _ 1 1 64 _ l rfl rfl hl (by rw [length_splice _ _ _ (by rw [zeroW_length]; simp), zeroW_length]; omega)]
  unfold splice zeroW
  simp [hl, u8s]
theorem infoW : (Tryd.prog.info? 71).map (fun i => (i.zero, i.size, i.bytes)) = some (some (.agg zeroW.toArray), 65, 72) := by kernel_rfl
theorem infoS : (Tryd.prog.info? 69).map (fun i => (i.zero, i.size, i.bytes)) = some (some (.agg (u8s (List.replicate 64 0)).toArray), 64, 64) := by kernel_rfl
theorem sizeS {l : List Value} (h : l.length = 64) : (Tryd.prog.info? 69).map (·.size) = some l.length := by rw [h]; kernel_rfl
theorem sizeW {l : List Value} (h : l.length = 65) : (Tryd.prog.info? 71).map (·.size) = some l.length := by rw [h]; kernel_rfl
theorem made_sect (n : Nat) : (madeCells (Value.agg (u8s (List.replicate 64 0)).toArray).cells (n * 64)).toList = u8s (List.replicate n (List.replicate 64 0)).flatten := by
  have e : (List.replicate n (List.replicate 64 0)).flatten = List.replicate (n * 64) 0 := by
    rw [List.flatten_replicate_replicate]
  rw [e]
  unfold u8s
  rw [List.map_replicate, List.map_replicate]
  exact made_rep (by omega)
theorem run_make_sect (w : World) {o : Oper} {a : Act} (l c : Operand) (ho : o.op = .makeSlice 52 l c) (n : Nat) (hn : n ≤ 8192) (hl : a.eval l = .int .i64 (n : Int)) (hc : a.eval c = .int .i64 (n : Int)) :
    ∃ W g, (execOp a.eval o).run Tryd.prog w = .ok (.value (.slice (some ⟨g, 0, none⟩) n n)) W ∧ Arr W g 69 (u8s (List.replicate n (List.replicate 64 0)).flatten) ∧ Below w.heap.size w W ∧ g = w.heap.size := by
  obtain ⟨i, hi1, hi2, hi3, hi4⟩ := info_parts infoS
  obtain ⟨W, hrun, hown, hg⟩ := run_make_full (P := Tryd.prog) w w.heap.size 52 69 i _ 64 Tryd.underlying52 hi1 hi2 hi3 .i64 .i64 n (by rw [hi4]; omega) (by unfold maxLen; omega) (Nat.le_refl _)
  refine ⟨W, w.heap.size, ?_, ?_, (Below.refl w.heap.size w).grown hg (Nat.le_refl _) (fun k hk => by cases hk), rfl⟩
  · unfold execOp
    simp only [ho, hl, hc, Sem.run_bind, hrun, Result.andThen_ok, Sem.run_pure]
  · rw [made_sect] at hown
    rcases hown.2 with ⟨hv, _⟩ | ⟨g', cap, cur, hv, _, hg, _, _, hcs, ht⟩
    · cases hv
    · cases hv
      have : cur.toList = u8s (List.replicate n (List.replicate 64 0)).flatten := by rw [← ht, List.take_of_length_le (by simp at hcs ⊢; omega)]
      unfold Arr; rw [← this]; simpa using hg
theorem step_make_sect {w : World} {ops : Array Oper} {o : Oper} {a : Act} {K : Act → World → Prop} {Q : Exit → Act → World → Prop} {E : Prop} (d : Option Tmp) (hgd : o.guard = none) (hd : o.dst = d) (l c : Operand) (ho : o.op = .makeSlice 52 l c) (n : Nat) (hn : n ≤ 8192) (hl : a.eval l = .int .i64 (n : Int)) (hc : a.eval c = .int .i64 (n : Int))
    (h : ∀ W g, Arr W g 69 (u8s (List.replicate n (List.replicate 64 0)).flatten) → Below w.heap.size w W → g = w.heap.size → K (a.put d (.slice (some ⟨g, 0, none⟩) n n)) W) : if Region.wanted o (yielded ops a.tmps) = true then Oper.wp Tryd.prog o a w K Q else E := by
  subst hd
  obtain ⟨W, g, hr, h1, h2, h3⟩ := run_make_sect w l c ho n hn hl hc
  exact step_run hgd hr (h W g h1 h2 h3)
/-- one writing more onto the row of those that wait -/
theorem step_append_w {w : World} {ops : Array Oper} {o : Oper} {a : Act} {K : Act → World → Prop} {Q : Exit → Act → World → Prop} {E : Prop} (d : Option Tmp) (hgd : o.guard = none) (hd : o.dst = d) (s x : Operand)
    (ho : o.op = .call { callee := .builtin .append, args := #[s, x], argTypes := #[53, 53] }) (B : Nat) (v : Value) (n : Nat) (xs : List Value) (hs : a.eval s = v) (hown : w.ownsRow B 71 65 v n xs)
    (g0 : Nat) (news : List Value) (hx : a.eval x = .slice (some ⟨g0, 0, none⟩) 1 1) (hl : news.length = 65) (hg0 : Arr w g0 71 news) (h1 : ∀ u ∈ news, u.oneCell' = true) (hn : n ≤ 1000000000) (hB : B ≤ w.heap.size) (H : Nat) (hH : w.heap.size = H)
    (h : ∀ g cap w', w'.ownsRow B 71 65 (.slice (some ⟨g, 0, none⟩) (n + 1) cap) (n + 1) (xs ++ news) → w.grownBy w' v.ownBlock → (v.ownBlock = some g ∨ g = H) → g < w'.heap.size → K (a.put d (.slice (some ⟨g, 0, none⟩) (n + 1) cap)) w') :
    if Region.wanted o (yielded ops a.tmps) = true then Oper.wp Tryd.prog o a w K Q else E := by
  subst hd
  obtain ⟨i, hi1, hi2, hi3, hi4⟩ := info_parts infoW
  exact step_append_lies w hgd s x 53 ho B 71 i _ 65 72 Tryd.underlying53 hi1 hi2 hi3 hi4 (by show zeroW.toArray.size = 65; rw [List.size_toArray, zeroW_length]) (by omega) v n xs hs hown ⟨g0, 0, none⟩ 1 1 news hx (by omega)
    (fun j u hu => by rw [add_at, Nat.zero_add]; exact hg0.cell hu) h1 (by omega) (by unfold maxLen; omega) (by omega) hB H hH h
end Go.Proofs.YtcdgbmeechnpiaaDoor
/- A writing. -/
namespace Go.Proofs.YtcdgbmeechnpiaaDoor
open Go.RowKit

theorem src_of {w W : World} {a : Option Addr} {bs : List Nat} (h : bs ≠ [] → ∃ b off, a = some ⟨b, off, none⟩ ∧ BytesAt w b off bs) (hne : bs ≠ []) (hb : Below w.heap.size w W) : ∃ ad, a = some ad ∧ ∀ j v, (u8s bs)[j]? = some v → W.cell? (ad.add j) = some v := by
  obtain ⟨b, off, rfl, h1⟩ := h hne
  refine ⟨_, rfl, fun j v hv => ?_⟩
  have hj : j < bs.length := by have := (List.getElem?_eq_some_iff.1 hv).1; rwa [u8s_length] at this
  rw [u8s_getD bs j hj] at hv
  have h2 := h1 j hj
  rw [add_at, ← hv, ← h2]
  exact hb.cell (p := ⟨b, off + j, none⟩) (cell_lt h2)
/-- the device behind a writing that was taken -/
theorem write_end {w W2 W4 W5 W6 : World} {B P g1 g2 g3 cap3 at_ : Nat} {wv : Value} {d : Dev} {bs : List Nat} {o : Obj} (h : DevIn w B P g1 g2 wv d) (hlt : at_ < d.lies.length) (hlen : bs.length ≤ 64) (hb : Below w.heap.size w W2) (hg : (W2.drew.alloc o).grownBy W4 wv.ownBlock)
    (hown : W4.ownsRow B 71 65 (.slice (some ⟨g3, 0, none⟩) (d.waits.length + 1) cap3) (d.waits.length + 1) (wcells d.waits ++ wcell (at_, padB bs))) (hat : wv.ownBlock = some g3 ∨ g3 = (W2.drew.alloc o).heap.size)
    (o5 : Only (fun k => k = P) W4 W5) (o6 : Only (fun k => k = g2) W5 W6) (hP : Arr W5 P 57 ((dcells g1 g2 wv d).set 2 (.slice (some ⟨g3, 0, none⟩) (d.waits.length + 1) cap3))) (ht : Arr W6 g2 69 (u8s (d.write at_ bs).told.flatten)) :
    DevAt W6 B P (d.write at_ bs) ∧ Kept P w W6 := by
  have oA : Only (fun k => some k = wv.ownBlock) w W4 := (((only_beyond hb).trans (Only.drew (fun k => some k = wv.ownBlock) W2) (fun _ _ h => h)).trans (Only.alloc (fun k => some k = wv.ownBlock) W2.drew o) (fun _ _ h => h)).trans (Only.grown hg) (fun _ _ e => e.symm)
  have hlo : d.waits.length + 1 = (d.write at_ bs).waits.length := by simp [Dev.write]
  have hcs : wcells d.waits ++ wcell (at_, padB bs) = wcells (d.write at_ bs).waits := (wcells_snoc _ _).symm
  rw [hlo, hcs] at hown
  have e : (dcells g1 g2 wv d).set 2 (.slice (some ⟨g3, 0, none⟩) (d.waits.length + 1) cap3) = dcells g1 g2 (.slice (some ⟨g3, 0, none⟩) (d.waits.length + 1) cap3) (d.write at_ bs) := by simp [dcells, Dev.write]
  rw [e, hlo] at hP
  have n3 : g3 ≠ P := fun hh => by
    have h4 : Arr W4 P 57 (dcells g1 g2 wv d) := h.blk.only oA (fun e => h.neW e.symm)
    exact row_ne h4 hown (by decide) (by rw [hh]; rfl)
  have n4 : g3 ≠ g2 := fun hh => by
    have h4 : Arr W4 g2 69 (u8s d.told.flatten) := h.told.only oA (fun e => h.neW2 e.symm)
    exact row_ne h4 hown (by decide) (by rw [hh]; rfl)
  have h' : DevIn W6 B P g1 g2 (.slice (some ⟨g3, 0, none⟩) (d.write at_ bs).waits.length cap3) (d.write at_ bs) :=
    ⟨hP.only o6 (fun e => h.ne2 e), ((h.lies.only oA (fun e => h.neW1 e.symm)).only o5 (fun e => h.ne1 e.symm)).only o6 h.ne, ht, row_only (row_only hown o5 (fun k hk hh => n3 (by cases hk; exact hh))) o6 (fun k hk hh => n4 (by cases hk; exact hh)), h.ne, h.lo, Dev.write_ok h.ok hlt hlen⟩
  refine ⟨⟨g1, g2, _, h'⟩, ⟨((oA.mono (T := DBlk w P) (fun k _ hk => h.isW hk.symm)).trans o5 (fun _ _ hk => by rw [hk]; exact h.isP)).trans o6 (fun _ _ hk => by rw [hk]; exact h.is2), fun k hk => ?_⟩⟩
  rcases h'.blks hk with rfl | rfl | rfl | h1
  · exact .inl h.isP
  · exact .inl h.is1
  · exact .inl h.is2
  · cases h1
    rcases hat with h2 | h2
    · exact .inl (h.isW h2)
    · right; have := hb.size; simp at h2 ⊢; omega
set_option maxHeartbeats 16000000 in
set_option maxRecDepth 1000000 in
theorem write_ok {w : World} {B P at_ : Nat} {v : Value} {bs : List Nat} {d : Dev} (h : DevAt w B P d) (hB : B ≤ w.heap.size) (hv : Lies w v bs) (hup : d.down = false) (ha : d.after = 0) (hlt : at_ < d.lies.length) (hlen : bs.length ≤ 64) (hm : d.waits.length ≤ 1000000000) :
    Calls Tryd.prog 51 #[.pointer (some ⟨P, 0, none⟩), .int .i64 (at_ : Int), v] w fun e w' => e = .returned (.int .i64 0) ∧ DevAt w' B P (d.write at_ bs) ∧ Kept P w w' := by
  have HA := Lib.hid h
  obtain ⟨g1, g2, wv, h⟩ := h
  obtain ⟨_, c1, c2, _⟩ := h.cells
  have f2 := h.free 2
  obtain ⟨a, c, rfl, hform⟩ := lies_form hv
  have HF := Lib.hid hform
  have HD := Lib.hid h
  have hn8 : d.lies.length ≤ 8192 := h.ok.size
  obtain ⟨n, hn⟩ : ∃ n, n = d.lies.length := ⟨_, rfl⟩
  obtain ⟨l, hl⟩ : ∃ l, l = bs.length := ⟨_, rfl⟩
  have HN := Lib.hid hn
  have HL := Lib.hid hl
  rw [← hn] at c1 hlt hn8
  rw [← hl] at hlen ⊢
  clear h hn hl hv hform
  have t1 : decide ((at_ : Int) < 0) = false := by simp
  have t2 : decide ((n : Int) ≤ (at_ : Int)) = false := by simp; omega
  have t2' : decide ((at_ : Int) ≥ (n : Int)) = false := by simp; omega
  have t3 : decide ((64 : Int) < (l : Int)) = false := by simp; omega
  obtain ⟨Z, hZ⟩ : ∃ Z : List Nat, Z = List.replicate 64 0 := ⟨_, rfl⟩
  have HZ := Lib.hid hZ
  have HZL : Hid (Z.length = 64) := Lib.hid (by rw [hZ]; simp)
  clear hZ
  go_enter Tryd.func51, Tryd.ntmps51
  repeat (first | (refine wpList_alloc_zero rfl 69 rfl (u8s Z) (by rw [HZ.out]; kernel_rfl) ?_) | (refine wpList_copy_splice rfl (.tmp 24) (.tmp 25) 31 31 rfl 5 Tryd.underlying31 (by kernel_rfl) _ a 64 64 l c rfl rfl w'.heap.size 0 (u8s Z) 69 (arr_new w' _ (u8s Z)) (u8s bs) (by rw [u8s_length, ← HL.out]; exact (Nat.min_eq_left hlen).symm) (fun hp => ⟨rfl, src_of HF.out (by rw [u8s_length] at hp; exact fun e => by rw [e] at hp; simp at hp) ((Below.refl _ w').alloc (Nat.le_refl _) _)⟩) (by rw [u8s_length, u8s_length, HZL.out, ← HL.out]; omega) (u8s_one _) w'.heap.size w' ((Below.refl _ w').alloc (Nat.le_refl _) _) (Nat.le_refl _) ?_; intro W2 hA2 hB2) | (go_at_call 18; refine (down_any HA.out).mono ?_; rw [hup]; rintro e w' ⟨rfl, rfl⟩; dsimp only) | (go_at_call 21; refine (len_any HA.out).mono ?_; rw [← HN.out]; rintro e w' ⟨rfl, rfl⟩; dsimp only) | go_values | go_skip | go_guarded | go_step | go_upon)
  obtain ⟨S0, hS0⟩ : ∃ S, S = w'.heap.size := ⟨_, rfl⟩
  obtain ⟨pb, hpb⟩ : ∃ p, p = padB bs := ⟨_, rfl⟩
  have hpl : pb.length = 64 := by rw [hpb]; exact padB_length (by rw [← HL.out]; exact hlen)
  have HA2 : Hid (Arr W2 S0 69 (u8s pb)) := Lib.hid (by
    have h := hA2.out
    rw [u8s_splice, HZ.out, padB_splice (by rw [← HL.out]; exact hlen), ← hpb, ← hS0] at h
    exact h)
  rw [← hS0] at ⊢
  have HB2 := Lib.hid hB2
  have HSS : Hid ((Tryd.prog.info? 69).map (·.size) = some (u8s pb).length) := Lib.hid (sizeS (by rw [u8s_length]; exact hpl))
  have HD2 : Hid (DevIn W2 B P g1 g2 wv d) := Lib.hid (HD.out.only (only_beyond (S := fun _ => False) hB2) (fun _ _ h => h))
  have hB2' : B ≤ W2.heap.size := Nat.le_trans hB hB2.size
  have hwne : wv.ownBlock ≠ some S0 := fun e => by
    have h1 := (HD.out.waits.lt _ e).2
    omega
  have HPB := Lib.hid hpb
  have HS0 := Lib.hid hS0
  clear hA2 hB2 c1 c2 f2 hpb hS0
  refine wp_region_held_drew (S := fun W => Arr W S0 69 (u8s pb)) (by kernel_rfl) (Arr.only (w := W2) HA2.out (Only.drew (fun _ => False) W2) (fun h => h)) (fun hSd => ?_)
  have HSD := Lib.hid hSd
  clear hSd
  refine anyH_take (i := 0) (some 27) (v := _) rfl rfl (by kernel_rfl) (by kernel_rfl) (by kernel_rfl) (fun _ _ _ h => h) (by rfl) (HSD.out) (by intro w hSw; go_simp; try with_reducible rfl) ?_
  (try simp only [Act.put, List.setIfInBounds_toArray, List.set_cons_zero, List.set_cons_succ])
  refine anyH_take (i := 1) (some 28) (v := _) rfl rfl (by kernel_rfl) (by kernel_rfl) (by kernel_rfl) (fun _ _ _ h => h) (by rfl) (HSD.out) (by intro w hSw; go_simp; try with_reducible rfl) ?_
  (try simp only [Act.put, List.setIfInBounds_toArray, List.set_cons_zero, List.set_cons_succ])
  refine anyH_take (i := 2) (some 29) (v := _) rfl rfl (by kernel_rfl) (by kernel_rfl) (by kernel_rfl) (fun _ _ _ h => h) (by rfl) (HSD.out) (by intro w hSw; go_simp; try with_reducible rfl) ?_
  (try simp only [Act.put, List.setIfInBounds_toArray, List.set_cons_zero, List.set_cons_succ])
  refine anyH_take (i := 3) (some 30) (v := _) rfl rfl (by kernel_rfl) (by kernel_rfl) (by kernel_rfl) (fun _ _ _ h => h) (by rfl) (HSD.out) (by intro w hSw; go_simp; try with_reducible rfl) ?_
  (try simp only [Act.put, List.setIfInBounds_toArray, List.set_cons_zero, List.set_cons_succ])
  refine anyH_take (i := 5) (some 32) (v := _) rfl rfl (by kernel_rfl) (by kernel_rfl) (by kernel_rfl) (fun _ _ _ h => h) (by rfl) (HSD.out) (by intro w hSw; go_simp; try with_reducible rfl) ?_
  (try simp only [Act.put, List.setIfInBounds_toArray, List.set_cons_zero, List.set_cons_succ])
  refine anyH_take (i := 6) (some 33) (v := _) rfl rfl (by kernel_rfl) (by kernel_rfl) (by kernel_rfl) (fun _ _ _ h => h) (by rfl) (HSD.out) (fun W hW => run_load_part W 69 (.tmp 7) rfl S0 0 rfl (u8s pb) _ (fun j v hv => by rw [Nat.zero_add]; exact hW.cell hv) Tryd.underlying69 rfl HSS.out) ?_
  (try simp only [Act.put, List.setIfInBounds_toArray, List.set_cons_zero, List.set_cons_succ])
  refine anyH_take (i := 7) (some 34) (v := _) rfl rfl (by kernel_rfl) (by kernel_rfl) (by kernel_rfl) (fun _ _ _ h => h) (by rfl) (HSD.out) (fun W _ => run_built_op W 71 #[(0, .tmp 32), (1, .tmp 33)] rfl _ (by simp [Act.eval]) _ (built_writing (at_ : Int) (u8s pb) (by rw [u8s_length]; exact hpl))) ?_
  (try simp only [Act.put, List.setIfInBounds_toArray, List.set_cons_zero, List.set_cons_succ])
  obtain ⟨X, hX⟩ : ∃ X, X = wcell (at_, pb) := ⟨_, rfl⟩
  have hXL : X.length = 65 := by rw [hX]; exact wcell_length hpl
  rw [show (Value.int .i64 (at_ : Int) :: u8s pb) = X from hX.symm]
  have HX := Lib.hid hX
  clear hX
  refine wpAnyH_ready (rs := [4, 8]) (by kernel_rfl) (by simp) (AllReadyH.cons rfl (fun K hK => ?_) (AllReadyH.cons rfl (fun K hK => ?_) AllReadyH.nil))
  · refine step_runs (some 31) rfl rfl (run_load_one _ 53 (.tmp 30) rfl ⟨P, 2, none⟩ rfl wv _ (HD2.out.cells.2.2.1 : W2.drew.cell? _ = _) Tryd.underlying53 rfl) ?_
    refine hK.out _ _ (HSD.out) (fun _ => ?_)
    clear hK K
    (try simp only [Act.put, List.setIfInBounds_toArray, List.set_cons_zero, List.set_cons_succ])
    refine wpAnyH_ready (rs := [8]) (by kernel_rfl) (by simp) (AllReadyH.cons rfl (fun K hK => ?_) AllReadyH.nil)
    refine step_runs (some 35) rfl rfl (run_row_op _ 53 71 #[(0, .tmp 34)] rfl X 65 (by simp [Act.eval]) Tryd.underlying53 _ 72 infoW hXL (by omega) (by omega)) ?_
    refine hK.out _ _ (Arr.alloc (w := W2.drew) HSD.out _) (fun _ => ?_)
    clear hK K
    (try simp only [Act.put, List.setIfInBounds_toArray, List.set_cons_zero, List.set_cons_succ])
    refine wpAnyH_ready (rs := [9]) (by kernel_rfl) (by simp) (AllReadyH.cons rfl (fun K hK => ?_) AllReadyH.nil)
    refine step_append_w (some 36) rfl rfl (.tmp 31) (.tmp 35) rfl B wv _ _ rfl (HD2.out.waits.drew.alloc _) W2.drew.heap.size X rfl hXL (arr_new W2.drew _ X) (by rw [HX.out]; exact wcell_one _) hm (by simp; omega) _ rfl ?_
    intro g3 cap3 W4 hown4 hgrow4 hat4 hlt4
    have HS4 : Hid (Arr W4 S0 69 (u8s pb)) := Lib.hid ((Arr.alloc (w := W2.drew) HSD.out _).only (Only.grown hgrow4) (fun e => hwne e))
    have HP4 : Hid (Arr W4 P 57 (dcells g1 g2 wv d)) := Lib.hid ((Arr.alloc (w := W2.drew) HD2.out.blk _).only (Only.grown hgrow4) (fun e => HD2.out.neW e))
    have HO4 := Lib.hid hown4
    have HG4 := Lib.hid hgrow4
    have HAT4 := Lib.hid hat4
    clear hown4 hgrow4 hat4
    refine hK.out _ _ (HS4.out) (fun _ => ?_)
    clear hK K
    (try simp only [Act.put, List.setIfInBounds_toArray, List.set_cons_zero, List.set_cons_succ])
    refine anyH_take (i := 10) (some 37) (v := _) rfl rfl (by kernel_rfl) (by kernel_rfl) (by kernel_rfl) (fun _ _ _ h => h) (by rfl) (HS4.out) (by intro w hSw; go_simp; try with_reducible rfl) ?_
    (try simp only [Act.put, List.setIfInBounds_toArray, List.set_cons_zero, List.set_cons_succ])
    refine anyH_take (i := 11) (some 38) (v := _) rfl rfl (by kernel_rfl) (by kernel_rfl) (by kernel_rfl) (fun _ _ _ h => h) (by rfl) (HS4.out) (by intro w hSw; go_simp; try with_reducible rfl) ?_
    (try simp only [Act.put, List.setIfInBounds_toArray, List.set_cons_zero, List.set_cons_succ])
    refine wpAnyH_ready (rs := [12]) (by kernel_rfl) (by simp) (AllReadyH.cons rfl (fun K hK => ?_) AllReadyH.nil)
    refine step_store_one rfl rfl 53 (.tmp 38) (.tmp 36) rfl P 2 (.slice (some ⟨g3, 0, none⟩) (d.waits.length + 1) cap3) rfl rfl rfl rfl 57 _ HP4.out (by kernel_rfl) (by simp [dcells]) ?_
    refine hK.out _ _ (HS4.out.only (S := fun k => k = P) ⟨rfl, rfl, rfl, by simp, fun k hk hs => setRow_other W4 _ _ _ hs⟩ (fun e => arr_ne HP4.out HS4.out (by decide) e.symm)) (fun _ => ?_)
    clear hK K
    (try simp only [Act.put, List.setIfInBounds_toArray, List.set_cons_zero, List.set_cons_succ])
    refine wpAnyH_done (by kernel_rfl) ?_ _
    obtain ⟨V, hV⟩ : ∃ V, V = Value.slice (some ⟨g3, 0, none⟩) (d.waits.length + 1) cap3 := ⟨_, rfl⟩
    obtain ⟨W5, hW5⟩ : ∃ W5, W5 = W4.setRow P ((dcells g1 g2 wv d).set 2 (.slice (some ⟨g3, 0, none⟩) (d.waits.length + 1) cap3)).toArray := ⟨_, rfl⟩
    rw [← hW5]
    have HO5 : Hid (Only (fun k => k = P) W4 W5) := Lib.hid (by rw [hW5]; exact ⟨rfl, rfl, rfl, by simp, fun k hk hs => setRow_other W4 _ _ _ hs⟩)
    have HP5 : Hid (Arr W5 P 57 ((dcells g1 g2 wv d).set 2 (.slice (some ⟨g3, 0, none⟩) (d.waits.length + 1) cap3))) := Lib.hid (by rw [hW5]; exact setRow_heap _ _ _ _ _ _ HP4.out)
    have b1 : W5.cell? ⟨P, 1, none⟩ = some (.slice (some ⟨g2, 0, none⟩) n n) := by rw [HN.out]; exact HP5.out.cell rfl
    have HS5 : Hid (∀ j v, (u8s pb)[j]? = some v → W5.cell? ⟨S0, 0 + j, none⟩ = some v) := Lib.hid (fun j v hv => by rw [Nat.zero_add]; exact (HS4.out.only HO5.out (fun e => arr_ne HP4.out HS4.out (by decide) e.symm)).cell hv)
    have HT5 : Hid (Arr W5 g2 69 (u8s d.told.flatten)) := Lib.hid (((Arr.alloc (w := W2.drew) HD2.out.told _).only (Only.grown HG4.out) (fun e => HD2.out.neW2 e)).only HO5.out (fun e => HD2.out.ne2 e.symm))
    clear hW5 hV
    repeat (first | go_values | go_skip | go_guarded | go_step | go_upon)
    refine wp_region_still_tail 7 (by kernel_rfl) (by kernel_rfl) ?_
    simp only [List.take_succ_cons, List.take_zero, List.drop_succ_cons, List.drop_zero]
    iterate 5 still_step
    refine wpStill_value rfl (run_load_part _ 69 (.tmp 7) rfl S0 0 rfl (u8s pb) _ HS5.out Tryd.underlying69 rfl HSS.out) ?_
    (try simp only [Act.put, List.setIfInBounds_toArray, List.set_cons_zero, List.set_cons_succ])
    repeat still_step
    refine wpStill_nil ?_
    change wpList _ _ _ _ _ W5.drew
    have HTL : Hid (d.told.flatten.length = n * 64) := Lib.hid (by rw [flat_length HD.out.ok.told, d.told_length, HN.out])
    have HNX : Hid ((d.write at_ bs).told.flatten = splice d.told.flatten (at_ * 64) pb) := Lib.hid (by rw [d.write_told, HPB.out, flat_set HD.out.ok.told (by rw [d.told_length, ← HN.out]; exact hlt) (padB_length (by rw [← HL.out]; exact hlen))])
    have hmul := Nat.mul_le_mul_right 64 (show at_ + 1 ≤ n from hlt)
    have HTD : Hid (Arr W5.drew g2 69 (u8s d.told.flatten)) := Lib.hid (Arr.only (w := W5) HT5.out (Only.drew (fun _ => False) W5) (fun h => h))
    refine wpList_store_part rfl 69 (.tmp 45) (.tmp 44) rfl g2 (at_ * 64) (u8s pb) rfl rfl 69 (u8s d.told.flatten) HTD.out HSS.out (by rw [u8s_length, u8s_length, HTL.out, hpl]; omega) (u8s_one _) ?_
    refine wpList_name ?_
    intro W6 hW6
    have HR6 : Hid (Arr W6 g2 69 (u8s (d.write at_ bs).told.flatten)) := Lib.hid (by
      rw [HNX.out, ← u8s_splice, hW6.out]
      exact setRow_heap _ _ _ _ _ _ HTD.out)
    have HO6 : Hid (Only (fun k => k = g2) W5 W6) := Lib.hid (by
      rw [hW6.out]
      exact ⟨rfl, rfl, rfl, by simp, fun k hk hs => setRow_other W5.drew _ _ _ hs⟩)
    have HEND := Lib.hid (write_end HD.out (by rw [← HN.out]; exact hlt) (by rw [← HL.out]; exact hlen) HB2.out HG4.out (by have h := HO4.out; rw [HX.out, HPB.out] at h; exact h) HAT4.out HO5.out HO6.out HP5.out HR6.out)
    clear hW6 b1
    go_wp2_with (go_at_call 62; refine (count_none HEND.out.1 ha).mono ?_; rintro e w' ⟨rfl, rfl⟩)
    go_ret
    exact ⟨rfl, HEND.out.1, HEND.out.2⟩
  · refine step_runs (some 35) rfl rfl (run_row_op _ 53 71 #[(0, .tmp 34)] rfl X 65 (by simp [Act.eval]) Tryd.underlying53 _ 72 infoW hXL (by omega) (by omega)) ?_
    refine hK.out _ _ (Arr.alloc (w := W2.drew) HSD.out _) (fun _ => ?_)
    clear hK K
    (try simp only [Act.put, List.setIfInBounds_toArray, List.set_cons_zero, List.set_cons_succ])
    refine wpAnyH_ready (rs := [4]) (by kernel_rfl) (by simp) (AllReadyH.cons rfl (fun K hK => ?_) AllReadyH.nil)
    refine step_runs (some 31) rfl rfl (run_load_one _ 53 (.tmp 30) rfl ⟨P, 2, none⟩ rfl wv _ (by rw [← HD2.out.cells.2.2.1]; exact World.cell?_of_block (w := W2) (Below.heap_alloc _ _ _ (cell_lt HD2.out.cells.2.2.1))) Tryd.underlying53 rfl) ?_
    refine hK.out _ _ (Arr.alloc (w := W2.drew) HSD.out _) (fun _ => ?_)
    clear hK K
    (try simp only [Act.put, List.setIfInBounds_toArray, List.set_cons_zero, List.set_cons_succ])
    refine wpAnyH_ready (rs := [9]) (by kernel_rfl) (by simp) (AllReadyH.cons rfl (fun K hK => ?_) AllReadyH.nil)
    refine step_append_w (some 36) rfl rfl (.tmp 31) (.tmp 35) rfl B wv _ _ rfl (HD2.out.waits.drew.alloc _) W2.drew.heap.size X rfl hXL (arr_new W2.drew _ X) (by rw [HX.out]; exact wcell_one _) hm (by simp; omega) _ rfl ?_
    intro g3 cap3 W4 hown4 hgrow4 hat4 hlt4
    have HS4 : Hid (Arr W4 S0 69 (u8s pb)) := Lib.hid ((Arr.alloc (w := W2.drew) HSD.out _).only (Only.grown hgrow4) (fun e => hwne e))
    have HP4 : Hid (Arr W4 P 57 (dcells g1 g2 wv d)) := Lib.hid ((Arr.alloc (w := W2.drew) HD2.out.blk _).only (Only.grown hgrow4) (fun e => HD2.out.neW e))
    have HO4 := Lib.hid hown4
    have HG4 := Lib.hid hgrow4
    have HAT4 := Lib.hid hat4
    clear hown4 hgrow4 hat4
    refine hK.out _ _ (HS4.out) (fun _ => ?_)
    clear hK K
    (try simp only [Act.put, List.setIfInBounds_toArray, List.set_cons_zero, List.set_cons_succ])
    refine anyH_take (i := 10) (some 37) (v := _) rfl rfl (by kernel_rfl) (by kernel_rfl) (by kernel_rfl) (fun _ _ _ h => h) (by rfl) (HS4.out) (by intro w hSw; go_simp; try with_reducible rfl) ?_
    (try simp only [Act.put, List.setIfInBounds_toArray, List.set_cons_zero, List.set_cons_succ])
    refine anyH_take (i := 11) (some 38) (v := _) rfl rfl (by kernel_rfl) (by kernel_rfl) (by kernel_rfl) (fun _ _ _ h => h) (by rfl) (HS4.out) (by intro w hSw; go_simp; try with_reducible rfl) ?_
    (try simp only [Act.put, List.setIfInBounds_toArray, List.set_cons_zero, List.set_cons_succ])
    refine wpAnyH_ready (rs := [12]) (by kernel_rfl) (by simp) (AllReadyH.cons rfl (fun K hK => ?_) AllReadyH.nil)
    refine step_store_one rfl rfl 53 (.tmp 38) (.tmp 36) rfl P 2 (.slice (some ⟨g3, 0, none⟩) (d.waits.length + 1) cap3) rfl rfl rfl rfl 57 _ HP4.out (by kernel_rfl) (by simp [dcells]) ?_
    refine hK.out _ _ (HS4.out.only (S := fun k => k = P) ⟨rfl, rfl, rfl, by simp, fun k hk hs => setRow_other W4 _ _ _ hs⟩ (fun e => arr_ne HP4.out HS4.out (by decide) e.symm)) (fun _ => ?_)
    clear hK K
    (try simp only [Act.put, List.setIfInBounds_toArray, List.set_cons_zero, List.set_cons_succ])
    refine wpAnyH_done (by kernel_rfl) ?_ _
    obtain ⟨V, hV⟩ : ∃ V, V = Value.slice (some ⟨g3, 0, none⟩) (d.waits.length + 1) cap3 := ⟨_, rfl⟩
    obtain ⟨W5, hW5⟩ : ∃ W5, W5 = W4.setRow P ((dcells g1 g2 wv d).set 2 (.slice (some ⟨g3, 0, none⟩) (d.waits.length + 1) cap3)).toArray := ⟨_, rfl⟩
    rw [← hW5]
    have HO5 : Hid (Only (fun k => k = P) W4 W5) := Lib.hid (by rw [hW5]; exact ⟨rfl, rfl, rfl, by simp, fun k hk hs => setRow_other W4 _ _ _ hs⟩)
    have HP5 : Hid (Arr W5 P 57 ((dcells g1 g2 wv d).set 2 (.slice (some ⟨g3, 0, none⟩) (d.waits.length + 1) cap3))) := Lib.hid (by rw [hW5]; exact setRow_heap _ _ _ _ _ _ HP4.out)
    have b1 : W5.cell? ⟨P, 1, none⟩ = some (.slice (some ⟨g2, 0, none⟩) n n) := by rw [HN.out]; exact HP5.out.cell rfl
    have HS5 : Hid (∀ j v, (u8s pb)[j]? = some v → W5.cell? ⟨S0, 0 + j, none⟩ = some v) := Lib.hid (fun j v hv => by rw [Nat.zero_add]; exact (HS4.out.only HO5.out (fun e => arr_ne HP4.out HS4.out (by decide) e.symm)).cell hv)
    have HT5 : Hid (Arr W5 g2 69 (u8s d.told.flatten)) := Lib.hid (((Arr.alloc (w := W2.drew) HD2.out.told _).only (Only.grown HG4.out) (fun e => HD2.out.neW2 e)).only HO5.out (fun e => HD2.out.ne2 e.symm))
    clear hW5 hV
    repeat (first | go_values | go_skip | go_guarded | go_step | go_upon)
    refine wp_region_still_tail 7 (by kernel_rfl) (by kernel_rfl) ?_
    simp only [List.take_succ_cons, List.take_zero, List.drop_succ_cons, List.drop_zero]
    iterate 5 still_step
    refine wpStill_value rfl (run_load_part _ 69 (.tmp 7) rfl S0 0 rfl (u8s pb) _ HS5.out Tryd.underlying69 rfl HSS.out) ?_
    (try simp only [Act.put, List.setIfInBounds_toArray, List.set_cons_zero, List.set_cons_succ])
    repeat still_step
    refine wpStill_nil ?_
    change wpList _ _ _ _ _ W5.drew
    have HTL : Hid (d.told.flatten.length = n * 64) := Lib.hid (by rw [flat_length HD.out.ok.told, d.told_length, HN.out])
    have HNX : Hid ((d.write at_ bs).told.flatten = splice d.told.flatten (at_ * 64) pb) := Lib.hid (by rw [d.write_told, HPB.out, flat_set HD.out.ok.told (by rw [d.told_length, ← HN.out]; exact hlt) (padB_length (by rw [← HL.out]; exact hlen))])
    have hmul := Nat.mul_le_mul_right 64 (show at_ + 1 ≤ n from hlt)
    have HTD : Hid (Arr W5.drew g2 69 (u8s d.told.flatten)) := Lib.hid (Arr.only (w := W5) HT5.out (Only.drew (fun _ => False) W5) (fun h => h))
    refine wpList_store_part rfl 69 (.tmp 45) (.tmp 44) rfl g2 (at_ * 64) (u8s pb) rfl rfl 69 (u8s d.told.flatten) HTD.out HSS.out (by rw [u8s_length, u8s_length, HTL.out, hpl]; omega) (u8s_one _) ?_
    refine wpList_name ?_
    intro W6 hW6
    have HR6 : Hid (Arr W6 g2 69 (u8s (d.write at_ bs).told.flatten)) := Lib.hid (by
      rw [HNX.out, ← u8s_splice, hW6.out]
      exact setRow_heap _ _ _ _ _ _ HTD.out)
    have HO6 : Hid (Only (fun k => k = g2) W5 W6) := Lib.hid (by
      rw [hW6.out]
      exact ⟨rfl, rfl, rfl, by simp, fun k hk hs => setRow_other W5.drew _ _ _ hs⟩)
    have HEND := Lib.hid (write_end HD.out (by rw [← HN.out]; exact hlt) (by rw [← HL.out]; exact hlen) HB2.out HG4.out (by have h := HO4.out; rw [HX.out, HPB.out] at h; exact h) HAT4.out HO5.out HO6.out HP5.out HR6.out)
    clear hW6 b1
    go_wp2_with (go_at_call 62; refine (count_none HEND.out.1 ha).mono ?_; rintro e w' ⟨rfl, rfl⟩)
    go_ret
    exact ⟨rfl, HEND.out.1, HEND.out.2⟩
end Go.Proofs.YtcdgbmeechnpiaaDoor
/- What waits, flushed. -/
namespace Go.Proofs.YtcdgbmeechnpiaaDoor
open Go.RowKit

/-- a variable of one's own that holds a writing -/
theorem wvar {w W : World} {x : Nat × List Nat} (hW : W = (w.alloc (.cells zeroW.toArray 71)).setRow w.heap.size (splice zeroW 0 (wcell x)).toArray) (hl : x.2.length = 64) :
    Below w.heap.size w W ∧ Arr W w.heap.size 71 (wcell x) := by
  have h := arr_new w 71 zeroW
  rw [splice_whole (by rw [zeroW_length, wcell_length hl])] at hW
  subst hW
  exact ⟨below_setRow ((Below.refl _ _).alloc (Nat.le_refl _) _) (Nat.le_refl _) _, setRow_heap _ _ _ _ _ _ h⟩
theorem wvar_get {W : World} {L : Nat} {x : Nat × List Nat} (h : Arr W L 71 (wcell x)) : W.cell? ⟨L, 0, none⟩ = some (.int .i64 (x.1 : Int)) ∧ ∀ j v, (u8s x.2)[j]? = some v → W.cell? ⟨L, 1 + j, none⟩ = some v :=
  ⟨h.cell rfl, fun j v hv => h.cell (by rw [Nat.add_comm]; simpa [wcell] using hv)⟩
theorem row_cells {w W : World} {g off : Nat} {l : List Value} (h : ∀ j v, l[j]? = some v → w.cell? ⟨g, off + j, none⟩ = some v) (ho : Only (fun _ => False) w W) : ∀ j v, l[j]? = some v → W.cell? ⟨g, off + j, none⟩ = some v := fun j v hv => by
  have h1 := h j v hv
  rw [← h1]; exact World.cell?_of_block (ho.block _ (cell_lt h1) (fun h => h))

theorem flush_end {w wr : World} {B P g1 g2 : Nat} {wv : Value} {d : Dev} (h : DevIn w B P g1 g2 wv d) (hr : Arr wr g1 69 (u8s d.told.flatten)) (ho : Only (fun k => k = g1) w wr) :
    DevIn (wr.setCell ⟨P, 2, none⟩ (.slice none 0 0)) B P g1 g2 (.slice none 0 0) d.flush ∧ Kept P w (wr.setCell ⟨P, 2, none⟩ (.slice none 0 0)) := by
  have o2 : Only (fun k => k = P) wr (wr.setCell ⟨P, 2, none⟩ (.slice none 0 0)) := Only.setCell (S := fun k => k = P) _ (p := ⟨P, 2, none⟩) rfl _
  have hP := (h.blk.only ho (fun e => h.ne1 e)).set 2 (.slice none 0 0)
  have e : (dcells g1 g2 wv d).set 2 (.slice none 0 0) = dcells g1 g2 (.slice none 0 0) d.flush := by simp [dcells, Dev.flush, d.told_length]
  rw [e] at hP
  have h' : DevIn (wr.setCell ⟨P, 2, none⟩ (.slice none 0 0)) B P g1 g2 (.slice none 0 0) d.flush :=
    ⟨hP, hr.only o2 (fun e => h.ne1 e.symm), (h.told.only ho (fun e => h.ne e.symm)).only o2 (fun e => h.ne2 e.symm), World.ownsRow_nil _ _ _ _, h.ne, h.lo, Dev.flush_ok h.ok⟩
  exact ⟨h', h.keeps ((ho.mono (T := fun k => k = P ∨ k = g1 ∨ k = g2) (fun _ _ hk => .inr (.inl hk))).trans o2 (fun _ _ hk => .inl hk)) h' (fun k hk => by simp [Value.ownBlock] at hk)⟩

set_option maxRecDepth 1000000 in
set_option maxHeartbeats 8000000 in
theorem flush_ok {w : World} {B P : Nat} {d : Dev} (h : DevAt w B P d) (hup : d.down = false) : Calls Tryd.prog 37 #[.pointer (some ⟨P, 0, none⟩)] w fun e w' => e = .returned (.int .i64 0) ∧ DevAt w' B P d.flush ∧ Kept P w w' := by
  have HA := Lib.hid h
  obtain ⟨g1, g2, wv, h⟩ := h
  obtain ⟨c0, _, c2, _⟩ := h.cells
  obtain ⟨a, c, rfl⟩ := h.slice
  have HD := Lib.hid h
  obtain ⟨n, hn⟩ : ∃ n, n = d.lies.length := ⟨_, rfl⟩
  obtain ⟨m, hm⟩ : ∃ m, m = d.waits.length := ⟨_, rfl⟩
  have HN := Lib.hid hn
  have HM := Lib.hid hm
  have hn8 : n ≤ 8192 := by rw [hn]; exact h.ok.size
  have hmm : m ≤ 9223372036854775807 := by
    rw [hm]
    rcases h.waits.2 with ⟨_, h0⟩ | ⟨_, _, _, _, _, _, h1, h2, _⟩
    · omega
    · exact Nat.le_trans h1 h2
  rw [← hn] at c0
  rw [← hm] at c2
  clear h hn hm
  go_enter Tryd.func37, Tryd.ntmps37
  go_wp2_with (go_at_call 18; refine (down_any HA.out).mono ?_; rw [hup]; rintro e w' ⟨rfl, rfl⟩)
  clear c0 c2
  go_loopw [12] (fun i wr => ∃ k : Nat, k ≤ m ∧ i = .int .i64 k ∧ Arr wr g1 69 (u8s (laid d.lies (d.waits.take k)).flatten) ∧ Only (fun k => k = g1) w' wr) (fun i _ => m - (intOf i).toNat)
  case atStart => exact ⟨0, by omega, rfl, HD.out.lies, Only.refl _ _⟩
  case round =>
    obtain ⟨k, hk, rfl, harr, ho⟩ := hrel
    have HR := Lib.hid harr
    have HO := Lib.hid ho
    have hbP := HD.out.blk.only ho (fun e => HD.out.ne1 e)
    have c0 : wr.cell? ⟨P, 0, none⟩ = some (.slice (some ⟨g1, 0, none⟩) n n) := by rw [HN.out]; exact hbP.cell rfl
    have c2 : wr.cell? ⟨P, 2, none⟩ = some (.slice a m c) := by rw [HM.out]; exact hbP.cell rfl
    have f2 := hbP.free 2
    have HP := Lib.hid hbP
    clear harr ho hbP
    by_cases hlt : k < m
    · obtain ⟨x, hx⟩ : ∃ x, d.waits[k]? = some x := ⟨d.waits[k]'(by rw [← HM.out]; exact hlt), List.getElem?_eq_getElem _⟩
      obtain ⟨gw, c', hv, hgw, hw⟩ := HD.out.wait hx
      cases hv
      have hx2 : x.2.length = 64 := (HD.out.ok.wait x (List.mem_of_getElem? hx)).2
      have hx1 : x.1 < n := by rw [HN.out]; exact (HD.out.ok.wait x (List.mem_of_getElem? hx)).1
      have hwne : gw ≠ g1 := fun e => HD.out.neW1 (by rw [e]; rfl)
      have HW : Hid (∀ j v, (wcell x)[j]? = some v → wr.cell? ⟨gw, k * 65 + j, none⟩ = some v) := Lib.hid (fun j v hj => by
        have h1 := hw j v hj
        rw [← h1]; exact World.cell?_of_block (HO.out.block _ (cell_lt h1) hwne))
      have HSW : Hid ((Tryd.prog.info? 71).map (·.size) = some (wcell x).length) := Lib.hid (sizeW (wcell_length hx2))
      have HSS : Hid ((Tryd.prog.info? 69).map (·.size) = some (u8s x.2).length) := Lib.hid (sizeS (by rw [u8s_length]; exact hx2))
      have HX := Lib.hid hx
      have HX2 := Lib.hid hx2
      have t3 : decide ((k : Int) < (m : Int)) = true := by simp only [decide_eq_true_eq]; omega
      have e1 : IntKind.i64.wrap ((k : Int) + 1) = ((k + 1 : Nat) : Int) := by rw [IntKind.wrap_i64]; omega
      obtain ⟨at_, hat⟩ : ∃ a, a = x.1 := ⟨_, rfl⟩
      have HAT := Lib.hid hat
      rw [← hat] at hx1
      clear hw hx hx2 hat
      repeat (first | (refine wpList_load_part rfl 71 (.tmp 14) rfl gw (k * 65) rfl (wcell x) _ HW.out Tryd.underlying71 rfl HSW.out ?_) | (refine wpList_alloc_zero rfl 71 rfl zeroW (by kernel_rfl) ?_) | (refine wpList_store_part rfl 71 (.tmp 4) (.tmp 15) rfl wr.heap.size 0 (wcell x) rfl rfl 71 zeroW (arr_new wr _ zeroW) HSW.out (by rw [zeroW_length, wcell_length HX2.out]; omega) (wcell_one x) ?_; refine wpList_name ?_; intro W3 hW3) | go_values | go_skip | go_guarded | go_step | go_upon)
      simp only [Act.put, List.setIfInBounds_toArray, List.set_cons_zero, List.set_cons_succ]
      obtain ⟨L, hL⟩ : ∃ L, L = wr.heap.size := ⟨_, rfl⟩
      obtain ⟨hb3, hv3⟩ := wvar hW3.out HX2.out
      rw [← hL] at hv3 ⊢
      have HB3 := Lib.hid hb3
      have HV3 := Lib.hid hv3
      have b0 : W3.cell? ⟨P, 0, none⟩ = some (.slice (some ⟨g1, 0, none⟩) n n) := by rw [← c0]; exact World.cell?_of_block (hb3.block _ (cell_lt c0))
      obtain ⟨v0, v1⟩ := wvar_get hv3
      rw [← HAT.out] at v0
      have HV1 := Lib.hid v1
      have HR3 : Hid (Arr W3 g1 69 (u8s (laid d.lies (d.waits.take k)).flatten)) := Lib.hid (HR.out.only (only_beyond (S := fun _ => False) hb3) (fun h => h))
      clear hW3 hb3 hv3 v1 hL HW c0 c2 f2
      refine wp_region_still_tail 9 (by kernel_rfl) (by kernel_rfl) ?_
      simp only [List.take_succ_cons, List.take_zero, List.drop_succ_cons, List.drop_zero]
      iterate 7 still_step
      refine wpStill_value rfl (run_load_part _ 69 (.tmp 22) rfl L 1 rfl (u8s x.2) _ HV1.out Tryd.underlying69 rfl HSS.out) ?_
      (try simp only [Act.put, List.setIfInBounds_toArray, List.set_cons_zero, List.set_cons_succ])
      repeat still_step
      refine wpStill_nil ?_
      change wpList _ _ _ _ _ W3.drew
      have HCUR : Hid ((laid d.lies (d.waits.take k)).flatten.length = n * 64) := Lib.hid (by rw [flat_length (laid_sect HD.out.ok.sect (fun y hy => HD.out.ok.wait y (List.mem_of_mem_take hy))), laid_length, HN.out])
      have HNX : Hid ((laid d.lies (d.waits.take (k + 1))).flatten = splice (laid d.lies (d.waits.take k)).flatten (at_ * 64) x.2) := Lib.hid (by
        rw [laid_take HX.out, HAT.out, flat_set (laid_sect HD.out.ok.sect (fun y hy => HD.out.ok.wait y (List.mem_of_mem_take hy))) (by rw [laid_length, ← HN.out, ← HAT.out]; exact hx1) HX2.out])
      obtain ⟨cur, hcur⟩ : ∃ c, c = (laid d.lies (d.waits.take k)).flatten := ⟨_, rfl⟩
      rw [← hcur] at HCUR HNX HR3
      clear hcur HR
      have hmul := Nat.mul_le_mul_right 64 (show at_ + 1 ≤ n from hx1)
      refine wpList_store_part rfl 69 (.tmp 24) (.tmp 23) rfl g1 (at_ * 64) (u8s x.2) rfl rfl 69 (u8s cur) (Arr.only (w := W3) HR3.out (Only.drew (fun _ => False) W3) (fun h => h)) HSS.out (by rw [u8s_length, u8s_length, HCUR.out, HX2.out]; omega) (u8s_one _) ?_
      refine wpList_name ?_
      intro W5 hW5
      have HR5 : Hid (Arr W5 g1 69 (u8s (laid d.lies (d.waits.take (k + 1))).flatten)) := Lib.hid (by
        rw [HNX.out, ← u8s_splice, hW5.out]
        exact setRow_heap _ _ _ _ _ _ (Arr.only (w := W3) HR3.out (Only.drew (fun _ => False) W3) (fun h => h)))
      have HO5 : Hid (Only (fun k => k = g1) w' W5) := Lib.hid (by
        refine HO.out.trans (T := fun k => k = g1) ((only_beyond (S := fun k => k = g1) HB3.out).trans (T := fun k => k = g1) ?_ (fun _ _ h => h)) (fun _ _ h => h)
        rw [hW5.out]
        exact ⟨rfl, rfl, rfl, by simp, fun k hk hs => setRow_other W3.drew _ _ _ hs⟩)
      clear hW5 v0 b0
      repeat (first | go_values | go_skip | go_guarded | go_step | go_upon)
      exact ⟨⟨k + 1, by omega, by go_num, HR5.out, HO5.out⟩, by simp [intOf]; omega⟩
    · have t3 : decide ((k : Int) < (m : Int)) = false := by simp only [decide_eq_false_iff_not]; omega
      obtain rfl : k = m := by omega
      repeat (first | go_values | go_skip | go_guarded | go_step | go_upon)
      go_ret
      have hall : (laid d.lies (d.waits.take k)) = d.told := by rw [List.take_of_length_le (by rw [← HM.out]; exact Nat.le_refl _)]; rfl
      have HE := flush_end HD.out (by rw [← hall]; exact HR.out) HO.out
      exact ⟨rfl, ⟨g1, g2, _, HE.1⟩, HE.2⟩
end Go.Proofs.YtcdgbmeechnpiaaDoor
/- A slice of slices of bytes that came in, opened. -/
namespace Go.Proofs.YtcdgbmeechnpiaaDoor
open Go.RowKit Go.Deep Go.ChangeShapes Go.WideShapes

/-- rows of bytes, as they lie -/
def RowsAt (w : World) (v : Value) (A : List (List Nat)) : Prop :=
  ∃ a c, v = .slice a A.length c ∧ (A ≠ [] → ∃ b off, a = some ⟨b, off, none⟩ ∧ ∀ i bs, A[i]? = some bs → ∃ u, w.cell? ⟨b, off + i, none⟩ = some u ∧ Lies w u bs)
theorem row_lies {w : World} {a : Option Addr} {L C : Nat} {zs : List Int} (hL : L ≤ C) (hz : zs.length = C) (hwf : ∀ n ∈ zs, (Lit.int .u8 n).wf = true) (hn : a = none → C = 0) (hc : ∀ a', a = some a' → ∀ c, c < C → w.cell? (a'.add c) = some (.int .u8 (zs.getD c 0))) :
    Lies w (.slice a L C) ((zs.take L).map Int.toNat) ∧ (∀ x ∈ (zs.take L).map Int.toNat, x < 256) ∧ ((zs.take L).map Int.toNat).length = L := by
  have hlen : ((zs.take L).map Int.toNat).length = L := by rw [List.length_map, List.length_take]; omega
  have hin : ∀ x ∈ (zs.take L).map Int.toNat, x < 256 := by
    intro x hx
    obtain ⟨z, hz1, rfl⟩ := List.mem_map.1 hx
    have := bounds_u8 (hwf z (List.mem_of_mem_take hz1))
    omega
  refine ⟨?_, hin, hlen⟩
  rcases Nat.eq_zero_or_pos L with h0 | h0
  · subst h0
    cases a with
    | none => exact .inl ⟨by rw [hn rfl], by simp⟩
    | some ad => exact .inr (.inl ⟨ad, C, rfl, by simp⟩)
  · cases a with
    | none => have := hn rfl; omega
    | some ad =>
      obtain ⟨b, off, rfl, hcc⟩ := ints_at (zs := zs) (fun i hi => hc ad rfl i (by omega)) (by omega)
      refine .inr (.inr ⟨b, off, C, by rw [hlen], fun j hj => ?_⟩)
      rw [hlen] at hj
      rw [hcc j (by omega)]
      have hjz : j < zs.length := by omega
      have hwj := bounds_u8 (hwf zs[j] (List.getElem_mem hjz))
      have e1 : zs.getD j 0 = zs[j] := by simp [List.getD, List.getElem?_eq_getElem hjz]
      have e2 : ((zs.take L).map Int.toNat).getD j 0 = zs[j].toNat := by simp [List.getD, hj, List.getElem?_eq_getElem hjz]
      rw [e1, e2]
      congr 2; omega
set_option maxRecDepth 100000 in
theorem open_rows {H : Type} {enc : TypeId × Value → H} {W : World} {held : Bool} {v : Value} {d : DataW H} {ps : List MemPlace} {r : Reach} {b0 : Nat} (hval : Value.okWide Tryd.prog W r b0 32 v)
    (hd : DataW.Trod enc Tryd.prog W 0 (fun _ => true) held 32 v d ps) : ∃ A : List (List Nat), RowsAt W v A ∧ (∀ bs ∈ A, ∀ x ∈ bs, x < 256) ∧ A.length ≤ maxLen := by
  obtain ⟨a, len, cap, rfl⟩ := okWide_slice Tryd.underlying32 hval
  obtain ⟨fuel, hf⟩ := hd
  have c2 : Tryd.prog.cellsOf 31 = 1 := by kernel_rfl
  rcases open_int_rows Tryd.underlying32 Tryd.underlying31 Tryd.underlying5 c2 cellsU8 hf with ⟨hcs, _⟩ | ⟨ad, len', cap', A, L, C, Z, hcs, _, hl, hm, _, hrows⟩
  · simp [Value.cells] at hcs
    obtain ⟨rfl, rfl, rfl⟩ := hcs
    exact ⟨[], ⟨none, 0, rfl, fun h => absurd rfl h⟩, fun bs h => by simp at h, by simp⟩
  · simp [Value.cells] at hcs
    obtain ⟨rfl, rfl, rfl⟩ := hcs
    have key : ∀ i, i < len → Lies W (.slice (A i) (L i) (C i)) (((Z i).take (L i)).map Int.toNat) ∧ (∀ x ∈ ((Z i).take (L i)).map Int.toNat, x < 256) ∧ (((Z i).take (L i)).map Int.toNat).length = L i := fun i hi => by
      obtain ⟨_, r1, _, r3, r4, r5, r6⟩ := hrows i (by omega)
      exact row_lies r1 r3 r4 r5 (fun a' ha => (r6 a' ha).2)
    refine ⟨(List.range len).map fun i => ((Z i).take (L i)).map Int.toNat, ⟨some ad, cap, by simp, fun hne => ?_⟩, fun bs hbs => ?_, by simp; omega⟩
    · have hpos : 0 < len := by rcases Nat.eq_zero_or_pos len with h | h; subst h; simp at hne; exact h
      obtain ⟨b, off, spot⟩ := ad
      have hspot : spot = none := by simpa [Addr.add] using World.cell?_spot (hrows 0 (by omega)).1
      subst hspot
      refine ⟨b, off, rfl, fun i bs hi => ?_⟩
      have hil : i < len := by have := (List.getElem?_eq_some_iff.1 hi).1; simpa using this
      simp [hil] at hi
      refine ⟨.slice (A i) (L i) (C i), ?_, by rw [← hi, ← List.map_take]; exact (key i hil).1⟩
      have := (hrows i (by omega)).1
      rwa [add_at] at this
    · obtain ⟨i, hi, rfl⟩ := List.mem_map.1 hbs
      exact (key i (by simpa using hi)).2.1
set_option maxRecDepth 100000 in
theorem open_rows2 {H : Type} {enc : TypeId × Value → H} {W : World} {held : Bool} {v : Value} {d : DataW H} {ps : List MemPlace} {r : Reach} {b0 : Nat} (hval : Value.okWide Tryd.prog W r b0 32 v)
    (hd : DataW.Trod enc Tryd.prog W 0 (fun _ => true) held 32 v d ps) : ∃ A : List (List Nat), RowsAt W v A ∧ Fits v ∧ (∀ bs ∈ A, ∀ x ∈ bs, x < 256) ∧ A.length ≤ maxLen := by
  obtain ⟨a, len, cap, rfl⟩ := okWide_slice Tryd.underlying32 hval
  obtain ⟨fuel, hf⟩ := hd
  have c2 : Tryd.prog.cellsOf 31 = 1 := by kernel_rfl
  rcases open_int_rows Tryd.underlying32 Tryd.underlying31 Tryd.underlying5 c2 cellsU8 hf with ⟨hcs, _⟩ | ⟨ad, len', cap', A, L, C, Z, hcs, _, hl, hm, _, hrows⟩
  · simp [Value.cells] at hcs
    obtain ⟨rfl, rfl, rfl⟩ := hcs
    exact ⟨[], ⟨none, 0, rfl, fun h => absurd rfl h⟩, fits_slice (Nat.le_refl _), fun bs h => by simp at h, by simp⟩
  · simp [Value.cells] at hcs
    obtain ⟨rfl, rfl, rfl⟩ := hcs
    have key : ∀ i, i < len → Lies W (.slice (A i) (L i) (C i)) (((Z i).take (L i)).map Int.toNat) ∧ (∀ x ∈ ((Z i).take (L i)).map Int.toNat, x < 256) ∧ (((Z i).take (L i)).map Int.toNat).length = L i := fun i hi => by
      obtain ⟨_, r1, _, r3, r4, r5, r6⟩ := hrows i (by omega)
      exact row_lies r1 r3 r4 r5 (fun a' ha => (r6 a' ha).2)
    refine ⟨(List.range len).map fun i => ((Z i).take (L i)).map Int.toNat, ⟨some ad, cap, by simp, fun hne => ?_⟩, fits_slice (by omega), fun bs hbs => ?_, by simp; omega⟩
    · have hpos : 0 < len := by rcases Nat.eq_zero_or_pos len with h | h; subst h; simp at hne; exact h
      obtain ⟨b, off, spot⟩ := ad
      have hspot : spot = none := by simpa [Addr.add] using World.cell?_spot (hrows 0 (by omega)).1
      subst hspot
      refine ⟨b, off, rfl, fun i bs hi => ?_⟩
      have hil : i < len := by have := (List.getElem?_eq_some_iff.1 hi).1; simpa using this
      simp [hil] at hi
      refine ⟨.slice (A i) (L i) (C i), ?_, by rw [← hi, ← List.map_take]; exact (key i hil).1⟩
      have := (hrows i (by omega)).1
      rwa [add_at] at this
    · obtain ⟨i, hi, rfl⟩ := List.mem_map.1 hbs
      exact (key i (by simpa using hi)).2.1
end Go.Proofs.YtcdgbmeechnpiaaDoor
/- Sectors' bytes, one behind the other. -/
namespace Go.Proofs.YtcdgbmeechnpiaaDoor
open Go.RowKit

set_option maxHeartbeats 8000000 in
set_option maxRecDepth 1000000 in
theorem join_any {w : World} {a : Option Addr} {n c : Nat} {bs : List Nat} (hform : n ≠ 0 → ∃ b off, a = some ⟨b, off, none⟩ ∧ BytesAt w b off bs) (hl : bs.length = n * 64) (hn : n ≤ 100000) :
    Calls Tryd.prog 33 #[.slice a n c] w fun e w' => ∃ v', e = .returned v' ∧ w'.ownsRow w.heap.size 5 1 v' (n * 64) (u8s bs) ∧ Below w.heap.size w w' := by
  obtain ⟨iU, hiU, hzU, hsU, hbU⟩ := info_u8
  have HF := Lib.hid hform
  have HL := Lib.hid hl
  clear hform hl
  obtain ⟨m, hm⟩ : ∃ m, m = n * 64 := ⟨_, rfl⟩
  have e2 : IntKind.i64.wrap ((n : Int) * 64) = (m : Int) := by rw [IntKind.wrap_i64]; omega
  have e3 : (n : Int) * 64 = (m : Int) := by omega
  have hm2 : m ≤ 6400000 := by omega
  have HM := Lib.hid hm
  rw [← hm]
  clear hm
  go_enter Tryd.func33, Tryd.ntmps33
  repeat (first | (refine wpList_make_own w rfl (.const (.int .i64 0)) (.tmp 7) 31 rfl w.heap.size 5 iU (.int .u8 0) 1 Tryd.underlying31 hiU hzU hsU .i64 .i64 _ m rfl rfl rfl (by rw [hbU]; omega) (by unfold maxLen; omega) (Nat.le_refl _) ?_; intro W1 hown1 hg1; have HO1 := Lib.hid hown1; have HB1 : Hid (Below w.heap.size w W1) := Lib.hid ((Below.refl w.heap.size w).grown hg1 (Nat.le_refl _) (fun k hk => by cases hk)); clear hown1 hg1) | go_values | go_skip | go_guarded | go_step)
  go_loopw [3, 11] (fun v3 i wr => ∃ k : Nat, k ≤ n ∧ i = .int .i64 k ∧ wr.ownsRow w.heap.size 5 1 v3 (k * 64) (u8s (bs.take (k * 64))) ∧ Below w.heap.size w wr) (fun _ i _ => n - (intOf i).toNat)
  case atStart => exact ⟨0, by omega, rfl, by simpa [u8s] using HO1.out, HB1.out⟩
  case round =>
    obtain ⟨k, hk, rfl, hown, hbw⟩ := hrel
    have HO := Lib.hid hown
    have HBW := Lib.hid hbw
    clear hown hbw
    by_cases hlt : k < n
    · have t3 : decide ((k : Int) < (n : Int)) = true := by simp only [decide_eq_true_eq]; omega
      have hti : (k : Int) < (n : Int) := by omega
      obtain ⟨b, off, rfl, hby⟩ := HF.out (by omega)
      have HLI : Hid (Lies wr (.slice (some ⟨b, off + k * 64, none⟩) 64 64) ((bs.drop (k * 64)).take 64)) := Lib.hid (by
        have hlen : ((bs.drop (k * 64)).take 64).length = 64 := by rw [List.length_take, List.length_drop, HL.out]; omega
        refine .inr (.inr ⟨b, off + k * 64, 64, by rw [hlen], fun j hj => ?_⟩)
        rw [hlen] at hj
        have h := hby (k * 64 + j) (by rw [HL.out]; omega)
        rw [Nat.add_assoc, HBW.out.cell (p := ⟨b, off + (k * 64 + j), none⟩) (cell_lt h), h]
        simp [List.getD, hj])
      clear hby
      have hlen : ((bs.drop (k * 64)).take 64).length = 64 := by rw [List.length_take, List.length_drop, HL.out]; omega
      have hbase : w.heap.size ≤ wr.heap.size := HBW.out.size
      go_wp2_with (at_builtin; refine wpList_append_bytes _ rfl (.tmp 14) (.tmp 18) 31 rfl w.heap.size 5 iU Tryd.underlying31 hiU hzU hsU hbU u3 _ _ rfl HO.out (.slice (some ⟨b, off + k * 64, none⟩) 64 64) _ rfl HLI.out (by rw [hlen]; omega) hbase ?_; intro v2 w2 hown2 hgrow hat; have HO2 := Lib.hid hown2; have HG2 := Lib.hid hgrow; clear hown2 hgrow hat)
      go_roundw
      case rel =>
        refine ⟨k + 1, by omega, by go_num, ?_, HBW.out.grown HG2.out hbase (fun i hi => (HO.out.lt i hi).1)⟩
        have h := HO2.out
        rw [hlen, ← u8s_append, show k * 64 + 64 = (k + 1) * 64 by omega] at h
        rw [show bs.take ((k + 1) * 64) = bs.take (k * 64) ++ (bs.drop (k * 64)).take 64 by rw [show (k + 1) * 64 = k * 64 + 64 by omega, List.take_add]]
        exact h
      case measure => simp [intOf]; omega
    · have t3 : decide ((k : Int) < (n : Int)) = false := by simp only [decide_eq_false_iff_not]; omega
      obtain rfl : k = n := by omega
      go_wp2
      go_ret
      exact ⟨_, rfl, by rw [HM.out]; rw [List.take_of_length_le (by rw [HL.out]; omega)] at HO; exact HO.out, HBW.out⟩

set_option maxHeartbeats 1000000 in
theorem read_none (w : World) (x y : Value) : Calls Tryd.prog 48 #[.pointer none, x, y] w fun e w' => e = .returned (.tuple #[.slice none 0 0, .int .i64 13]) ∧ w' = w := by
  go_enter Tryd.func48, Tryd.ntmps48
  go_wp2_with (go_at_call 18; refine (down_none _).mono ?_; rintro e w' ⟨rfl, rfl⟩)
  go_ret2
  exact ⟨rfl, rfl⟩
set_option maxHeartbeats 2000000 in
theorem read_ok {w : World} {B P f n : Nat} {d : Dev} (h : DevAt w B P d) (hup : d.down = false) (hfn : f + n ≤ d.lies.length) : Calls Tryd.prog 48 #[.pointer (some ⟨P, 0, none⟩), .int .i64 (f : Int), .int .i64 (n : Int)] w fun e w' =>
    ∃ v', e = .returned (.tuple #[v', .int .i64 0]) ∧ w'.ownsRow w.heap.size 5 1 v' (n * 64) (u8s ((d.told.drop f).take n).flatten) ∧ Below w.heap.size w w' := by
  have HD := Lib.hid h
  obtain ⟨g1, g2, wv, h⟩ := h
  obtain ⟨_, c1, _⟩ := h.cells
  have hN : d.lies.length ≤ 8192 := h.ok.size
  have HB : Hid (n ≠ 0 → BytesAt w g2 (f * 64) ((d.told.drop f).take n).flatten) := Lib.hid (fun _ j hj => by
    have hs1 : Sect (d.told.drop f) := fun s hs => h.ok.told s (List.mem_of_mem_drop hs)
    rw [flat_take hs1, flat_drop h.ok.told] at hj ⊢
    rw [List.length_take] at hj
    have h1 := arr_bytes h.told (f * 64 + j) (by rw [List.length_drop] at hj; omega)
    rw [Nat.zero_add] at h1
    rw [h1]
    simp [List.getD, show j < n * 64 by omega])
  have HL : Hid (((d.told.drop f).take n).flatten.length = n * 64) := Lib.hid (by
    rw [flat_length (fun s hs => h.ok.told s (List.mem_of_mem_drop (List.mem_of_mem_take hs))), List.length_take, List.length_drop, d.told_length, Nat.min_eq_left (by omega)])
  obtain ⟨N, hNN⟩ : ∃ N, N = d.lies.length := ⟨_, rfl⟩
  rw [← hNN] at c1 hN hfn
  have HNN := Lib.hid hNN
  clear h hNN
  have t1 : decide ((f : Int) < 0) = false := by simp
  have t2 : decide ((n : Int) < 0) = false := by simp
  have t3 : decide ((N : Int) < (f : Int)) = false := by simp; omega
  have e1 : IntKind.i64.wrap ((N : Int) - f) = ((N - f : Nat) : Int) := by rw [IntKind.wrap_i64]; omega
  have e2 : IntKind.i64.wrap ((f : Int) + n) = ((f + n : Nat) : Int) := by rw [IntKind.wrap_i64]; omega
  have e3 : (N : Int) - f = ((N - f : Nat) : Int) := by omega
  have t4 : decide (((N - f : Nat) : Int) < (n : Int)) = false := by simp; omega
  have hf0 : f ≤ f + n := by omega
  go_enter Tryd.func48, Tryd.ntmps48
  go_wp2_with (first | (go_at_call 18; refine (down_any HD.out).mono ?_; rw [hup]; rintro e w' ⟨rfl, rfl⟩) | (go_at_call 21; refine (len_any HD.out).mono ?_; rw [← HNN.out]; rintro e w' ⟨rfl, rfl⟩))
  all_goals
    refine (join_any (bs := ((d.told.drop f).take n).flatten) (fun hn0 => by first | exact ⟨g2, _, rfl, HB.out hn0⟩ | (exfalso; omega)) HL.out (by omega)).mono ?_
    rintro e w3 ⟨v', rfl, hown, hbel⟩
    have HO := Lib.hid hown
    have HBE := Lib.hid hbel
    clear hown hbel
    dsimp only
    go_wp2
    go_ret2
    exact ⟨_, rfl, HO.out, HBE.out⟩
end Go.Proofs.YtcdgbmeechnpiaaDoor
/- A device's image; what is armed and copied of one that isn't there. -/
namespace Go.Proofs.YtcdgbmeechnpiaaDoor
open Go.RowKit

set_option maxHeartbeats 1000000 in
theorem image_none (w : World) : Calls Tryd.prog 20 #[.pointer none] w fun e w' => e = .returned (.slice none 0 0) ∧ w' = w := by
  go_enter Tryd.func20, Tryd.ntmps20
  go_wp2
  go_ret
  exact ⟨rfl, rfl⟩
set_option maxHeartbeats 1000000 in
theorem image_any {w : World} {B P : Nat} {d : Dev} (h : DevAt w B P d) : Calls Tryd.prog 20 #[.pointer (some ⟨P, 0, none⟩)] w fun e w' => ∃ v', e = .returned v' ∧ w'.ownsRow w.heap.size 5 1 v' (d.lies.length * 64) (u8s d.lies.flatten) ∧ Below w.heap.size w w' := by
  obtain ⟨g1, g2, wv, h⟩ := h
  obtain ⟨c0, _⟩ := h.cells
  have HB := Lib.hid (arr_bytes h.lies)
  have HL := Lib.hid (flat_length h.ok.sect)
  have HN : Hid (d.lies.length ≤ 100000) := Lib.hid (by have := h.ok.size; omega)
  obtain ⟨n, hn⟩ : ∃ n, n = d.lies.length := ⟨_, rfl⟩
  rw [← hn] at c0 HL HN ⊢
  clear h hn
  go_enter Tryd.func20, Tryd.ntmps20
  go_wp2_with (go_at_call 33; refine (join_any (bs := d.lies.flatten) (fun _ => ⟨g1, 0, rfl, HB.out⟩) HL.out HN.out).mono ?_; rintro e w' ⟨v', rfl, hown, hbel⟩; have HO := Lib.hid hown; have HBE := Lib.hid hbel; clear hown hbel)
  go_ret
  exact ⟨_, rfl, HO.out, HBE.out⟩
set_option maxHeartbeats 1000000 in
theorem arm_none (w : World) (x y z t : Value) : Calls Tryd.prog 12 #[.pointer none, x, y, z, t] w fun e w' => e = .returned (.tuple #[]) ∧ w' = w := by
  go_enter Tryd.func12, Tryd.ntmps12
  go_wp2
  (try simp only [Exit.inBlock, Exit.then])
  refine bodyPost_ret (results_none rfl _ _ _) rfl ?_
  exact ⟨rfl, rfl⟩
end Go.Proofs.YtcdgbmeechnpiaaDoor
/- A crash. -/
namespace Go.Proofs.YtcdgbmeechnpiaaDoor
open Go.RowKit

theorem keep_bit (keep k : Nat) (h : keep < 18446744073709551616) : (bits .and .u64 ((keep : Int) / 2 ^ (k % 64)) 1 == 0) = !kept keep k := by
  have e : (keep : Int) / 2 ^ (k % 64) = ((keep / 2 ^ (k % 64) : Nat) : Int) := by simp
  have h1 : keep / 2 ^ (k % 64) ≤ keep := Nat.div_le_self _ _
  rw [e]
  unfold kept
  obtain ⟨q, hq⟩ : ∃ q, q = keep / 2 ^ (k % 64) := ⟨_, rfl⟩
  rw [← hq] at h1 ⊢
  rw [low_bit (by omega) (by omega)]
  rcases Nat.mod_two_eq_zero_or_one q with h2 | h2
  · rw [h2, show ((q : Nat) : Int) % 2 = 0 by omega]; rfl
  · rw [h2, show ((q : Nat) : Int) % 2 = 1 by omega]; rfl
theorem again_sect {M L : List (List Nat)} {ws : List (Nat × List Nat)} (hM : Sect M) (hL : Sect L) (hw : ∀ x ∈ ws, x.1 < M.length) : Sect (again M L ws) := by
  unfold again
  induction ws generalizing L with
  | nil => exact hL
  | cons x r ih =>
    rw [List.foldl_cons]
    have h1 := hw x (by simp)
    exact ih (hL.set (by simp [List.getD, h1]; exact hM _ (List.getElem_mem h1))) (fun y hy => hw y (List.mem_cons_of_mem _ hy))
/-- ahead of what is armed being taken back -/
theorem crash_end {w wb wr : World} {B P g1 g2 keep : Nat} {torn bytes : Int} {wv : Value} {d : Dev} {M : List (List Nat)} (h : DevIn w B P g1 g2 wv d) (hM : M = crashed keep torn bytes d.lies d.waits.zipIdx) (h1 : Only (fun k => k = g1) w wb) (h2 : Only (fun k => k = g2) wb wr)
    (ha : Arr wr g1 69 (u8s M.flatten)) (hb : Arr wr g2 69 (u8s M.flatten)) :
    DevIn ((wr.setCell ⟨P, 2, none⟩ (.slice none 0 0)).setCell ⟨P, 3, none⟩ (.bool true)) B P g1 g2 (.slice none 0 0) { d with lies := M, waits := [], down := true } ∧ Only (fun k => k = P ∨ k = g1 ∨ k = g2) w ((wr.setCell ⟨P, 2, none⟩ (.slice none 0 0)).setCell ⟨P, 3, none⟩ (.bool true)) := by
  have o2 : Only (fun k => k = P) wr ((wr.setCell ⟨P, 2, none⟩ (.slice none 0 0)).setCell ⟨P, 3, none⟩ (.bool true)) :=
    (Only.setCell (S := fun k => k = P) _ (p := ⟨P, 2, none⟩) rfl _).trans (Only.setCell (S := fun k => k = P) _ (p := ⟨P, 3, none⟩) rfl _) (fun _ _ h => h)
  have hP := (((h.blk.only h1 (fun e => h.ne1 e)).only h2 (fun e => h.ne2 e)).set 2 (.slice none 0 0)).set 3 (.bool true)
  have hl : M.length = d.lies.length := by rw [hM, crashed_length]
  have e : ((dcells g1 g2 wv d).set 2 (.slice none 0 0)).set 3 (.bool true) = dcells g1 g2 (.slice none 0 0) { d with lies := M, waits := [], down := true } := by simp [dcells, hl]
  rw [e] at hP
  have hok := Dev.crash_ok h.ok keep torn bytes
  refine ⟨⟨hP, ha.only o2 (fun e => h.ne1 e.symm), hb.only o2 (fun e => h.ne2 e.symm), World.ownsRow_nil _ _ _ _, h.ne, h.lo, ⟨by rw [hM]; exact hok.sect, fun x hx => by simp at hx, by rw [hM]; exact hok.pos, by rw [hM]; exact hok.size⟩⟩, ?_⟩
  exact ((h1.mono (T := fun k => k = P ∨ k = g1 ∨ k = g2) (fun _ _ hk => .inr (.inl hk))).trans h2 (fun _ _ hk => .inr (.inr hk))).trans o2 (fun _ _ hk => .inl hk)
set_option maxHeartbeats 16000000 in
set_option maxRecDepth 1000000 in
theorem crash_any {w : World} {B P keep : Nat} {torn bytes : Int} {d : Dev} (h : DevAt w B P d) (hkeep : keep < 18446744073709551616) : Calls Tryd.prog 13 #[.pointer (some ⟨P, 0, none⟩), .int .u64 (keep : Int), .int .i64 torn, .int .i64 bytes] w fun e w' => e = .returned (.tuple #[]) ∧ DevAt w' B P (d.crash keep torn bytes) ∧ Kept P w w' := by
  obtain ⟨g1, g2, wv, h⟩ := h
  obtain ⟨c0, _, c2, _⟩ := h.cells
  obtain ⟨a, c, rfl⟩ := h.slice
  have HD := Lib.hid h
  obtain ⟨n, hn⟩ : ∃ n, n = d.lies.length := ⟨_, rfl⟩
  obtain ⟨m, hm⟩ : ∃ m, m = d.waits.length := ⟨_, rfl⟩
  have HN := Lib.hid hn
  have HM := Lib.hid hm
  have hn8 : n ≤ 8192 := by rw [hn]; exact h.ok.size
  have hmm : m ≤ 9223372036854775807 := by
    rw [hm]
    rcases h.waits.2 with ⟨_, h0⟩ | ⟨_, _, _, _, _, _, h1, h2, _⟩
    · omega
    · exact Nat.le_trans h1 h2
  rw [← hn] at c0
  rw [← hm] at c2
  clear h hn hm
  go_enter Tryd.func13, Tryd.ntmps13
  go_wp2_with fail
  clear c0 c2
  go_loopw [20] (fun i wr => ∃ k : Nat, k ≤ m ∧ i = .int .i64 k ∧ Arr wr g1 69 (u8s (crashed keep torn bytes d.lies (d.waits.zipIdx.take k)).flatten) ∧ Only (fun k => k = g1) w wr) (fun i _ => m - (intOf i).toNat)
  case atStart => exact ⟨0, by omega, rfl, HD.out.lies, Only.refl _ _⟩
  case round =>
    obtain ⟨k, hk, rfl, harr, ho⟩ := hrel
    have HR := Lib.hid harr
    have HO := Lib.hid ho
    have hbP := HD.out.blk.only ho (fun e => HD.out.ne1 e)
    have c0 : wr.cell? ⟨P, 0, none⟩ = some (.slice (some ⟨g1, 0, none⟩) n n) := by rw [HN.out]; exact hbP.cell rfl
    have c2 : wr.cell? ⟨P, 2, none⟩ = some (.slice a m c) := by rw [HM.out]; exact hbP.cell rfl
    have HP := Lib.hid hbP
    clear harr ho hbP
    by_cases hlt : k < m
    · obtain ⟨x, hx⟩ : ∃ x, d.waits[k]? = some x := ⟨d.waits[k]'(by rw [← HM.out]; exact hlt), List.getElem?_eq_getElem _⟩
      obtain ⟨gw, c', hv, hgw, hw⟩ := HD.out.wait hx
      cases hv
      have hx2 : x.2.length = 64 := (HD.out.ok.wait x (List.mem_of_getElem? hx)).2
      have hx1 : x.1 < n := by rw [HN.out]; exact (HD.out.ok.wait x (List.mem_of_getElem? hx)).1
      have hwne : gw ≠ g1 := fun e => HD.out.neW1 (by rw [e]; rfl)
      have HW : Hid (∀ j v, (wcell x)[j]? = some v → wr.cell? ⟨gw, k * 65 + j, none⟩ = some v) := Lib.hid (fun j v hj => by
        have h1 := hw j v hj
        rw [← h1]; exact World.cell?_of_block (HO.out.block _ (cell_lt h1) hwne))
      have HSW : Hid ((Tryd.prog.info? 71).map (·.size) = some (wcell x).length) := Lib.hid (sizeW (wcell_length hx2))
      have HX := Lib.hid hx
      have HX2 := Lib.hid hx2
      have t3 : decide ((k : Int) < (m : Int)) = true := by simp only [decide_eq_true_eq]; omega
      have e1 : IntKind.i64.wrap ((k : Int) + 1) = ((k + 1 : Nat) : Int) := by rw [IntKind.wrap_i64]; omega
      obtain ⟨at_, hat⟩ : ∃ a, a = x.1 := ⟨_, rfl⟩
      have HAT := Lib.hid hat
      rw [← hat] at hx1
      clear hw hx hx2 hat
      have tK := keep_bit keep k hkeep
      obtain ⟨Q, hQ⟩ : ∃ Q, Q = kept keep k := ⟨_, rfl⟩
      rw [← hQ] at tK
      have HQ := Lib.hid hQ
      clear hQ
      cases Q
      · simp only [Bool.not_false] at tK
        repeat (first | (refine wpList_load_part rfl 71 (.tmp 23) rfl gw (k * 65) rfl (wcell x) _ HW.out Tryd.underlying71 rfl HSW.out ?_) | (refine wpList_alloc_zero rfl 71 rfl zeroW (by kernel_rfl) ?_) | (refine wpList_store_part rfl 71 (.tmp 9) (.tmp 24) rfl wr.heap.size 0 (wcell x) rfl rfl 71 zeroW (arr_new wr _ zeroW) HSW.out (by rw [zeroW_length, wcell_length HX2.out]; omega) (wcell_one x) ?_; refine wpList_name ?_; intro W3 hW3) | go_values | go_skip | go_guarded | go_step | go_upon)
        obtain ⟨hb3, _⟩ := wvar hW3.out HX2.out
        have HB3 := Lib.hid hb3
        clear hb3 hW3
        go_roundw
        case rel =>
          refine ⟨k + 1, by omega, by go_num, ?_, HO.out.trans (T := fun k => k = g1) (only_beyond HB3.out) (fun _ _ h => h)⟩
          rw [crashed_take HX.out]
          unfold crash1
          rw [if_neg (by rw [← HQ.out]; simp)]
          exact HR.out.only (only_beyond (S := fun _ => False) HB3.out) (fun h => h)
        case measure => simp [intOf]; omega
      · simp only [Bool.not_true] at tK
        by_cases hT : (k : Int) = torn
        · have tT : ((k : Int) == torn) = true := by simp [hT]
          have HT := Lib.hid hT
          obtain ⟨nn, hnn⟩ : ∃ nn, nn = tornN bytes := ⟨_, rfl⟩
          have HNN := Lib.hid hnn
          have eT : (if 64 < (if bytes < 0 then 0 else bytes) then 64 else (if bytes < 0 then 0 else bytes)) = (nn : Int) := by rw [hnn]; unfold tornN; split <;> split <;> omega
          have hn64 : nn ≤ 64 := by rw [hnn]; exact tornN_le _
          clear hT hnn
          repeat (first | (refine wpList_load_part rfl 71 (.tmp 23) rfl gw (k * 65) rfl (wcell x) _ HW.out Tryd.underlying71 rfl HSW.out ?_) | (refine wpList_alloc_zero rfl 71 rfl zeroW (by kernel_rfl) ?_) | (refine wpList_store_part rfl 71 (.tmp 9) (.tmp 24) rfl wr.heap.size 0 (wcell x) rfl rfl 71 zeroW (arr_new wr _ zeroW) HSW.out (by rw [zeroW_length, wcell_length HX2.out]; omega) (wcell_one x) ?_; refine wpList_name ?_; intro W3 hW3) | go_values | go_skip | go_guarded | go_step | go_upon)
          obtain ⟨L, hL⟩ : ∃ L, L = wr.heap.size := ⟨_, rfl⟩
          obtain ⟨hb3, hv3⟩ := wvar hW3.out HX2.out
          rw [← hL] at hv3 ⊢
          have HB3 := Lib.hid hb3
          have b0 : W3.cell? ⟨P, 0, none⟩ = some (.slice (some ⟨g1, 0, none⟩) n n) := by rw [← c0]; exact World.cell?_of_block (hb3.block _ (cell_lt c0))
          obtain ⟨v0, v1⟩ := wvar_get hv3
          rw [← HAT.out] at v0
          have HV1 := Lib.hid v1
          have HR3 : Hid (Arr W3 g1 69 (u8s (crashed keep torn bytes d.lies (d.waits.zipIdx.take k)).flatten)) := Lib.hid (HR.out.only (only_beyond (S := fun _ => False) hb3) (fun h => h))
          clear hW3 hb3 hv3 v1 hL HW c0 c2
          refine wp_region_still_tail 11 (by kernel_rfl) (by kernel_rfl) ?_
          simp only [List.take_succ_cons, List.take_zero, List.drop_succ_cons, List.drop_zero]
          iterate 8 still_step
          refine wpStill_value rfl (run_upto _ 69 (.tmp 43) (.tmp 44) rfl 5 64 Tryd.underlying69 (by kernel_rfl) g1 (at_ * 64) nn .i64 rfl rfl (by omega) (by omega)) ?_
          (try simp only [Act.put, List.setIfInBounds_toArray, List.set_cons_zero, List.set_cons_succ])
          repeat still_step
          refine wpStill_nil ?_
          change wpList _ _ _ _ _ W3.drew
          have HOKC : Hid (Sect (crashed keep torn bytes d.lies (d.waits.zipIdx.take k))) := Lib.hid (crashed_sect HD.out.ok.sect (fun y hy => Dev.zip_ok HD.out.ok y (List.mem_of_mem_take hy)))
          have HLC : Hid ((crashed keep torn bytes d.lies (d.waits.zipIdx.take k)).length = n) := Lib.hid (by rw [crashed_length, HN.out])
          have HCUR : Hid ((crashed keep torn bytes d.lies (d.waits.zipIdx.take k)).flatten.length = n * 64) := Lib.hid (by rw [flat_length HOKC.out, HLC.out])
          have HNX : Hid ((crashed keep torn bytes d.lies (d.waits.zipIdx.take (k + 1))).flatten = splice (crashed keep torn bytes d.lies (d.waits.zipIdx.take k)).flatten (at_ * 64) (x.2.take nn)) := Lib.hid (by
            rw [crashed_take HX.out]
            unfold crash1
            rw [if_pos (by rw [← HQ.out]), if_pos HT.out, ← HNN.out, ← HAT.out]
            have hlt2 : at_ < (crashed keep torn bytes d.lies (d.waits.zipIdx.take k)).length := by rw [HLC.out]; exact hx1
            rw [show (crashed keep torn bytes d.lies (d.waits.zipIdx.take k)).getD at_ [] = (crashed keep torn bytes d.lies (d.waits.zipIdx.take k))[at_] by simp [List.getD, hlt2]]
            exact flat_part HOKC.out (List.getElem?_eq_getElem hlt2) (by omega) HX2.out)
          obtain ⟨cur, hcur⟩ : ∃ c, c = (crashed keep torn bytes d.lies (d.waits.zipIdx.take k)).flatten := ⟨_, rfl⟩
          rw [← hcur] at HCUR HNX HR3
          clear hcur HR HOKC HLC
          have hmul := Nat.mul_le_mul_right 64 (show at_ + 1 ≤ n from hx1)
          have hln : (x.2.take nn).length = nn := by rw [List.length_take, HX2.out]; omega
          have HRD : Hid (Arr W3.drew g1 69 (u8s cur)) := Lib.hid (Arr.only (w := W3) HR3.out (Only.drew (fun _ => False) W3) (fun h => h))
          refine wpList_copy_own rfl (.tmp 45) (.tmp 47) 31 31 rfl 5 Tryd.underlying31 (by kernel_rfl) g1 (at_ * 64) nn 64 ⟨L, 1, none⟩ 64 64 rfl rfl (u8s cur).toArray 69 HRD.out (u8s (x.2.take nn)) (by rw [u8s_length, hln]; exact (Nat.min_eq_right (by omega)).symm) (fun j v hv => by rw [add_at]; exact HV1.out j v (by simp only [u8s_get, List.getElem?_take] at hv ⊢; split at hv; exact hv; simp at hv)) (by rw [List.size_toArray, u8s_length, u8s_length, HCUR.out, hln]; omega) (u8s_one _) ?_
          refine wpList_name ?_
          intro W5 hW5
          have HR5 : Hid (Arr W5 g1 69 (u8s (crashed keep torn bytes d.lies (d.waits.zipIdx.take (k + 1))).flatten)) := Lib.hid (by
            rw [HNX.out, ← u8s_splice, hW5.out]
            exact setRow_heap _ _ _ _ _ _ HRD.out)
          have HO5 : Hid (Only (fun k => k = g1) w W5) := Lib.hid (by
            refine HO.out.trans (T := fun k => k = g1) ((only_beyond (S := fun k => k = g1) HB3.out).trans (T := fun k => k = g1) ?_ (fun _ _ h => h)) (fun _ _ h => h)
            rw [hW5.out]
            exact ⟨rfl, rfl, rfl, by simp, fun k hk hs => setRow_other W3.drew _ _ _ hs⟩)
          clear hW5 v0 b0
          repeat (first | go_values | go_skip | go_guarded | go_step | go_upon)
          exact ⟨⟨k + 1, by omega, by go_num, HR5.out, HO5.out⟩, by simp [intOf]; omega⟩
        · have tT : ((k : Int) == torn) = false := by simp [hT]
          have HT := Lib.hid hT
          clear hT
          repeat (first | (refine wpList_load_part rfl 71 (.tmp 23) rfl gw (k * 65) rfl (wcell x) _ HW.out Tryd.underlying71 rfl HSW.out ?_) | (refine wpList_alloc_zero rfl 71 rfl zeroW (by kernel_rfl) ?_) | (refine wpList_store_part rfl 71 (.tmp 9) (.tmp 24) rfl wr.heap.size 0 (wcell x) rfl rfl 71 zeroW (arr_new wr _ zeroW) HSW.out (by rw [zeroW_length, wcell_length HX2.out]; omega) (wcell_one x) ?_; refine wpList_name ?_; intro W3 hW3) | go_values | go_skip | go_guarded | go_step | go_upon)
          obtain ⟨L, hL⟩ : ∃ L, L = wr.heap.size := ⟨_, rfl⟩
          obtain ⟨hb3, hv3⟩ := wvar hW3.out HX2.out
          rw [← hL] at hv3 ⊢
          have HB3 := Lib.hid hb3
          have b0 : W3.cell? ⟨P, 0, none⟩ = some (.slice (some ⟨g1, 0, none⟩) n n) := by rw [← c0]; exact World.cell?_of_block (hb3.block _ (cell_lt c0))
          obtain ⟨v0, v1⟩ := wvar_get hv3
          rw [← HAT.out] at v0
          have HV1 := Lib.hid v1
          have HR3 : Hid (Arr W3 g1 69 (u8s (crashed keep torn bytes d.lies (d.waits.zipIdx.take k)).flatten)) := Lib.hid (HR.out.only (only_beyond (S := fun _ => False) hb3) (fun h => h))
          clear hW3 hb3 hv3 v1 hL HW c0 c2
          refine wp_region_still_tail 11 (by kernel_rfl) (by kernel_rfl) ?_
          simp only [List.take_succ_cons, List.take_zero, List.drop_succ_cons, List.drop_zero]
          iterate 8 still_step
          refine wpStill_value rfl (run_upto _ 69 (.tmp 43) (.tmp 44) rfl 5 64 Tryd.underlying69 (by kernel_rfl) g1 (at_ * 64) 64 .i64 rfl rfl (by omega) (by omega)) ?_
          (try simp only [Act.put, List.setIfInBounds_toArray, List.set_cons_zero, List.set_cons_succ])
          repeat still_step
          refine wpStill_nil ?_
          change wpList _ _ _ _ _ W3.drew
          have HOKC : Hid (Sect (crashed keep torn bytes d.lies (d.waits.zipIdx.take k))) := Lib.hid (crashed_sect HD.out.ok.sect (fun y hy => Dev.zip_ok HD.out.ok y (List.mem_of_mem_take hy)))
          have HLC : Hid ((crashed keep torn bytes d.lies (d.waits.zipIdx.take k)).length = n) := Lib.hid (by rw [crashed_length, HN.out])
          have HCUR : Hid ((crashed keep torn bytes d.lies (d.waits.zipIdx.take k)).flatten.length = n * 64) := Lib.hid (by rw [flat_length HOKC.out, HLC.out])
          have HNX : Hid ((crashed keep torn bytes d.lies (d.waits.zipIdx.take (k + 1))).flatten = splice (crashed keep torn bytes d.lies (d.waits.zipIdx.take k)).flatten (at_ * 64) (x.2.take 64)) := Lib.hid (by
            rw [crashed_take HX.out]
            unfold crash1
            rw [if_pos (by rw [← HQ.out]), if_neg HT.out, ← HAT.out]
            have hlt2 : at_ < (crashed keep torn bytes d.lies (d.waits.zipIdx.take k)).length := by rw [HLC.out]; exact hx1
            rw [show (crashed keep torn bytes d.lies (d.waits.zipIdx.take k)).getD at_ [] = (crashed keep torn bytes d.lies (d.waits.zipIdx.take k))[at_] by simp [List.getD, hlt2]]
            exact flat_part HOKC.out (List.getElem?_eq_getElem hlt2) (by omega) HX2.out)
          obtain ⟨cur, hcur⟩ : ∃ c, c = (crashed keep torn bytes d.lies (d.waits.zipIdx.take k)).flatten := ⟨_, rfl⟩
          rw [← hcur] at HCUR HNX HR3
          clear hcur HR HOKC HLC
          have hmul := Nat.mul_le_mul_right 64 (show at_ + 1 ≤ n from hx1)
          have hln : (x.2.take 64).length = 64 := by rw [List.length_take, HX2.out]; omega
          have HRD : Hid (Arr W3.drew g1 69 (u8s cur)) := Lib.hid (Arr.only (w := W3) HR3.out (Only.drew (fun _ => False) W3) (fun h => h))
          refine wpList_copy_own rfl (.tmp 45) (.tmp 47) 31 31 rfl 5 Tryd.underlying31 (by kernel_rfl) g1 (at_ * 64) 64 64 ⟨L, 1, none⟩ 64 64 rfl rfl (u8s cur).toArray 69 HRD.out (u8s (x.2.take 64)) (by rw [u8s_length, hln]; exact (Nat.min_eq_right (by omega)).symm) (fun j v hv => by rw [add_at]; exact HV1.out j v (by simp only [u8s_get, List.getElem?_take] at hv ⊢; split at hv; exact hv; simp at hv)) (by rw [List.size_toArray, u8s_length, u8s_length, HCUR.out, hln]; omega) (u8s_one _) ?_
          refine wpList_name ?_
          intro W5 hW5
          have HR5 : Hid (Arr W5 g1 69 (u8s (crashed keep torn bytes d.lies (d.waits.zipIdx.take (k + 1))).flatten)) := Lib.hid (by
            rw [HNX.out, ← u8s_splice, hW5.out]
            exact setRow_heap _ _ _ _ _ _ HRD.out)
          have HO5 : Hid (Only (fun k => k = g1) w W5) := Lib.hid (by
            refine HO.out.trans (T := fun k => k = g1) ((only_beyond (S := fun k => k = g1) HB3.out).trans (T := fun k => k = g1) ?_ (fun _ _ h => h)) (fun _ _ h => h)
            rw [hW5.out]
            exact ⟨rfl, rfl, rfl, by simp, fun k hk hs => setRow_other W3.drew _ _ _ hs⟩)
          clear hW5 v0 b0
          repeat (first | go_values | go_skip | go_guarded | go_step | go_upon)
          exact ⟨⟨k + 1, by omega, by go_num, HR5.out, HO5.out⟩, by simp [intOf]; omega⟩
    · have t3 : decide ((k : Int) < (m : Int)) = false := by simp only [decide_eq_false_iff_not]; omega
      obtain rfl : k = m := by omega
      obtain ⟨M, hM⟩ : ∃ M, M = crashed keep torn bytes d.lies d.waits.zipIdx := ⟨_, rfl⟩
      have hz : d.waits.zipIdx.take k = d.waits.zipIdx := List.take_of_length_le (by rw [List.length_zipIdx, ← HM.out]; exact Nat.le_refl _)
      rw [hz, ← hM] at HR
      have HMS : Hid (Sect M) := Lib.hid (by rw [hM]; exact crashed_sect HD.out.ok.sect (Dev.zip_ok HD.out.ok))
      have HML : Hid (M.length = n) := Lib.hid (by rw [hM, crashed_length, HN.out])
      have HMM := Lib.hid hM
      have HT0 : Hid (Arr wr g2 69 (u8s d.told.flatten)) := Lib.hid (HD.out.told.only HO.out (fun e => HD.out.ne e.symm))
      have HMQ := HM
      clear hM hz HM
      repeat (first | go_values | go_skip | go_guarded | go_step | go_upon)
      obtain ⟨wb, hwb⟩ : ∃ wb, wb = wr := ⟨_, rfl⟩
      obtain ⟨m, hmk⟩ : ∃ m, m = k := ⟨_, rfl⟩
      subst hwb
      subst hmk
      clear c0 c2
      go_loopw [55] (fun i wr => ∃ k : Nat, k ≤ m ∧ i = .int .i64 k ∧ Arr wr g2 69 (u8s (again M d.told (d.waits.take k)).flatten) ∧ Only (fun k => k = g2) wb wr) (fun i _ => m - (intOf i).toNat)
      case atStart => exact ⟨0, by omega, rfl, HT0.out, Only.refl _ _⟩
      case round =>
        obtain ⟨k, hk, rfl, harr, ho⟩ := hrel
        have HR2 := Lib.hid harr
        have HO2 := Lib.hid ho
        have hbP := HP.out.only ho (fun e => HD.out.ne2 e)
        have c0 : wr.cell? ⟨P, 0, none⟩ = some (.slice (some ⟨g1, 0, none⟩) n n) := by rw [HN.out]; exact hbP.cell rfl
        have c1 : wr.cell? ⟨P, 1, none⟩ = some (.slice (some ⟨g2, 0, none⟩) n n) := by rw [HN.out]; exact hbP.cell rfl
        have c2 : wr.cell? ⟨P, 2, none⟩ = some (.slice a m c) := by rw [HMQ.out]; exact hbP.cell rfl
        have c3 : wr.cell? ⟨P, 3, none⟩ = some (.bool d.down) := hbP.cell rfl
        have f2 := hbP.free 2
        have f3 := hbP.free 3
        have HP2 := Lib.hid hbP
        have HR1 : Hid (Arr wr g1 69 (u8s M.flatten)) := Lib.hid (HR.out.only ho HD.out.ne)
        clear harr ho hbP
        by_cases hlt : k < m
        · obtain ⟨x, hx⟩ : ∃ x, d.waits[k]? = some x := ⟨d.waits[k]'(by rw [← HMQ.out]; exact hlt), List.getElem?_eq_getElem _⟩
          obtain ⟨gw, c', hv, hgw, hw⟩ := HD.out.wait hx
          cases hv
          have hx2 : x.2.length = 64 := (HD.out.ok.wait x (List.mem_of_getElem? hx)).2
          have hx1 : x.1 < n := by rw [HN.out]; exact (HD.out.ok.wait x (List.mem_of_getElem? hx)).1
          have hwne : gw ≠ g1 := fun e => HD.out.neW1 (by rw [e]; rfl)
          have hwne2 : gw ≠ g2 := fun e => HD.out.neW2 (by rw [e]; rfl)
          have HW : Hid (∀ j v, (wcell x)[j]? = some v → wr.cell? ⟨gw, k * 65 + j, none⟩ = some v) := Lib.hid (fun j v hj => by
            have h1 := hw j v hj
            have h2 : wb.cell? ⟨gw, k * 65 + j, none⟩ = some v := by rw [← h1]; exact World.cell?_of_block (HO.out.block _ (cell_lt h1) hwne)
            rw [← h2]; exact World.cell?_of_block (HO2.out.block _ (cell_lt h2) hwne2))
          have HSW : Hid ((Tryd.prog.info? 71).map (·.size) = some (wcell x).length) := Lib.hid (sizeW (wcell_length hx2))
          have HX := Lib.hid hx
          have HX2 := Lib.hid hx2
          have t3 : decide ((k : Int) < (m : Int)) = true := by simp only [decide_eq_true_eq]; omega
          have e1 : IntKind.i64.wrap ((k : Int) + 1) = ((k + 1 : Nat) : Int) := by rw [IntKind.wrap_i64]; omega
          obtain ⟨at_, hat⟩ : ∃ a, a = x.1 := ⟨_, rfl⟩
          have HAT := Lib.hid hat
          rw [← hat] at hx1
          obtain ⟨s, hs⟩ : ∃ s, M[at_]? = some s := ⟨M[at_]'(by rw [HML.out]; exact hx1), List.getElem?_eq_getElem _⟩
          have HS := Lib.hid hs
          have HS64 : Hid (s.length = 64) := Lib.hid (HMS.out.get hs)
          have HSS : Hid ((Tryd.prog.info? 69).map (·.size) = some (u8s s).length) := Lib.hid (sizeS (by rw [u8s_length]; exact HS64.out))
          clear hw hx hx2 hat hs hwne hwne2
          repeat (first | (refine wpList_load_part rfl 71 (.tmp 57) rfl gw (k * 65) rfl (wcell x) _ HW.out Tryd.underlying71 rfl HSW.out ?_) | (refine wpList_alloc_zero rfl 71 rfl zeroW (by kernel_rfl) ?_) | (refine wpList_store_part rfl 71 (.tmp 12) (.tmp 58) rfl wr.heap.size 0 (wcell x) rfl rfl 71 zeroW (arr_new wr _ zeroW) HSW.out (by rw [zeroW_length, wcell_length HX2.out]; omega) (wcell_one x) ?_; refine wpList_name ?_; intro W3 hW3) | go_values | go_skip | go_guarded | go_step | go_upon)
          simp only [Act.put, List.setIfInBounds_toArray, List.set_cons_zero, List.set_cons_succ]
          obtain ⟨L, hL⟩ : ∃ L, L = wr.heap.size := ⟨_, rfl⟩
          obtain ⟨hb3, hv3⟩ := wvar hW3.out HX2.out
          rw [← hL] at hv3 ⊢
          have HB3 := Lib.hid hb3
          have b0 : W3.cell? ⟨P, 0, none⟩ = some (.slice (some ⟨g1, 0, none⟩) n n) := by rw [← c0]; exact World.cell?_of_block (hb3.block _ (cell_lt c0))
          have b1 : W3.cell? ⟨P, 1, none⟩ = some (.slice (some ⟨g2, 0, none⟩) n n) := by rw [← c1]; exact World.cell?_of_block (hb3.block _ (cell_lt c1))
          obtain ⟨v0, _⟩ := wvar_get hv3
          rw [← HAT.out] at v0
          have HR3 : Hid (Arr W3 g2 69 (u8s (again M d.told (d.waits.take k)).flatten)) := Lib.hid (HR2.out.only (only_beyond (S := fun _ => False) hb3) (fun h => h))
          have HG1 : Hid (∀ j v, (u8s s)[j]? = some v → W3.cell? ⟨g1, at_ * 64 + j, none⟩ = some v) := Lib.hid (fun j v hv => by
            have hj : j < 64 := by have := (List.getElem?_eq_some_iff.1 hv).1; rw [u8s_length, HS64.out] at this; exact this
            refine (HR1.out.only (only_beyond (S := fun _ => False) hb3) (fun h => h)).cell ?_
            rw [u8s_get, flat_get HMS.out HS.out hj, ← u8s_get]; exact hv)
          clear hW3 hb3 hv3 hL HW c0 c1 c2 c3 f2 f3
          refine wp_region_still_tail 15 (by kernel_rfl) (by kernel_rfl) ?_
          simp only [List.take_succ_cons, List.take_zero, List.drop_succ_cons, List.drop_zero]
          iterate 13 still_step
          refine wpStill_value rfl (run_load_part _ 69 (.tmp 71) rfl g1 (at_ * 64) rfl (u8s s) _ HG1.out Tryd.underlying69 rfl HSS.out) ?_
          (try simp only [Act.put, List.setIfInBounds_toArray, List.set_cons_zero, List.set_cons_succ])
          repeat still_step
          refine wpStill_nil ?_
          change wpList _ _ _ _ _ W3.drew
          have HOKC : Hid (Sect (again M d.told (d.waits.take k))) := Lib.hid (again_sect HMS.out HD.out.ok.told (fun y hy => by rw [HML.out, HN.out]; exact (HD.out.ok.wait y (List.mem_of_mem_take hy)).1))
          have HLC : Hid ((again M d.told (d.waits.take k)).length = n) := Lib.hid (by rw [again_length, d.told_length, HN.out])
          have HCUR : Hid ((again M d.told (d.waits.take k)).flatten.length = n * 64) := Lib.hid (by rw [flat_length HOKC.out, HLC.out])
          have HNX : Hid ((again M d.told (d.waits.take (k + 1))).flatten = splice (again M d.told (d.waits.take k)).flatten (at_ * 64) s) := Lib.hid (by
            rw [again_take HX.out, ← HAT.out, flat_set HOKC.out (by rw [HLC.out]; exact hx1) (by simp [List.getD, HS.out, HS64.out])]
            simp [List.getD, HS.out])
          obtain ⟨cur, hcur⟩ : ∃ c, c = (again M d.told (d.waits.take k)).flatten := ⟨_, rfl⟩
          rw [← hcur] at HCUR HNX HR3
          clear hcur HR2 HOKC HLC
          have hmul := Nat.mul_le_mul_right 64 (show at_ + 1 ≤ n from hx1)
          have HRD : Hid (Arr W3.drew g2 69 (u8s cur)) := Lib.hid (Arr.only (w := W3) HR3.out (Only.drew (fun _ => False) W3) (fun h => h))
          refine wpList_store_part rfl 69 (.tmp 73) (.tmp 72) rfl g2 (at_ * 64) (u8s s) rfl rfl 69 (u8s cur) HRD.out HSS.out (by rw [u8s_length, u8s_length, HCUR.out, HS64.out]; omega) (u8s_one _) ?_
          refine wpList_name ?_
          intro W5 hW5
          have HR5 : Hid (Arr W5 g2 69 (u8s (again M d.told (d.waits.take (k + 1))).flatten)) := Lib.hid (by
            rw [HNX.out, ← u8s_splice, hW5.out]
            exact setRow_heap _ _ _ _ _ _ HRD.out)
          have HO5 : Hid (Only (fun k => k = g2) wb W5) := Lib.hid (by
            refine HO2.out.trans (T := fun k => k = g2) ((only_beyond (S := fun k => k = g2) HB3.out).trans (T := fun k => k = g2) ?_ (fun _ _ h => h)) (fun _ _ h => h)
            rw [hW5.out]
            exact ⟨rfl, rfl, rfl, by simp, fun k hk hs => setRow_other W3.drew _ _ _ hs⟩)
          clear hW5 v0 b0 b1
          repeat (first | go_values | go_skip | go_guarded | go_step | go_upon)
          exact ⟨⟨k + 1, by omega, by go_num, HR5.out, HO5.out⟩, by simp [intOf]; omega⟩
        · have t3 : decide ((k : Int) < (m : Int)) = false := by simp only [decide_eq_false_iff_not]; omega
          obtain rfl : k = m := by omega
          have HF : Hid (Arr wr g2 69 (u8s M.flatten)) := Lib.hid (by
            have h1 : again M d.told (d.waits.take k) = M := by rw [List.take_of_length_le (by rw [← HMQ.out]; exact Nat.le_refl _), HMM.out]; exact again_crash _ _ _ _ _
            have h2 := HR2.out
            rw [h1] at h2; exact h2)
          have HEND := Lib.hid (crash_end HD.out HMM.out HO.out HO2.out HR1.out HF.out)
          clear HR2
          go_wp2_with (go_at_call 31; refine (disarm_any HEND.out.1).mono ?_; rintro e w' ⟨rfl, hd, ho⟩; have HD2 := Lib.hid hd; have HO3 := Lib.hid ho; clear hd ho)
          go_end0
          have HD3 : DevIn w' B P g1 g2 (.slice none 0 0) (d.crash keep torn bytes) := by have h := HD2.out; rw [HMM.out] at h; exact h
          exact ⟨rfl, ⟨g1, g2, _, HD3⟩, HD.out.keeps (HEND.out.2.trans HO3.out (fun _ _ hk => .inl hk)) HD3 (fun k hk => by simp [Value.ownBlock] at hk)⟩
end Go.Proofs.YtcdgbmeechnpiaaDoor
/- What is armed: counted, and its crash. -/
namespace Go.Proofs.YtcdgbmeechnpiaaDoor
open Go.RowKit

/-- one writing more was taken: what is answered, and the device -/
def Dev.count (d : Dev) : Int × Dev := if d.after = 0 then (0, d) else if 1 < d.after then (0, { d with after := d.after - 1 }) else (13, d.crash d.keep d.torn d.bytes)
theorem Dev.count_calm {d : Dev} (h : d.after = 0) : d.count = (0, d) := by unfold Dev.count; rw [if_pos h]
set_option maxRecDepth 1000000 in
set_option maxHeartbeats 4000000 in
theorem count_any {w : World} {B P : Nat} {d : Dev} (h : DevAt w B P d) (hB : B ≤ w.heap.size) (ha : d.after < 9223372036854775808) (hk : d.keep < 18446744073709551616) : Calls Tryd.prog 62 #[.pointer (some ⟨P, 0, none⟩)] w fun e w' => e = .returned (.int .i64 d.count.1) ∧ DevAt w' B P d.count.2 ∧ Kept P w w' := by
  by_cases h0 : d.after = 0
  · rw [Dev.count_calm h0]
    refine (count_none h h0).mono ?_
    rintro e w' ⟨rfl, rfl⟩
    exact ⟨rfl, h, Kept.refl _ _⟩
  obtain ⟨g1, g2, wv, h⟩ := h
  obtain ⟨_, _, _, _, c4, c5, c6, c7⟩ := h.cells
  have f4 := h.free 4
  obtain ⟨n, hn⟩ : ∃ n, n = d.after := ⟨_, rfl⟩
  have HN := Lib.hid hn
  rw [← hn] at c4 h0 ha
  have t0 : ((n : Int) == 0) = false := by simp; omega
  have t0n : (n == 0) = false := by simp; omega
  obtain ⟨m, hm⟩ : ∃ m, m = n - 1 := ⟨_, rfl⟩
  have em : (n : Int) - 1 = (m : Int) := by omega
  have emw : IntKind.i64.wrap ((n : Int) - 1) = (m : Int) := by rw [IntKind.wrap_i64]; omega
  have HO : Hid (Only (fun k => k = P) w (w.setCell ⟨P, 4, none⟩ (.int .i64 (m : Int)))) := Lib.hid (Only.setCell (S := fun k => k = P) _ (p := ⟨P, 4, none⟩) rfl _)
  have HD1 : Hid (DevIn (w.setCell ⟨P, 4, none⟩ (.int .i64 (m : Int))) B P g1 g2 wv { d with after := m }) := Lib.hid (h.reblk HO.out (h.blk.set 4 _) rfl rfl)
  have HM := Lib.hid hm
  have HD := Lib.hid h
  clear h hn hm
  by_cases h1 : 1 < n
  · have t1 : decide ((0 : Int) < (m : Int)) = true := by have := HM.out; simp; omega
    have t1n : decide (0 < m) = true := by have := HM.out; simp; omega
    go_enter Tryd.func62, Tryd.ntmps62
    go_wp2
    go_ret
    have e : d.count = (0, { d with after := m }) := by unfold Dev.count; rw [← HN.out, if_neg h0, if_pos h1, ← HM.out]
    rw [e]
    exact ⟨rfl, ⟨g1, g2, wv, HD1.out⟩, HD.out.keeps (HO.out.mono (fun _ _ h => .inl h)) HD1.out (fun _ h => .inl h)⟩
  · have hm0 : m = 0 := by have := HM.out; omega
    subst hm0
    have t1 : decide ((0 : Int) < 0) = false := by decide
    obtain ⟨x5, hx5⟩ : ∃ x : Int, x = (d.keep : Int) := ⟨_, rfl⟩
    have c5' : (w.setCell ⟨P, 4, none⟩ (.int .i64 0)).cell? ⟨P, 5, none⟩ = some (.int .u64 (d.keep : Int)) := HD1.out.cells.2.2.2.2.2.1
    have c6' : (w.setCell ⟨P, 4, none⟩ (.int .i64 0)).cell? ⟨P, 6, none⟩ = some (.int .i64 d.torn) := HD1.out.cells.2.2.2.2.2.2.1
    have c7' : (w.setCell ⟨P, 4, none⟩ (.int .i64 0)).cell? ⟨P, 7, none⟩ = some (.int .i64 d.bytes) := HD1.out.cells.2.2.2.2.2.2.2
    have e : d.count = (13, d.crash d.keep d.torn d.bytes) := by unfold Dev.count; rw [← HN.out, if_neg h0, if_neg h1]
    rw [e]
    go_enter Tryd.func62, Tryd.ntmps62
    repeat (first | go_values | go_skip | go_guarded | go_step | go_upon)
    obtain ⟨W1, hW1⟩ : ∃ W, W = w.setCell ⟨P, 4, none⟩ (.int .i64 0) := ⟨_, rfl⟩
    have HDZ : Hid (DevIn W1 B P g1 g2 wv { d with after := 0 }) := Lib.hid (by rw [hW1]; exact HD1.out)
    have HOZ : Hid (Only (fun k => k = P) w W1) := Lib.hid (by rw [hW1]; exact HO.out)
    rw [← hW1] at c5' c6' c7' ⊢
    clear hW1 c4 c5 c6 c7
    refine wp_region_still_tail 16 (by kernel_rfl) (by kernel_rfl) ?_
    simp only [List.take_succ_cons, List.take_zero, List.drop_succ_cons, List.drop_zero]
    repeat still_step
    refine wpStill_nil ?_
    change wpList _ _ _ _ _ W1.drew
    have HDW : Hid (DevAt W1.drew B P { d with after := 0 }) := Lib.hid (DevAt.drew ⟨g1, g2, wv, HDZ.out⟩)
    have hBW : B ≤ W1.drew.heap.size := Nat.le_trans hB HOZ.out.size
    repeat (first | (go_at_call 13; refine (crash_any HDW.out hk).mono ?_; rintro e w5 ⟨rfl, hd5, hk5⟩; have HD5 := Lib.hid hd5; have HK5 := Lib.hid hk5; clear hd5 hk5; dsimp only) | go_values | go_skip | go_guarded | go_step | go_upon)
    go_ret
    have k1 : Kept P w W1 := HD.out.keeps (HOZ.out.mono (fun _ _ h => .inl h)) HDZ.out (fun _ h => .inl h)
    exact ⟨rfl, HD5.out, (k1.trans (kept_drew P W1)).trans HK5.out⟩
end Go.Proofs.YtcdgbmeechnpiaaDoor
/- A writing, of a device that may be armed. -/
namespace Go.Proofs.YtcdgbmeechnpiaaDoor
open Go.RowKit

set_option maxHeartbeats 16000000 in
set_option maxRecDepth 1000000 in
theorem write_any {w : World} {B P at_ : Nat} {v : Value} {bs : List Nat} {d : Dev} (h : DevAt w B P d) (hB : B ≤ w.heap.size) (hv : Lies w v bs) (hup : d.down = false) (ha : d.after < 9223372036854775808) (hkp : d.keep < 18446744073709551616) (hlt : at_ < d.lies.length) (hlen : bs.length ≤ 64) (hm : d.waits.length ≤ 1000000000) :
    Calls Tryd.prog 51 #[.pointer (some ⟨P, 0, none⟩), .int .i64 (at_ : Int), v] w fun e w' => e = .returned (.int .i64 (d.write at_ bs).count.1) ∧ DevAt w' B P (d.write at_ bs).count.2 ∧ Kept P w w' := by
  have HA := Lib.hid h
  obtain ⟨g1, g2, wv, h⟩ := h
  obtain ⟨_, c1, c2, _⟩ := h.cells
  have f2 := h.free 2
  obtain ⟨a, c, rfl, hform⟩ := lies_form hv
  have HF := Lib.hid hform
  have HD := Lib.hid h
  have hn8 : d.lies.length ≤ 8192 := h.ok.size
  obtain ⟨n, hn⟩ : ∃ n, n = d.lies.length := ⟨_, rfl⟩
  obtain ⟨l, hl⟩ : ∃ l, l = bs.length := ⟨_, rfl⟩
  have HN := Lib.hid hn
  have HL := Lib.hid hl
  rw [← hn] at c1 hlt hn8
  rw [← hl] at hlen ⊢
  clear h hn hl hv hform
  have t1 : decide ((at_ : Int) < 0) = false := by simp
  have t2 : decide ((n : Int) ≤ (at_ : Int)) = false := by simp; omega
  have t2' : decide ((at_ : Int) ≥ (n : Int)) = false := by simp; omega
  have t3 : decide ((64 : Int) < (l : Int)) = false := by simp; omega
  obtain ⟨Z, hZ⟩ : ∃ Z : List Nat, Z = List.replicate 64 0 := ⟨_, rfl⟩
  have HZ := Lib.hid hZ
  have HZL : Hid (Z.length = 64) := Lib.hid (by rw [hZ]; simp)
  clear hZ
  go_enter Tryd.func51, Tryd.ntmps51
  repeat (first | (refine wpList_alloc_zero rfl 69 rfl (u8s Z) (by rw [HZ.out]; kernel_rfl) ?_) | (refine wpList_copy_splice rfl (.tmp 24) (.tmp 25) 31 31 rfl 5 Tryd.underlying31 (by kernel_rfl) _ a 64 64 l c rfl rfl w'.heap.size 0 (u8s Z) 69 (arr_new w' _ (u8s Z)) (u8s bs) (by rw [u8s_length, ← HL.out]; exact (Nat.min_eq_left hlen).symm) (fun hp => ⟨rfl, src_of HF.out (by rw [u8s_length] at hp; exact fun e => by rw [e] at hp; simp at hp) ((Below.refl _ w').alloc (Nat.le_refl _) _)⟩) (by rw [u8s_length, u8s_length, HZL.out, ← HL.out]; omega) (u8s_one _) w'.heap.size w' ((Below.refl _ w').alloc (Nat.le_refl _) _) (Nat.le_refl _) ?_; intro W2 hA2 hB2) | (go_at_call 18; refine (down_any HA.out).mono ?_; rw [hup]; rintro e w' ⟨rfl, rfl⟩; dsimp only) | (go_at_call 21; refine (len_any HA.out).mono ?_; rw [← HN.out]; rintro e w' ⟨rfl, rfl⟩; dsimp only) | go_values | go_skip | go_guarded | go_step | go_upon)
  obtain ⟨S0, hS0⟩ : ∃ S, S = w'.heap.size := ⟨_, rfl⟩
  obtain ⟨pb, hpb⟩ : ∃ p, p = padB bs := ⟨_, rfl⟩
  have hpl : pb.length = 64 := by rw [hpb]; exact padB_length (by rw [← HL.out]; exact hlen)
  have HA2 : Hid (Arr W2 S0 69 (u8s pb)) := Lib.hid (by
    have h := hA2.out
    rw [u8s_splice, HZ.out, padB_splice (by rw [← HL.out]; exact hlen), ← hpb, ← hS0] at h
    exact h)
  rw [← hS0] at ⊢
  have HB2 := Lib.hid hB2
  have HSS : Hid ((Tryd.prog.info? 69).map (·.size) = some (u8s pb).length) := Lib.hid (sizeS (by rw [u8s_length]; exact hpl))
  have HD2 : Hid (DevIn W2 B P g1 g2 wv d) := Lib.hid (HD.out.only (only_beyond (S := fun _ => False) hB2) (fun _ _ h => h))
  have hB2' : B ≤ W2.heap.size := Nat.le_trans hB hB2.size
  have hwne : wv.ownBlock ≠ some S0 := fun e => by
    have h1 := (HD.out.waits.lt _ e).2
    omega
  have HPB := Lib.hid hpb
  have HS0 := Lib.hid hS0
  clear hA2 hB2 c1 c2 f2 hpb hS0
  refine wp_region_held_drew (S := fun W => Arr W S0 69 (u8s pb)) (by kernel_rfl) (Arr.only (w := W2) HA2.out (Only.drew (fun _ => False) W2) (fun h => h)) (fun hSd => ?_)
  have HSD := Lib.hid hSd
  clear hSd
  refine anyH_take (i := 0) (some 27) (v := _) rfl rfl (by kernel_rfl) (by kernel_rfl) (by kernel_rfl) (fun _ _ _ h => h) (by rfl) (HSD.out) (by intro w hSw; go_simp; try with_reducible rfl) ?_
  (try simp only [Act.put, List.setIfInBounds_toArray, List.set_cons_zero, List.set_cons_succ])
  refine anyH_take (i := 1) (some 28) (v := _) rfl rfl (by kernel_rfl) (by kernel_rfl) (by kernel_rfl) (fun _ _ _ h => h) (by rfl) (HSD.out) (by intro w hSw; go_simp; try with_reducible rfl) ?_
  (try simp only [Act.put, List.setIfInBounds_toArray, List.set_cons_zero, List.set_cons_succ])
  refine anyH_take (i := 2) (some 29) (v := _) rfl rfl (by kernel_rfl) (by kernel_rfl) (by kernel_rfl) (fun _ _ _ h => h) (by rfl) (HSD.out) (by intro w hSw; go_simp; try with_reducible rfl) ?_
  (try simp only [Act.put, List.setIfInBounds_toArray, List.set_cons_zero, List.set_cons_succ])
  refine anyH_take (i := 3) (some 30) (v := _) rfl rfl (by kernel_rfl) (by kernel_rfl) (by kernel_rfl) (fun _ _ _ h => h) (by rfl) (HSD.out) (by intro w hSw; go_simp; try with_reducible rfl) ?_
  (try simp only [Act.put, List.setIfInBounds_toArray, List.set_cons_zero, List.set_cons_succ])
  refine anyH_take (i := 5) (some 32) (v := _) rfl rfl (by kernel_rfl) (by kernel_rfl) (by kernel_rfl) (fun _ _ _ h => h) (by rfl) (HSD.out) (by intro w hSw; go_simp; try with_reducible rfl) ?_
  (try simp only [Act.put, List.setIfInBounds_toArray, List.set_cons_zero, List.set_cons_succ])
  refine anyH_take (i := 6) (some 33) (v := _) rfl rfl (by kernel_rfl) (by kernel_rfl) (by kernel_rfl) (fun _ _ _ h => h) (by rfl) (HSD.out) (fun W hW => run_load_part W 69 (.tmp 7) rfl S0 0 rfl (u8s pb) _ (fun j v hv => by rw [Nat.zero_add]; exact hW.cell hv) Tryd.underlying69 rfl HSS.out) ?_
  (try simp only [Act.put, List.setIfInBounds_toArray, List.set_cons_zero, List.set_cons_succ])
  refine anyH_take (i := 7) (some 34) (v := _) rfl rfl (by kernel_rfl) (by kernel_rfl) (by kernel_rfl) (fun _ _ _ h => h) (by rfl) (HSD.out) (fun W _ => run_built_op W 71 #[(0, .tmp 32), (1, .tmp 33)] rfl _ (by simp [Act.eval]) _ (built_writing (at_ : Int) (u8s pb) (by rw [u8s_length]; exact hpl))) ?_
  (try simp only [Act.put, List.setIfInBounds_toArray, List.set_cons_zero, List.set_cons_succ])
  obtain ⟨X, hX⟩ : ∃ X, X = wcell (at_, pb) := ⟨_, rfl⟩
  have hXL : X.length = 65 := by rw [hX]; exact wcell_length hpl
  rw [show (Value.int .i64 (at_ : Int) :: u8s pb) = X from hX.symm]
  have HX := Lib.hid hX
  clear hX
  refine wpAnyH_ready (rs := [4, 8]) (by kernel_rfl) (by simp) (AllReadyH.cons rfl (fun K hK => ?_) (AllReadyH.cons rfl (fun K hK => ?_) AllReadyH.nil))
  · refine step_runs (some 31) rfl rfl (run_load_one _ 53 (.tmp 30) rfl ⟨P, 2, none⟩ rfl wv _ (HD2.out.cells.2.2.1 : W2.drew.cell? _ = _) Tryd.underlying53 rfl) ?_
    refine hK.out _ _ (HSD.out) (fun _ => ?_)
    clear hK K
    (try simp only [Act.put, List.setIfInBounds_toArray, List.set_cons_zero, List.set_cons_succ])
    refine wpAnyH_ready (rs := [8]) (by kernel_rfl) (by simp) (AllReadyH.cons rfl (fun K hK => ?_) AllReadyH.nil)
    refine step_runs (some 35) rfl rfl (run_row_op _ 53 71 #[(0, .tmp 34)] rfl X 65 (by simp [Act.eval]) Tryd.underlying53 _ 72 infoW hXL (by omega) (by omega)) ?_
    refine hK.out _ _ (Arr.alloc (w := W2.drew) HSD.out _) (fun _ => ?_)
    clear hK K
    (try simp only [Act.put, List.setIfInBounds_toArray, List.set_cons_zero, List.set_cons_succ])
    refine wpAnyH_ready (rs := [9]) (by kernel_rfl) (by simp) (AllReadyH.cons rfl (fun K hK => ?_) AllReadyH.nil)
    refine step_append_w (some 36) rfl rfl (.tmp 31) (.tmp 35) rfl B wv _ _ rfl (HD2.out.waits.drew.alloc _) W2.drew.heap.size X rfl hXL (arr_new W2.drew _ X) (by rw [HX.out]; exact wcell_one _) hm (by simp; omega) _ rfl ?_
    intro g3 cap3 W4 hown4 hgrow4 hat4 hlt4
    have HS4 : Hid (Arr W4 S0 69 (u8s pb)) := Lib.hid ((Arr.alloc (w := W2.drew) HSD.out _).only (Only.grown hgrow4) (fun e => hwne e))
    have HP4 : Hid (Arr W4 P 57 (dcells g1 g2 wv d)) := Lib.hid ((Arr.alloc (w := W2.drew) HD2.out.blk _).only (Only.grown hgrow4) (fun e => HD2.out.neW e))
    have HO4 := Lib.hid hown4
    have HG4 := Lib.hid hgrow4
    have HAT4 := Lib.hid hat4
    clear hown4 hgrow4 hat4
    refine hK.out _ _ (HS4.out) (fun _ => ?_)
    clear hK K
    (try simp only [Act.put, List.setIfInBounds_toArray, List.set_cons_zero, List.set_cons_succ])
    refine anyH_take (i := 10) (some 37) (v := _) rfl rfl (by kernel_rfl) (by kernel_rfl) (by kernel_rfl) (fun _ _ _ h => h) (by rfl) (HS4.out) (by intro w hSw; go_simp; try with_reducible rfl) ?_
    (try simp only [Act.put, List.setIfInBounds_toArray, List.set_cons_zero, List.set_cons_succ])
    refine anyH_take (i := 11) (some 38) (v := _) rfl rfl (by kernel_rfl) (by kernel_rfl) (by kernel_rfl) (fun _ _ _ h => h) (by rfl) (HS4.out) (by intro w hSw; go_simp; try with_reducible rfl) ?_
    (try simp only [Act.put, List.setIfInBounds_toArray, List.set_cons_zero, List.set_cons_succ])
    refine wpAnyH_ready (rs := [12]) (by kernel_rfl) (by simp) (AllReadyH.cons rfl (fun K hK => ?_) AllReadyH.nil)
    refine step_store_one rfl rfl 53 (.tmp 38) (.tmp 36) rfl P 2 (.slice (some ⟨g3, 0, none⟩) (d.waits.length + 1) cap3) rfl rfl rfl rfl 57 _ HP4.out (by kernel_rfl) (by simp [dcells]) ?_
    refine hK.out _ _ (HS4.out.only (S := fun k => k = P) ⟨rfl, rfl, rfl, by simp, fun k hk hs => setRow_other W4 _ _ _ hs⟩ (fun e => arr_ne HP4.out HS4.out (by decide) e.symm)) (fun _ => ?_)
    clear hK K
    (try simp only [Act.put, List.setIfInBounds_toArray, List.set_cons_zero, List.set_cons_succ])
    refine wpAnyH_done (by kernel_rfl) ?_ _
    obtain ⟨V, hV⟩ : ∃ V, V = Value.slice (some ⟨g3, 0, none⟩) (d.waits.length + 1) cap3 := ⟨_, rfl⟩
    obtain ⟨W5, hW5⟩ : ∃ W5, W5 = W4.setRow P ((dcells g1 g2 wv d).set 2 (.slice (some ⟨g3, 0, none⟩) (d.waits.length + 1) cap3)).toArray := ⟨_, rfl⟩
    rw [← hW5]
    have HO5 : Hid (Only (fun k => k = P) W4 W5) := Lib.hid (by rw [hW5]; exact ⟨rfl, rfl, rfl, by simp, fun k hk hs => setRow_other W4 _ _ _ hs⟩)
    have HP5 : Hid (Arr W5 P 57 ((dcells g1 g2 wv d).set 2 (.slice (some ⟨g3, 0, none⟩) (d.waits.length + 1) cap3))) := Lib.hid (by rw [hW5]; exact setRow_heap _ _ _ _ _ _ HP4.out)
    have b1 : W5.cell? ⟨P, 1, none⟩ = some (.slice (some ⟨g2, 0, none⟩) n n) := by rw [HN.out]; exact HP5.out.cell rfl
    have HS5 : Hid (∀ j v, (u8s pb)[j]? = some v → W5.cell? ⟨S0, 0 + j, none⟩ = some v) := Lib.hid (fun j v hv => by rw [Nat.zero_add]; exact (HS4.out.only HO5.out (fun e => arr_ne HP4.out HS4.out (by decide) e.symm)).cell hv)
    have HT5 : Hid (Arr W5 g2 69 (u8s d.told.flatten)) := Lib.hid (((Arr.alloc (w := W2.drew) HD2.out.told _).only (Only.grown HG4.out) (fun e => HD2.out.neW2 e)).only HO5.out (fun e => HD2.out.ne2 e.symm))
    clear hW5 hV
    repeat (first | go_values | go_skip | go_guarded | go_step | go_upon)
    refine wp_region_still_tail 7 (by kernel_rfl) (by kernel_rfl) ?_
    simp only [List.take_succ_cons, List.take_zero, List.drop_succ_cons, List.drop_zero]
    iterate 5 still_step
    refine wpStill_value rfl (run_load_part _ 69 (.tmp 7) rfl S0 0 rfl (u8s pb) _ HS5.out Tryd.underlying69 rfl HSS.out) ?_
    (try simp only [Act.put, List.setIfInBounds_toArray, List.set_cons_zero, List.set_cons_succ])
    repeat still_step
    refine wpStill_nil ?_
    change wpList _ _ _ _ _ W5.drew
    have HTL : Hid (d.told.flatten.length = n * 64) := Lib.hid (by rw [flat_length HD.out.ok.told, d.told_length, HN.out])
    have HNX : Hid ((d.write at_ bs).told.flatten = splice d.told.flatten (at_ * 64) pb) := Lib.hid (by rw [d.write_told, HPB.out, flat_set HD.out.ok.told (by rw [d.told_length, ← HN.out]; exact hlt) (padB_length (by rw [← HL.out]; exact hlen))])
    have hmul := Nat.mul_le_mul_right 64 (show at_ + 1 ≤ n from hlt)
    have HTD : Hid (Arr W5.drew g2 69 (u8s d.told.flatten)) := Lib.hid (Arr.only (w := W5) HT5.out (Only.drew (fun _ => False) W5) (fun h => h))
    refine wpList_store_part rfl 69 (.tmp 45) (.tmp 44) rfl g2 (at_ * 64) (u8s pb) rfl rfl 69 (u8s d.told.flatten) HTD.out HSS.out (by rw [u8s_length, u8s_length, HTL.out, hpl]; omega) (u8s_one _) ?_
    refine wpList_name ?_
    intro W6 hW6
    have HR6 : Hid (Arr W6 g2 69 (u8s (d.write at_ bs).told.flatten)) := Lib.hid (by
      rw [HNX.out, ← u8s_splice, hW6.out]
      exact setRow_heap _ _ _ _ _ _ HTD.out)
    have HO6 : Hid (Only (fun k => k = g2) W5 W6) := Lib.hid (by
      rw [hW6.out]
      exact ⟨rfl, rfl, rfl, by simp, fun k hk hs => setRow_other W5.drew _ _ _ hs⟩)
    have HEND := Lib.hid (write_end HD.out (by rw [← HN.out]; exact hlt) (by rw [← HL.out]; exact hlen) HB2.out HG4.out (by have h := HO4.out; rw [HX.out, HPB.out] at h; exact h) HAT4.out HO5.out HO6.out HP5.out HR6.out)
    clear hW6 b1
    go_wp2_with (go_at_call 62; refine (count_any HEND.out.1 (Nat.le_trans hB HEND.out.2.only.size) ha hkp).mono ?_; rintro e w9 ⟨rfl, hd9, hk9⟩; have HD9 := Lib.hid hd9; have HK9 := Lib.hid hk9; clear hd9 hk9)
    go_ret
    exact ⟨rfl, HD9.out, HEND.out.2.trans HK9.out⟩
  · refine step_runs (some 35) rfl rfl (run_row_op _ 53 71 #[(0, .tmp 34)] rfl X 65 (by simp [Act.eval]) Tryd.underlying53 _ 72 infoW hXL (by omega) (by omega)) ?_
    refine hK.out _ _ (Arr.alloc (w := W2.drew) HSD.out _) (fun _ => ?_)
    clear hK K
    (try simp only [Act.put, List.setIfInBounds_toArray, List.set_cons_zero, List.set_cons_succ])
    refine wpAnyH_ready (rs := [4]) (by kernel_rfl) (by simp) (AllReadyH.cons rfl (fun K hK => ?_) AllReadyH.nil)
    refine step_runs (some 31) rfl rfl (run_load_one _ 53 (.tmp 30) rfl ⟨P, 2, none⟩ rfl wv _ (by rw [← HD2.out.cells.2.2.1]; exact World.cell?_of_block (w := W2) (Below.heap_alloc _ _ _ (cell_lt HD2.out.cells.2.2.1))) Tryd.underlying53 rfl) ?_
    refine hK.out _ _ (Arr.alloc (w := W2.drew) HSD.out _) (fun _ => ?_)
    clear hK K
    (try simp only [Act.put, List.setIfInBounds_toArray, List.set_cons_zero, List.set_cons_succ])
    refine wpAnyH_ready (rs := [9]) (by kernel_rfl) (by simp) (AllReadyH.cons rfl (fun K hK => ?_) AllReadyH.nil)
    refine step_append_w (some 36) rfl rfl (.tmp 31) (.tmp 35) rfl B wv _ _ rfl (HD2.out.waits.drew.alloc _) W2.drew.heap.size X rfl hXL (arr_new W2.drew _ X) (by rw [HX.out]; exact wcell_one _) hm (by simp; omega) _ rfl ?_
    intro g3 cap3 W4 hown4 hgrow4 hat4 hlt4
    have HS4 : Hid (Arr W4 S0 69 (u8s pb)) := Lib.hid ((Arr.alloc (w := W2.drew) HSD.out _).only (Only.grown hgrow4) (fun e => hwne e))
    have HP4 : Hid (Arr W4 P 57 (dcells g1 g2 wv d)) := Lib.hid ((Arr.alloc (w := W2.drew) HD2.out.blk _).only (Only.grown hgrow4) (fun e => HD2.out.neW e))
    have HO4 := Lib.hid hown4
    have HG4 := Lib.hid hgrow4
    have HAT4 := Lib.hid hat4
    clear hown4 hgrow4 hat4
    refine hK.out _ _ (HS4.out) (fun _ => ?_)
    clear hK K
    (try simp only [Act.put, List.setIfInBounds_toArray, List.set_cons_zero, List.set_cons_succ])
    refine anyH_take (i := 10) (some 37) (v := _) rfl rfl (by kernel_rfl) (by kernel_rfl) (by kernel_rfl) (fun _ _ _ h => h) (by rfl) (HS4.out) (by intro w hSw; go_simp; try with_reducible rfl) ?_
    (try simp only [Act.put, List.setIfInBounds_toArray, List.set_cons_zero, List.set_cons_succ])
    refine anyH_take (i := 11) (some 38) (v := _) rfl rfl (by kernel_rfl) (by kernel_rfl) (by kernel_rfl) (fun _ _ _ h => h) (by rfl) (HS4.out) (by intro w hSw; go_simp; try with_reducible rfl) ?_
    (try simp only [Act.put, List.setIfInBounds_toArray, List.set_cons_zero, List.set_cons_succ])
    refine wpAnyH_ready (rs := [12]) (by kernel_rfl) (by simp) (AllReadyH.cons rfl (fun K hK => ?_) AllReadyH.nil)
    refine step_store_one rfl rfl 53 (.tmp 38) (.tmp 36) rfl P 2 (.slice (some ⟨g3, 0, none⟩) (d.waits.length + 1) cap3) rfl rfl rfl rfl 57 _ HP4.out (by kernel_rfl) (by simp [dcells]) ?_
    refine hK.out _ _ (HS4.out.only (S := fun k => k = P) ⟨rfl, rfl, rfl, by simp, fun k hk hs => setRow_other W4 _ _ _ hs⟩ (fun e => arr_ne HP4.out HS4.out (by decide) e.symm)) (fun _ => ?_)
    clear hK K
    (try simp only [Act.put, List.setIfInBounds_toArray, List.set_cons_zero, List.set_cons_succ])
    refine wpAnyH_done (by kernel_rfl) ?_ _
    obtain ⟨V, hV⟩ : ∃ V, V = Value.slice (some ⟨g3, 0, none⟩) (d.waits.length + 1) cap3 := ⟨_, rfl⟩
    obtain ⟨W5, hW5⟩ : ∃ W5, W5 = W4.setRow P ((dcells g1 g2 wv d).set 2 (.slice (some ⟨g3, 0, none⟩) (d.waits.length + 1) cap3)).toArray := ⟨_, rfl⟩
    rw [← hW5]
    have HO5 : Hid (Only (fun k => k = P) W4 W5) := Lib.hid (by rw [hW5]; exact ⟨rfl, rfl, rfl, by simp, fun k hk hs => setRow_other W4 _ _ _ hs⟩)
    have HP5 : Hid (Arr W5 P 57 ((dcells g1 g2 wv d).set 2 (.slice (some ⟨g3, 0, none⟩) (d.waits.length + 1) cap3))) := Lib.hid (by rw [hW5]; exact setRow_heap _ _ _ _ _ _ HP4.out)
    have b1 : W5.cell? ⟨P, 1, none⟩ = some (.slice (some ⟨g2, 0, none⟩) n n) := by rw [HN.out]; exact HP5.out.cell rfl
    have HS5 : Hid (∀ j v, (u8s pb)[j]? = some v → W5.cell? ⟨S0, 0 + j, none⟩ = some v) := Lib.hid (fun j v hv => by rw [Nat.zero_add]; exact (HS4.out.only HO5.out (fun e => arr_ne HP4.out HS4.out (by decide) e.symm)).cell hv)
    have HT5 : Hid (Arr W5 g2 69 (u8s d.told.flatten)) := Lib.hid (((Arr.alloc (w := W2.drew) HD2.out.told _).only (Only.grown HG4.out) (fun e => HD2.out.neW2 e)).only HO5.out (fun e => HD2.out.ne2 e.symm))
    clear hW5 hV
    repeat (first | go_values | go_skip | go_guarded | go_step | go_upon)
    refine wp_region_still_tail 7 (by kernel_rfl) (by kernel_rfl) ?_
    simp only [List.take_succ_cons, List.take_zero, List.drop_succ_cons, List.drop_zero]
    iterate 5 still_step
    refine wpStill_value rfl (run_load_part _ 69 (.tmp 7) rfl S0 0 rfl (u8s pb) _ HS5.out Tryd.underlying69 rfl HSS.out) ?_
    (try simp only [Act.put, List.setIfInBounds_toArray, List.set_cons_zero, List.set_cons_succ])
    repeat still_step
    refine wpStill_nil ?_
    change wpList _ _ _ _ _ W5.drew
    have HTL : Hid (d.told.flatten.length = n * 64) := Lib.hid (by rw [flat_length HD.out.ok.told, d.told_length, HN.out])
    have HNX : Hid ((d.write at_ bs).told.flatten = splice d.told.flatten (at_ * 64) pb) := Lib.hid (by rw [d.write_told, HPB.out, flat_set HD.out.ok.told (by rw [d.told_length, ← HN.out]; exact hlt) (padB_length (by rw [← HL.out]; exact hlen))])
    have hmul := Nat.mul_le_mul_right 64 (show at_ + 1 ≤ n from hlt)
    have HTD : Hid (Arr W5.drew g2 69 (u8s d.told.flatten)) := Lib.hid (Arr.only (w := W5) HT5.out (Only.drew (fun _ => False) W5) (fun h => h))
    refine wpList_store_part rfl 69 (.tmp 45) (.tmp 44) rfl g2 (at_ * 64) (u8s pb) rfl rfl 69 (u8s d.told.flatten) HTD.out HSS.out (by rw [u8s_length, u8s_length, HTL.out, hpl]; omega) (u8s_one _) ?_
    refine wpList_name ?_
    intro W6 hW6
    have HR6 : Hid (Arr W6 g2 69 (u8s (d.write at_ bs).told.flatten)) := Lib.hid (by
      rw [HNX.out, ← u8s_splice, hW6.out]
      exact setRow_heap _ _ _ _ _ _ HTD.out)
    have HO6 : Hid (Only (fun k => k = g2) W5 W6) := Lib.hid (by
      rw [hW6.out]
      exact ⟨rfl, rfl, rfl, by simp, fun k hk hs => setRow_other W5.drew _ _ _ hs⟩)
    have HEND := Lib.hid (write_end HD.out (by rw [← HN.out]; exact hlt) (by rw [← HL.out]; exact hlen) HB2.out HG4.out (by have h := HO4.out; rw [HX.out, HPB.out] at h; exact h) HAT4.out HO5.out HO6.out HP5.out HR6.out)
    clear hW6 b1
    go_wp2_with (go_at_call 62; refine (count_any HEND.out.1 (Nat.le_trans hB HEND.out.2.only.size) ha hkp).mono ?_; rintro e w9 ⟨rfl, hd9, hk9⟩; have HD9 := Lib.hid hd9; have HK9 := Lib.hid hk9; clear hd9 hk9)
    go_ret
    exact ⟨rfl, HD9.out, HEND.out.2.trans HK9.out⟩
end Go.Proofs.YtcdgbmeechnpiaaDoor
/- A new device. -/
namespace Go.Proofs.YtcdgbmeechnpiaaDoor
open Go.RowKit

theorem built_dev (n g1 g2 : Nat) : Tryd.prog.built 57 [(0, .slice (some ⟨g1, 0, none⟩) n n), (1, .slice (some ⟨g2, 0, none⟩) n n)] = some (dcells g1 g2 (.slice none 0 0) (Dev.fresh n)).toArray := by
  have h : ∀ ps, Tryd.prog.built 57 ps = Instr.fill (#[((0 : Nat), (1 : Nat)), (1, 1), (2, 1), (3, 1), (4, 1), (5, 3)][·]?) [.slice none 0 0, .slice none 0 0, .slice none 0 0, .bool false, .int .i64 0, .int .u64 0, .int .i64 0, .int .i64 0].toArray ps := by intro ps; kernel_rfl
  rw [h, fill_next _ _ 0 0 1 _ [.slice (some ⟨g1, 0, none⟩) n n] _ rfl rfl rfl (by simp), fill_last _ _ 1 1 1 _ [.slice (some ⟨g2, 0, none⟩) n n] rfl rfl rfl (by simp [splice])]
  simp [splice, dcells, Dev.fresh]
theorem fresh_in {w : World} {B P g1 g2 n : Nat} (h1 : 1 ≤ n) (h2 : n ≤ 8192) (hP : Arr w P 57 (dcells g1 g2 (.slice none 0 0) (Dev.fresh n))) (ha : Arr w g1 69 (u8s (List.replicate n (List.replicate 64 0)).flatten)) (hb : Arr w g2 69 (u8s (List.replicate n (List.replicate 64 0)).flatten))
    (hne : g1 ≠ g2) (l0 : B ≤ P) (l1 : B ≤ g1) (l2 : B ≤ g2) : DevAt w B P (Dev.fresh n) :=
  ⟨g1, g2, _, hP, ha, hb, World.ownsRow_nil _ _ _ _, hne, ⟨l0, l1, l2⟩, Dev.fresh_ok h1 h2⟩

theorem new_end {w W1 W2 : World} {ga gb n : Nat} (ha : Arr W1 ga 69 (u8s (List.replicate n (List.replicate 64 0)).flatten)) (hb : Below w.heap.size w W1) (hga : ga = w.heap.size)
    (ha2 : Arr W2 gb 69 (u8s (List.replicate n (List.replicate 64 0)).flatten)) (hb2 : Below W1.heap.size W1 W2) (hgb : gb = W1.heap.size) :
    Below w.heap.size w W2 ∧ w.heap.size ≤ W2.heap.size ∧ ga ≠ gb ∧ w.heap.size ≤ ga ∧ w.heap.size ≤ gb ∧ (∀ o, Arr (W2.alloc o) ga 69 (u8s (List.replicate n (List.replicate 64 0)).flatten)) ∧ (∀ o, Arr (W2.alloc o) gb 69 (u8s (List.replicate n (List.replicate 64 0)).flatten)) := by
  have l1 := ha.lt
  have l2 := hb.size
  have l3 := hb2.size
  have e : Arr W2 ga 69 (u8s (List.replicate n (List.replicate 64 0)).flatten) := ha.only (only_beyond (S := fun _ => False) hb2) (fun h => h)
  exact ⟨hb.trans ⟨hb2.os, hb2.tape, hb2.output, hb2.size, fun k hk => hb2.block k (by omega)⟩, by omega, by omega, by omega, by omega, fun o => e.alloc o, fun o => ha2.alloc o⟩

set_option maxRecDepth 1000000 in
set_option maxHeartbeats 4000000 in
theorem new_ok {n : Nat} (h1 : 1 ≤ n) (h2 : n ≤ 8192) (w : World) : Calls Tryd.prog 6 #[.int .i64 (n : Int)] w fun e w' => ∃ P, e = .returned (.tuple #[.pointer (some ⟨P, 0, none⟩), .int .i64 0]) ∧ DevAt w' w.heap.size P (Dev.fresh n) ∧ Below w.heap.size w w' := by
  have t1 : decide ((n : Int) < 1) = false := by simp; omega
  have t2 : decide ((8192 : Int) < (n : Int)) = false := by simp; omega
  go_enter Tryd.func6, Tryd.ntmps6
  repeat (first | go_values | go_skip | go_guarded | go_step | go_upon)
  refine wp_region_held_drew (S := fun _ => True) (by kernel_rfl) trivial (fun _ => ?_)
  refine anyH_take (i := 0) (some 10) (v := _) rfl rfl (by kernel_rfl) (by kernel_rfl) (by kernel_rfl) (fun _ _ _ h => h) (by rfl) (trivial) (by intro w hSw; go_simp; try with_reducible rfl) ?_
  (try simp only [Act.put, List.setIfInBounds_toArray, List.set_cons_zero, List.set_cons_succ])
  refine anyH_take (i := 2) (some 12) (v := _) rfl rfl (by kernel_rfl) (by kernel_rfl) (by kernel_rfl) (fun _ _ _ h => h) (by rfl) (trivial) (by intro w hSw; go_simp; try with_reducible rfl) ?_
  (try simp only [Act.put, List.setIfInBounds_toArray, List.set_cons_zero, List.set_cons_succ])
  refine wpAnyH_ready (rs := [1, 3]) (by kernel_rfl) (by simp) (AllReadyH.cons rfl (fun K hK => ?_) (AllReadyH.cons rfl (fun K hK => ?_) AllReadyH.nil))
  · refine step_make_sect (some 11) rfl rfl (.tmp 10) (.tmp 10) rfl n h2 rfl rfl ?_
    intro W1 ga haga hbga hnga
    have HAga := Lib.hid haga
    have HBga := Lib.hid hbga
    have HNga := Lib.hid hnga
    clear haga hbga hnga
    refine hK.out _ _ (trivial) (fun _ => ?_)
    clear hK K
    (try simp only [Act.put, List.setIfInBounds_toArray, List.set_cons_zero, List.set_cons_succ])
    refine wpAnyH_ready (rs := [3]) (by kernel_rfl) (by simp) (AllReadyH.cons rfl (fun K hK => ?_) AllReadyH.nil)
    refine step_make_sect (some 13) rfl rfl (.tmp 12) (.tmp 12) rfl n h2 rfl rfl ?_
    intro W2 gb hagb hbgb hngb
    have HAgb := Lib.hid hagb
    have HBgb := Lib.hid hbgb
    have HNgb := Lib.hid hngb
    clear hagb hbgb hngb
    refine hK.out _ _ (trivial) (fun _ => ?_)
    clear hK K
    (try simp only [Act.put, List.setIfInBounds_toArray, List.set_cons_zero, List.set_cons_succ])
    refine anyH_take (i := 4) (some 14) (v := _) rfl rfl (by kernel_rfl) (by kernel_rfl) (by kernel_rfl) (fun _ _ _ h => h) (by rfl) (trivial) (fun W _ => run_built_op W 57 #[(0, .tmp 11), (1, .tmp 13)] rfl _ (by simp [Act.eval]) _ (built_dev n ga gb)) ?_
    (try simp only [Act.put, List.setIfInBounds_toArray, List.set_cons_zero, List.set_cons_succ])
    refine wpAnyH_ready (rs := [5]) (by kernel_rfl) (by simp) (AllReadyH.cons rfl (fun K hK => ?_) AllReadyH.nil)
    refine step_runs (some 15) rfl rfl (run_box_op _ 57 (.tmp 14) rfl _ rfl) ?_
    refine hK.out _ _ (trivial) (fun _ => ?_)
    clear hK K
    (try simp only [Act.put, List.setIfInBounds_toArray, List.set_cons_zero, List.set_cons_succ])
    refine anyH_take (i := 6) (some 2) (v := _) rfl rfl (by kernel_rfl) (by kernel_rfl) (by kernel_rfl) (fun _ _ _ h => h) (by rfl) (trivial) (by intro w hSw; go_simp; try with_reducible rfl) ?_
    (try simp only [Act.put, List.setIfInBounds_toArray, List.set_cons_zero, List.set_cons_succ])
    refine anyH_take (i := 7) (some 3) (v := _) rfl rfl (by kernel_rfl) (by kernel_rfl) (by kernel_rfl) (fun _ _ _ h => h) (by rfl) (trivial) (by intro w hSw; go_simp; try with_reducible rfl) ?_
    (try simp only [Act.put, List.setIfInBounds_toArray, List.set_cons_zero, List.set_cons_succ])
    refine wpAnyH_done (by kernel_rfl) ?_ _
    repeat (first | go_values | go_skip | go_guarded | go_step | go_upon)
    go_ret2
    obtain ⟨a1, a2, a3, a4, a5, a6, a7⟩ := new_end (w := w) HAga.out (below_undrew HBga.out) HNga.out HAgb.out HBgb.out HNgb.out
    exact ⟨_, rfl, fresh_in h1 h2 (arr_new W2 _ _) (a6 _) (a7 _) a3 a2 a4 a5, a1.alloc a2 _⟩
  · refine step_make_sect (some 13) rfl rfl (.tmp 12) (.tmp 12) rfl n h2 rfl rfl ?_
    intro W1 ga haga hbga hnga
    have HAga := Lib.hid haga
    have HBga := Lib.hid hbga
    have HNga := Lib.hid hnga
    clear haga hbga hnga
    refine hK.out _ _ (trivial) (fun _ => ?_)
    clear hK K
    (try simp only [Act.put, List.setIfInBounds_toArray, List.set_cons_zero, List.set_cons_succ])
    refine wpAnyH_ready (rs := [1]) (by kernel_rfl) (by simp) (AllReadyH.cons rfl (fun K hK => ?_) AllReadyH.nil)
    refine step_make_sect (some 11) rfl rfl (.tmp 10) (.tmp 10) rfl n h2 rfl rfl ?_
    intro W2 gb hagb hbgb hngb
    have HAgb := Lib.hid hagb
    have HBgb := Lib.hid hbgb
    have HNgb := Lib.hid hngb
    clear hagb hbgb hngb
    refine hK.out _ _ (trivial) (fun _ => ?_)
    clear hK K
    (try simp only [Act.put, List.setIfInBounds_toArray, List.set_cons_zero, List.set_cons_succ])
    refine anyH_take (i := 4) (some 14) (v := _) rfl rfl (by kernel_rfl) (by kernel_rfl) (by kernel_rfl) (fun _ _ _ h => h) (by rfl) (trivial) (fun W _ => run_built_op W 57 #[(0, .tmp 11), (1, .tmp 13)] rfl _ (by simp [Act.eval]) _ (built_dev n gb ga)) ?_
    (try simp only [Act.put, List.setIfInBounds_toArray, List.set_cons_zero, List.set_cons_succ])
    refine wpAnyH_ready (rs := [5]) (by kernel_rfl) (by simp) (AllReadyH.cons rfl (fun K hK => ?_) AllReadyH.nil)
    refine step_runs (some 15) rfl rfl (run_box_op _ 57 (.tmp 14) rfl _ rfl) ?_
    refine hK.out _ _ (trivial) (fun _ => ?_)
    clear hK K
    (try simp only [Act.put, List.setIfInBounds_toArray, List.set_cons_zero, List.set_cons_succ])
    refine anyH_take (i := 6) (some 2) (v := _) rfl rfl (by kernel_rfl) (by kernel_rfl) (by kernel_rfl) (fun _ _ _ h => h) (by rfl) (trivial) (by intro w hSw; go_simp; try with_reducible rfl) ?_
    (try simp only [Act.put, List.setIfInBounds_toArray, List.set_cons_zero, List.set_cons_succ])
    refine anyH_take (i := 7) (some 3) (v := _) rfl rfl (by kernel_rfl) (by kernel_rfl) (by kernel_rfl) (fun _ _ _ h => h) (by rfl) (trivial) (by intro w hSw; go_simp; try with_reducible rfl) ?_
    (try simp only [Act.put, List.setIfInBounds_toArray, List.set_cons_zero, List.set_cons_succ])
    refine wpAnyH_done (by kernel_rfl) ?_ _
    repeat (first | go_values | go_skip | go_guarded | go_step | go_upon)
    go_ret2
    obtain ⟨a1, a2, a3, a4, a5, a6, a7⟩ := new_end (w := w) HAga.out (below_undrew HBga.out) HNga.out HAgb.out HBgb.out HNgb.out
    exact ⟨_, rfl, fresh_in h1 h2 (arr_new W2 _ _) (a7 _) (a6 _) (fun h => a3 h.symm) a2 a5 a4, a1.alloc a2 _⟩
end Go.Proofs.YtcdgbmeechnpiaaDoor
