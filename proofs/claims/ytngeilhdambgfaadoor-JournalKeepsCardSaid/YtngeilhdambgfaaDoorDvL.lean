/- Devices as plain lists: sectors, what waits, what a crash leaves. No function of the program. -/
import Derived.Test.YtngeilhdambgfaaDoorGen
namespace Go.Proofs.YtngeilhdambgfaaDoor
open Go.RowKit

/-! ### Sectors, one behind the other -/
def Sect (L : List (List Nat)) : Prop := ∀ s ∈ L, s.length = 64
theorem Sect.tail {s : List Nat} {L : List (List Nat)} (h : Sect (s :: L)) : Sect L := fun x hx => h x (List.mem_cons_of_mem _ hx)
theorem Sect.set {L : List (List Nat)} (h : Sect L) {i : Nat} {b : List Nat} (hb : b.length = 64) : Sect (L.set i b) := fun x hx => by
  rcases List.mem_or_eq_of_mem_set hx with h1 | h1
  · exact h x h1
  · rw [h1]; exact hb
theorem Sect.get {L : List (List Nat)} (h : Sect L) {i : Nat} {s : List Nat} (hs : L[i]? = some s) : s.length = 64 := h s (List.mem_of_getElem? hs)
theorem flat_length {L : List (List Nat)} (h : Sect L) : L.flatten.length = L.length * 64 := by
  induction L with
  | nil => rfl
  | cons s r ih => rw [List.flatten_cons, List.length_append, ih h.tail, h s (by simp), List.length_cons]; omega
theorem flat_drop {L : List (List Nat)} (h : Sect L) (i : Nat) : (L.drop i).flatten = L.flatten.drop (i * 64) := by
  induction L generalizing i with
  | nil => simp
  | cons s r ih =>
    cases i with
    | zero => simp
    | succ i =>
      rw [List.drop_succ_cons, ih h.tail, List.flatten_cons, List.drop_append, (show s.drop ((i + 1) * 64) = [] from List.drop_eq_nil_of_le (by rw [h s (by simp)]; omega)), List.nil_append, h s (by simp)]
      congr 1; omega
theorem flat_take {L : List (List Nat)} (h : Sect L) (i : Nat) : (L.take i).flatten = L.flatten.take (i * 64) := by
  induction L generalizing i with
  | nil => simp
  | cons s r ih =>
    cases i with
    | zero => simp
    | succ i =>
      rw [List.take_succ_cons, List.flatten_cons, ih h.tail, List.flatten_cons, List.take_append, List.take_of_length_le (l := s) (by rw [h s (by simp)]; omega), h s (by simp)]
      congr 2; omega
theorem flat_at {L : List (List Nat)} (h : Sect L) {i : Nat} {s : List Nat} (hs : L[i]? = some s) : (L.flatten.drop (i * 64)).take 64 = s := by
  have hi := (List.getElem?_eq_some_iff.1 hs).1
  rw [← flat_drop h, List.drop_eq_getElem_cons hi, (List.getElem?_eq_some_iff.1 hs).2, List.flatten_cons, List.take_append, List.take_of_length_le (by rw [h.get hs]; omega), h.get hs]
  simp
theorem flat_get {L : List (List Nat)} (h : Sect L) {i j : Nat} {s : List Nat} (hs : L[i]? = some s) (hj : j < 64) : L.flatten[i * 64 + j]? = s[j]? := by
  rw [← flat_at h hs, List.getElem?_take, if_pos hj, List.getElem?_drop]
theorem flat_set {L : List (List Nat)} (h : Sect L) {i : Nat} {b : List Nat} (hi : i < L.length) (hb : b.length = 64) : (L.set i b).flatten = splice L.flatten (i * 64) b := by
  unfold splice
  rw [hb, show i * 64 + 64 = (i + 1) * 64 by omega, ← flat_take h, ← flat_drop h, List.set_eq_take_append_cons_drop, if_pos hi, List.flatten_append, List.flatten_cons]
theorem splice_splice {α : Type} (L : List α) (off n : Nat) (s b : List α) (hs : (L.drop off).take s.length = s) (hn : n ≤ b.length) (hb : b.length ≤ s.length) : splice L off (b.take n) = splice L off (b.take n ++ s.drop n) := by
  unfold splice
  congr 1
  rw [List.append_assoc]
  congr 1
  have e : L.drop off = s ++ L.drop (off + s.length) := by
    conv => lhs; rw [← List.take_append_drop s.length (L.drop off), hs, List.drop_drop]
  rw [List.length_take, Nat.min_eq_left hn, List.length_append, List.length_take, Nat.min_eq_left hn, List.length_drop, show off + (n + (s.length - n)) = off + s.length by omega, ← List.drop_drop, e, List.drop_append, show n - s.length = 0 by omega, List.drop_zero]
theorem flat_part {L : List (List Nat)} (h : Sect L) {i n : Nat} {s b : List Nat} (hs : L[i]? = some s) (hn : n ≤ 64) (hb : b.length = 64) : (L.set i (b.take n ++ s.drop n)).flatten = splice L.flatten (i * 64) (b.take n) := by
  have hi := (List.getElem?_eq_some_iff.1 hs).1
  have hl := h.get hs
  rw [flat_set h hi (by simp; omega), splice_splice _ _ n s b (by rw [hl]; exact flat_at h hs) (by omega) (by omega)]
theorem u8s_splice (L b : List Nat) (off : Nat) : splice (u8s L) off (u8s b) = u8s (splice L off b) := by unfold splice u8s; simp [List.map_take, List.map_drop]

/-! ### What waits -/
def laid (L : List (List Nat)) (ws : List (Nat × List Nat)) : List (List Nat) := ws.foldl (fun L x => L.set x.1 x.2) L
theorem laid_snoc (L : List (List Nat)) (ws : List (Nat × List Nat)) (x : Nat × List Nat) : laid L (ws ++ [x]) = (laid L ws).set x.1 x.2 := by simp [laid]
theorem laid_length (L : List (List Nat)) (ws : List (Nat × List Nat)) : (laid L ws).length = L.length := by
  unfold laid
  induction ws generalizing L with
  | nil => rfl
  | cons x r ih => rw [List.foldl_cons, ih]; simp
def WOk (n : Nat) (ws : List (Nat × List Nat)) : Prop := ∀ x ∈ ws, x.1 < n ∧ x.2.length = 64
theorem laid_sect {L : List (List Nat)} (h : Sect L) {n : Nat} {ws : List (Nat × List Nat)} (hw : WOk n ws) : Sect (laid L ws) := by
  unfold laid
  induction ws generalizing L with
  | nil => exact h
  | cons x r ih => rw [List.foldl_cons]; exact ih (h.set (hw x (by simp)).2) (fun y hy => hw y (List.mem_cons_of_mem _ hy))
theorem take_more {α : Type} {l : List α} {k : Nat} {x : α} (h : l[k]? = some x) : l.take (k + 1) = l.take k ++ [x] := by rw [List.take_add_one, h]; rfl
theorem laid_take {L : List (List Nat)} {ws : List (Nat × List Nat)} {k : Nat} {x : Nat × List Nat} (h : ws[k]? = some x) : laid L (ws.take (k + 1)) = (laid L (ws.take k)).set x.1 x.2 := by rw [take_more h, laid_snoc]
/-- as they lie: a place, and 64 bytes -/
def wcell (x : Nat × List Nat) : List Value := .int .i64 (x.1 : Int) :: u8s x.2
def wcells (ws : List (Nat × List Nat)) : List Value := ws.flatMap wcell
theorem wcell_length {x : Nat × List Nat} (h : x.2.length = 64) : (wcell x).length = 65 := by simp [wcell, u8s_length, h]
theorem wcells_length {n : Nat} {ws : List (Nat × List Nat)} (h : WOk n ws) : (wcells ws).length = ws.length * 65 := by
  induction ws with
  | nil => rfl
  | cons x r ih =>
    have h1 := ih (fun y hy => h y (List.mem_cons_of_mem _ hy))
    unfold wcells at h1 ⊢
    rw [List.flatMap_cons, List.length_append, h1, wcell_length (h x (by simp)).2, List.length_cons]; omega
theorem wcells_snoc (ws : List (Nat × List Nat)) (x : Nat × List Nat) : wcells (ws ++ [x]) = wcells ws ++ wcell x := by simp [wcells]
theorem wcells_get {n : Nat} {ws : List (Nat × List Nat)} (h : WOk n ws) {k j : Nat} {x : Nat × List Nat} (hx : ws[k]? = some x) (hj : j < 65) : (wcells ws)[k * 65 + j]? = (wcell x)[j]? := by
  induction ws generalizing k with
  | nil => simp at hx
  | cons y r ih =>
    have hy := wcell_length (h y (by simp)).2
    cases k with
    | zero =>
      have e : y = x := by simpa using hx
      subst e
      unfold wcells
      rw [Nat.zero_mul, Nat.zero_add, List.flatMap_cons, List.getElem?_append_left (by omega)]
    | succ k =>
      have h1 := ih (fun z hz => h z (List.mem_cons_of_mem _ hz)) (k := k) (by simpa using hx)
      unfold wcells at h1 ⊢
      rw [List.flatMap_cons, List.getElem?_append_right (by rw [hy]; omega), hy, show (k + 1) * 65 + j - 65 = k * 65 + j by omega, h1]
theorem wcell_one (x : Nat × List Nat) : ∀ u ∈ wcell x, u.oneCell' = true := by
  intro u hu
  rcases List.mem_cons.1 hu with h | h
  · rw [h]; rfl
  · exact u8s_one _ u h
theorem wcells_one (ws : List (Nat × List Nat)) : ∀ u ∈ wcells ws, u.oneCell' = true := by
  intro u hu
  obtain ⟨x, _, hx⟩ := List.mem_flatMap.1 hu
  exact wcell_one x u hx

/-! ### A crash -/
/-- how many bytes of a torn one are written -/
def tornN (b : Int) : Nat := (min (max b 0) 64).toNat
theorem tornN_le (b : Int) : tornN b ≤ 64 := by unfold tornN; omega
def kept (keep i : Nat) : Bool := keep / 2 ^ (i % 64) % 2 == 1
def crash1 (keep : Nat) (torn bytes : Int) (L : List (List Nat)) (x : (Nat × List Nat) × Nat) : List (List Nat) :=
  if kept keep x.2 = true then (L.set x.1.1 (x.1.2.take (if (x.2 : Int) = torn then tornN bytes else 64) ++ (L.getD x.1.1 []).drop (if (x.2 : Int) = torn then tornN bytes else 64))) else L
def crashed (keep : Nat) (torn bytes : Int) (L : List (List Nat)) (ws : List ((Nat × List Nat) × Nat)) : List (List Nat) := ws.foldl (crash1 keep torn bytes) L
theorem crash1_length (keep : Nat) (torn bytes : Int) (L : List (List Nat)) (x : (Nat × List Nat) × Nat) : (crash1 keep torn bytes L x).length = L.length := by unfold crash1; split <;> simp
theorem crashed_length (keep : Nat) (torn bytes : Int) (L : List (List Nat)) (ws : List ((Nat × List Nat) × Nat)) : (crashed keep torn bytes L ws).length = L.length := by
  unfold crashed
  induction ws generalizing L with
  | nil => rfl
  | cons x r ih => rw [List.foldl_cons, ih, crash1_length]
theorem crashed_take {keep : Nat} {torn bytes : Int} {L : List (List Nat)} {ws : List (Nat × List Nat)} {k : Nat} {x : Nat × List Nat} (h : ws[k]? = some x) : crashed keep torn bytes L (ws.zipIdx.take (k + 1)) = crash1 keep torn bytes (crashed keep torn bytes L (ws.zipIdx.take k)) (x, k) := by
  have h1 : ws.zipIdx[k]? = some (x, k) := by simp [List.getElem?_zipIdx, h]
  rw [take_more h1]
  simp [crashed]
theorem crash1_sect {keep : Nat} {torn bytes : Int} {L : List (List Nat)} {x : (Nat × List Nat) × Nat} (h : Sect L) (h1 : x.1.1 < L.length) (h2 : x.1.2.length = 64) : Sect (crash1 keep torn bytes L x) := by
  unfold crash1
  split
  · refine h.set ?_
    have h3 : (L.getD x.1.1 []).length = 64 := by simp [List.getD, h1]; exact h _ (List.getElem_mem h1)
    have := tornN_le bytes
    rw [List.length_append, List.length_take, List.length_drop, h3]
    split <;> omega
  · exact h
theorem crashed_sect {keep : Nat} {torn bytes : Int} {L : List (List Nat)} (h : Sect L) {ws : List ((Nat × List Nat) × Nat)} (hw : ∀ x ∈ ws, x.1.1 < L.length ∧ x.1.2.length = 64) : Sect (crashed keep torn bytes L ws) := by
  unfold crashed
  induction ws generalizing L with
  | nil => exact h
  | cons x r ih =>
    rw [List.foldl_cons]
    exact ih (crash1_sect h (hw x (by simp)).1 (hw x (by simp)).2) (fun y hy => by rw [crash1_length]; exact hw y (List.mem_cons_of_mem _ hy))
theorem crash1_other {keep : Nat} {torn bytes : Int} {L : List (List Nat)} {x : (Nat × List Nat) × Nat} {j : Nat} (h : x.1.1 ≠ j) : (crash1 keep torn bytes L x)[j]? = L[j]? := by
  unfold crash1
  split
  · rw [List.getElem?_set_ne h]
  · rfl
theorem crashed_other {keep : Nat} {torn bytes : Int} {L : List (List Nat)} {ws : List ((Nat × List Nat) × Nat)} {j : Nat} (h : ∀ x ∈ ws, x.1.1 ≠ j) : (crashed keep torn bytes L ws)[j]? = L[j]? := by
  unfold crashed
  induction ws generalizing L with
  | nil => rfl
  | cons x r ih => rw [List.foldl_cons, ih (fun y hy => h y (List.mem_cons_of_mem _ hy)), crash1_other (h x (by simp))]
theorem laid_other {L : List (List Nat)} {ws : List (Nat × List Nat)} {j : Nat} (h : ∀ x ∈ ws, x.1 ≠ j) : (laid L ws)[j]? = L[j]? := by
  unfold laid
  induction ws generalizing L with
  | nil => rfl
  | cons x r ih => rw [List.foldl_cons, ih (fun y hy => h y (List.mem_cons_of_mem _ hy)), List.getElem?_set_ne (h x (by simp))]
/-- what is told of the sectors that were written, set anew -/
def again (M L : List (List Nat)) (ws : List (Nat × List Nat)) : List (List Nat) := ws.foldl (fun T x => T.set x.1 (M.getD x.1 [])) L
theorem again_length (M L : List (List Nat)) (ws : List (Nat × List Nat)) : (again M L ws).length = L.length := by
  unfold again
  induction ws generalizing L with
  | nil => rfl
  | cons x r ih => rw [List.foldl_cons, ih]; simp
theorem again_take {M L : List (List Nat)} {ws : List (Nat × List Nat)} {k : Nat} {x : Nat × List Nat} (h : ws[k]? = some x) : again M L (ws.take (k + 1)) = (again M L (ws.take k)).set x.1 (M.getD x.1 []) := by
  rw [take_more h]; simp [again]
theorem again_get {M L : List (List Nat)} {ws : List (Nat × List Nat)} {j : Nat} (hl : M.length = L.length) (h : (∃ x ∈ ws, x.1 = j) ∨ L[j]? = M[j]?) : (again M L ws)[j]? = M[j]? := by
  unfold again
  induction ws generalizing L with
  | nil =>
    rcases h with ⟨x, hx, _⟩ | h
    · simp at hx
    · exact h
  | cons y r ih =>
    rw [List.foldl_cons]
    refine ih (by simpa using hl) ?_
    by_cases hy : y.1 = j
    · right
      subst hy
      by_cases hlt : y.1 < L.length
      · rw [List.getElem?_set_self hlt]
        simp [List.getD, List.getElem?_eq_getElem (show y.1 < M.length by omega)]
      · rw [List.getElem?_eq_none (by simp; omega), List.getElem?_eq_none (by omega)]
    · rcases h with ⟨x, hx, hxj⟩ | h
      · rcases List.mem_cons.1 hx with h1 | h1
        · subst h1; exact absurd hxj hy
        · exact .inl ⟨x, h1, hxj⟩
      · right; rw [List.getElem?_set_ne hy]; exact h
theorem again_crash (keep : Nat) (torn bytes : Int) (L : List (List Nat)) (ws : List (Nat × List Nat)) : again (crashed keep torn bytes L ws.zipIdx) (laid L ws) ws = crashed keep torn bytes L ws.zipIdx := by
  refine List.ext_getElem? fun j => ?_
  by_cases h : ∃ x ∈ ws, x.1 = j
  · exact again_get (by rw [crashed_length, laid_length]) (.inl h)
  · have h1 : ∀ x ∈ ws, x.1 ≠ j := fun x hx e => h ⟨x, hx, e⟩
    refine again_get (by rw [crashed_length, laid_length]) (.inr ?_)
    rw [laid_other h1, crashed_other]
    intro x hx
    have := List.mem_zipIdx hx
    exact h1 x.1 (by rw [this.2.2]; exact List.getElem_mem _)

/-! ### A device -/
structure Dev where
  lies : List (List Nat)
  waits : List (Nat × List Nat)
  down : Bool
  after : Nat
  keep : Nat
  torn : Int
  bytes : Int
def Dev.told (d : Dev) : List (List Nat) := laid d.lies d.waits
structure Dev.Ok (d : Dev) : Prop where
  sect : Sect d.lies
  wait : WOk d.lies.length d.waits
  pos : 1 ≤ d.lies.length
  size : d.lies.length ≤ 8192
theorem Dev.Ok.told {d : Dev} (h : d.Ok) : Sect d.told := laid_sect h.sect h.wait
theorem Dev.told_length (d : Dev) : d.told.length = d.lies.length := laid_length _ _
/-- a new one -/
def Dev.fresh (n : Nat) : Dev := ⟨List.replicate n (List.replicate 64 0), [], false, 0, 0, 0, 0⟩
theorem Dev.fresh_ok {n : Nat} (h1 : 1 ≤ n) (h2 : n ≤ 8192) : (Dev.fresh n).Ok :=
  ⟨fun s hs => by rw [(List.mem_replicate.1 hs).2]; simp, fun x hx => by simp [Dev.fresh] at hx, by simpa [Dev.fresh] using h1, by simpa [Dev.fresh] using h2⟩
/-- bytes, and the rest 0 -/
def padB (b : List Nat) : List Nat := b ++ List.replicate (64 - b.length) 0
theorem padB_length {b : List Nat} (h : b.length ≤ 64) : (padB b).length = 64 := by simp [padB]; omega
theorem padB_splice {b : List Nat} (_h : b.length ≤ 64) : splice (List.replicate 64 0) 0 b = padB b := by
  unfold splice padB
  rw [List.take_zero, List.nil_append, Nat.zero_add, List.drop_replicate]
def Dev.write (d : Dev) (at_ : Nat) (b : List Nat) : Dev := { d with waits := d.waits ++ [(at_, padB b)] }
theorem Dev.write_ok {d : Dev} (h : d.Ok) {at_ : Nat} {b : List Nat} (h1 : at_ < d.lies.length) (h2 : b.length ≤ 64) : (d.write at_ b).Ok :=
  ⟨h.sect, fun x hx => by
    rcases List.mem_append.1 hx with h3 | h3
    · exact h.wait x h3
    · rw [List.mem_singleton.1 h3]; exact ⟨h1, padB_length h2⟩, h.pos, h.size⟩
theorem Dev.write_told (d : Dev) (at_ : Nat) (b : List Nat) : (d.write at_ b).told = d.told.set at_ (padB b) := laid_snoc _ _ _
def Dev.flush (d : Dev) : Dev := { d with lies := d.told, waits := [] }
theorem Dev.flush_ok {d : Dev} (h : d.Ok) : d.flush.Ok := ⟨h.told, fun x hx => by simp [Dev.flush] at hx, by show 1 ≤ d.told.length; rw [d.told_length]; exact h.pos, by show d.told.length ≤ _; rw [d.told_length]; exact h.size⟩
def Dev.crash (d : Dev) (keep : Nat) (torn bytes : Int) : Dev := ⟨crashed keep torn bytes d.lies d.waits.zipIdx, [], true, 0, 0, 0, 0⟩
theorem Dev.zip_ok {d : Dev} (h : d.Ok) : ∀ x ∈ d.waits.zipIdx, x.1.1 < d.lies.length ∧ x.1.2.length = 64 := fun x hx => h.wait _ (by rw [(List.mem_zipIdx hx).2.2]; exact List.getElem_mem _)
theorem Dev.crash_ok {d : Dev} (h : d.Ok) (keep : Nat) (torn bytes : Int) : (d.crash keep torn bytes).Ok :=
  ⟨crashed_sect h.sect (Dev.zip_ok h), fun x hx => by simp [Dev.crash] at hx, by show 1 ≤ (crashed _ _ _ _ _).length; rw [crashed_length]; exact h.pos, by show (crashed _ _ _ _ _).length ≤ _; rw [crashed_length]; exact h.size⟩
def Dev.up (d : Dev) : Dev := { d with down := false, after := 0, keep := 0, torn := 0, bytes := 0 }
theorem Dev.up_ok {d : Dev} (h : d.Ok) : d.up.Ok := ⟨h.sect, h.wait, h.pos, h.size⟩
end Go.Proofs.YtngeilhdambgfaaDoor
