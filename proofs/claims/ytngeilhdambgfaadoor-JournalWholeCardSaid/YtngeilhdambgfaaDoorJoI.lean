/- A journal on a device, as plain lists: its records, those that are committed, what waits, what lay there; written on, flushed, crashed, wiped, told. -/
import Derived.Test.YtngeilhdambgfaaDoorJoC
namespace Go.Proofs.YtngeilhdambgfaaDoor
open Go.RowKit

def usedJ (R : List (List Nat)) : Nat := (R.map fun r => pieces r.length).sum
theorem usedJ_nil : usedJ [] = 0 := rfl
theorem usedJ_append (R S : List (List Nat)) : usedJ (R ++ S) = usedJ R + usedJ S := by simp [usedJ]
theorem usedJ_one (r : List Nat) : usedJ [r] = pieces r.length := by simp [usedJ]
theorem usedJ_secs (t k : Nat) (R : List (List Nat)) : (secsJ t k R).length = usedJ R := secsJ_length t k R
theorem usedJ_take (R : List (List Nat)) (c : Nat) : usedJ (R.take c) ≤ usedJ R := by
  conv => rhs; rw [← List.take_append_drop c R, usedJ_append]
  omega
theorem usedJ_pos {R : List (List Nat)} (h : R ≠ []) : 1 ≤ usedJ R := by
  cases R with
  | nil => exact absurd rfl h
  | cons r R => have := pieces_pos r.length; simp [usedJ]; omega
theorem secsJ_append (t : Nat) (R S : List (List Nat)) : ∀ k, secsJ t k (R ++ S) = secsJ t k R ++ secsJ t (k + usedJ R) S := by
  induction R with
  | nil => intro k; rfl
  | cons r R ih =>
    intro k
    show splitS t k r ++ secsJ t (k + pieces r.length) (R ++ S) = (splitS t k r ++ secsJ t (k + pieces r.length) R) ++ _
    rw [ih, List.append_assoc, show usedJ (r :: R) = pieces r.length + usedJ R by simp [usedJ], Nat.add_assoc]
theorem secsJ_one (t k : Nat) (r : List Nat) : secsJ t k [r] = splitS t k r := by simp [secsJ]
theorem posW_append (off : Nat) (A B : List (List Nat)) : posW off (A ++ B) = posW off A ++ posW (off + A.length) B := by
  induction A generalizing off with
  | nil => rfl
  | cons c r ih => simp only [List.cons_append, posW, ih, List.length_cons]; rw [show off + 1 + r.length = off + (r.length + 1) by omega]
/-- t: its turn; from frm, n sectors; its records, the first c of them committed; z: 0 lay there -/
structure JKeep (z : Bool) (t frm n : Nat) (R : List (List Nat)) (c : Nat) (d : Dev) : Prop where
  turn : t ≠ 0 ∧ t < 4294967296
  small : ∀ r ∈ R, ∀ x ∈ r, x < 256
  fit : usedJ R ≤ n
  cl : c ≤ R.length
  up : d.down = false
  calm : d.after = 0
  range : frm + n ≤ d.lies.length
  waits : d.waits = posW (frm + usedJ (R.take c)) (((secsJ t 0 R).drop (usedJ (R.take c))).map secB)
  done : ∀ i s, i < usedJ (R.take c) → (secsJ t 0 R)[i]? = some s → d.lies[frm + i]? = some (secB s)
  old : ∀ i y, usedJ (R.take c) ≤ i → i < n → d.lies[frm + i]? = some y → OldAt t y ∧ (z = true → y = List.replicate 64 0)
section
variable {z : Bool} {t frm n c : Nat} {R : List (List Nat)} {d : Dev}
theorem JKeep.room (h : JKeep z t frm n R c d) (hok : d.Ok) : n ≤ 8192 := by have := h.range; have := hok.size; omega
theorem JKeep.secs (h : JKeep z t frm n R c d) (hok : d.Ok) : ∀ s ∈ secsJ t 0 R, s.Ok ∧ s.turn = t := secsJ_ok h.turn.1 h.turn.2 R 0 h.small (by have := h.fit; have := h.room hok; rw [usedJ_secs]; omega)
/-- nothing written yet -/
theorem JKeep.new (ht : t ≠ 0 ∧ t < 4294967296) (hup : d.down = false) (hc : d.after = 0) (hr : frm + n ≤ d.lies.length) (hw : d.waits = []) (hold : ∀ i y, i < n → d.lies[frm + i]? = some y → OldAt t y ∧ (z = true → y = List.replicate 64 0)) : JKeep z t frm n [] 0 d :=
  ⟨ht, fun r h => by simp at h, Nat.zero_le _, Nat.le_refl _, hup, hc, hr, by rw [hw]; rfl, fun i s h _ => by simp [usedJ] at h, fun i y _ h1 h2 => hold i y h1 h2⟩
/-- of a wiped device -/
theorem JKeep.zero (ht : t ≠ 0 ∧ t < 4294967296) (hup : d.down = false) (hc : d.after = 0) (hr : frm + n ≤ d.lies.length) (hw : d.waits = []) (hold : ∀ i y, i < n → d.lies[frm + i]? = some y → y = List.replicate 64 0) : JKeep z t frm n [] 0 d :=
  JKeep.new ht hup hc hr hw fun i y h1 h2 => by rw [hold i y h1 h2]; exact ⟨old_zero ht.1 ht.2, fun _ => rfl⟩
/-- a record more, written -/
theorem JKeep.write (h : JKeep z t frm n R c d) {r : List Nat} (hr : ∀ x ∈ r, x < 256) (hf : usedJ R + pieces r.length ≤ n) : JKeep z t frm n (R ++ [r]) c (d.writes (frm + usedJ R) ((splitS t (usedJ R) r).map secB)) := by
  have hE : secsJ t 0 (R ++ [r]) = secsJ t 0 R ++ splitS t (usedJ R) r := by rw [secsJ_append, secsJ_one, Nat.zero_add]
  have ht : (R ++ [r]).take c = R.take c := by rw [List.take_append_of_le_length h.cl]
  have hl := usedJ_secs t 0 R
  have ha := usedJ_take R c
  refine ⟨h.turn, fun x hx => ?_, by rw [usedJ_append, usedJ_one]; exact hf, by rw [List.length_append]; have := h.cl; omega, h.up, h.calm, h.range, ?_, fun i s hi hs => ?_, fun i y hi => ?_⟩
  · rcases List.mem_append.1 hx with h1 | h1
    · exact h.small x h1
    · rw [List.mem_singleton.1 h1]; exact hr
  · rw [ht, hE, List.drop_append_of_le_length (by omega), List.map_append, posW_append]
    show d.waits ++ _ = _
    rw [h.waits]
    congr 2
    rw [List.length_map, List.length_drop]
    omega
  · rw [ht] at hi
    rw [hE, List.getElem?_append_left (by omega)] at hs
    exact h.done i s hi hs
  · rw [ht] at hi
    exact h.old i y hi
theorem JKeep.told_at (h : JKeep z t frm n R c d) (hok : d.Ok) (i : Nat) (hi : i < n) : d.told[frm + i]? = if i < usedJ R then ((secsJ t 0 R)[i]?).map secB else d.lies[frm + i]? := by
  have hl := usedJ_secs t 0 R
  have ha := usedJ_take R c
  have hr := h.range
  unfold Dev.told
  rw [h.waits, laid_pos _ _ _ _ (by omega), List.length_map, List.length_drop]
  by_cases h1 : i < usedJ (R.take c)
  · rw [if_neg (by omega), if_pos (by omega)]
    obtain ⟨s, hs⟩ : ∃ s, (secsJ t 0 R)[i]? = some s := ⟨_, List.getElem?_eq_getElem (by omega)⟩
    rw [h.done i s h1 hs, hs]; rfl
  · by_cases h2 : i < usedJ R
    · rw [if_pos (by omega), if_pos h2, List.getElem?_map, List.getElem?_drop, show usedJ (R.take c) + (frm + i - (frm + usedJ (R.take c))) = i by omega]
      obtain ⟨s, hs⟩ : ∃ s, (secsJ t 0 R)[i]? = some s := ⟨_, List.getElem?_eq_getElem (by omega)⟩
      rw [hs]
      show some (padB (secB s)) = some (secB s)
      rw [padB_whole (secB_length (h.secs hok s (List.mem_of_getElem? hs)).1.2.1)]
    · rw [if_neg (by omega), if_neg h2]
/-- flushed -/
theorem JKeep.flush (h : JKeep z t frm n R c d) (hok : d.Ok) : JKeep z t frm n R R.length d.flush := by
  have hl := usedJ_secs t 0 R
  have ha := usedJ_take R c
  have hf := h.fit
  have hT : R.take R.length = R := List.take_length
  refine ⟨h.turn, h.small, h.fit, Nat.le_refl _, h.up, h.calm, by show _ ≤ d.told.length; rw [d.told_length]; exact h.range, ?_, fun i s hi hs => ?_, fun i y hi hin hy => ?_⟩
  · rw [hT, List.drop_of_length_le (by omega)]; rfl
  · rw [hT] at hi
    show d.told[frm + i]? = _
    rw [h.told_at hok i (by omega), if_pos hi, hs]; rfl
  · rw [hT] at hi
    have hy : d.told[frm + i]? = some y := hy
    rw [h.told_at hok i hin, if_neg (by omega)] at hy
    exact h.old i y (by omega) hin hy
/-- the turn of the first sector -/
def turn0 (L : List (List Nat)) : Nat := (stOf (L.getD 0 [])).turn
/-- what Read tells of these sectors -/
def readsJ (L : List (List Nat)) : List (List Nat) := readJ (turn0 L) 0 [] L
theorem accB_zero (k : Nat) (b : List Nat) : accB 0 k b = false := by
  unfold accB
  by_cases h : unpackE b = 0
  · have h1 : (stOf b).turn ≠ 0 := by
      unfold stOf
      rw [if_pos h]
      intro h2
      have h2 : (stampOf b).1 = 0 := h2
      unfold unpackE at h
      split at h
      · cases h
      · split at h
        · cases h
        · split at h
          · cases h
          · split at h
            · cases h
            · rw [if_pos (.inl h2)] at h; cases h
    rw [decide_eq_false h1]; simp
  · rw [decide_eq_false h]; rfl
theorem readJ_zero (acc : List Nat) (L : List (List Nat)) (k : Nat) : readJ 0 k acc L = [] := by
  cases L with
  | nil => rfl
  | cons b L => rw [readJ_cons, if_neg (by rw [accB_zero]; decide)]
theorem reads_turn {L : List (List Nat)} (h : readJ t 0 [] L ≠ []) : turn0 L = t := by
  cases L with
  | nil => exact absurd rfl h
  | cons b L =>
    rw [readJ_cons] at h
    by_cases h1 : accB t 0 b = true
    · unfold accB at h1
      simp only [Bool.and_eq_true, decide_eq_true_eq] at h1
      exact h1.1.2
    · rw [if_neg h1] at h; exact absurd rfl h
theorem reads_same {L : List (List Nat)} (h : readJ t 0 [] L ≠ [] ∨ turn0 L = t ∨ turn0 L = 0) : readsJ L = readJ t 0 [] L := by
  unfold readsJ
  rcases h with h | h | h
  · rw [reads_turn h]
  · rw [h]
  · rw [h, readJ_zero]
    cases e : readJ t 0 [] L with
    | nil => rfl
    | cons a l =>
      have h2 := reads_turn (t := t) (L := L) (by rw [e]; simp)
      rw [h] at h2
      rw [← h2, readJ_zero] at e; cases e
theorem part_get {L : List (List Nat)} {i : Nat} (hi : i < n) : ((L.drop frm).take n)[i]? = L[frm + i]? := by rw [List.getElem?_take_of_lt hi, List.getElem?_drop]
theorem part_turn {L : List (List Nat)} {b : List Nat} (hn : 0 < n) (h : L[frm]? = some b) : turn0 ((L.drop frm).take n) = (stOf b).turn := by
  unfold turn0
  rw [List.getD, part_get hn, Nat.add_zero, h]; rfl
/-- told of a device with nothing of it lost -/
theorem JKeep.tells (h : JKeep z t frm n R c d) (hok : d.Ok) : readJ t 0 [] ((d.told.drop frm).take n) = R := by
  have hl := usedJ_secs t 0 R
  have hf := h.fit
  have hroom := h.room hok
  have hp : ∀ i, i < n → ((d.told.drop frm).take n)[i]? = d.told[frm + i]? := fun i hi => part_get hi
  obtain ⟨j, hj, hrd, hc⟩ := read_begins h.turn.1 h.turn.2 R 0 ((d.told.drop frm).take n) h.small (by omega) (fun i b hi => by
    have hin : i < n := by have := (List.getElem?_eq_some_iff.1 hi).1; rw [List.length_take] at this; omega
    rw [hp i hin, h.told_at hok i hin] at hi
    by_cases h1 : i < usedJ R
    · rw [if_pos h1] at hi
      obtain ⟨s, hs⟩ : ∃ s, (secsJ t 0 R)[i]? = some s := ⟨_, List.getElem?_eq_getElem (by omega)⟩
      rw [hs] at hi
      cases hi
      exact .inl ⟨s, hs, rfl⟩
    · rw [if_neg h1] at hi
      have ha := usedJ_take R c
      exact .inr (((h.old i b (by omega) hin hi).1).other _))
  have hjR : R.length ≤ j := hc R.length (Nat.le_refl _) (fun i s hs => by
    rw [List.take_length] at hs
    have hi : i < usedJ R := by have := (List.getElem?_eq_some_iff.1 hs).1; omega
    rw [hp i (by omega), h.told_at hok i (by omega), if_pos hi, hs]; rfl)
  rw [hrd, List.take_of_length_le hjR]
theorem JKeep.first (h : JKeep z t frm n R c d) (hok : d.Ok) (hz : z = true) (hn : 0 < n) : turn0 ((d.told.drop frm).take n) = if R = [] then 0 else t := by
  by_cases h1 : R = []
  · rw [if_pos h1]
    obtain ⟨y, hy⟩ : ∃ y, d.lies[frm]? = some y := ⟨_, List.getElem?_eq_getElem (by have := h.range; omega)⟩
    have hT := h.told_at hok 0 hn
    rw [if_neg (by rw [h1]; simp [usedJ]), Nat.add_zero, hy] at hT
    rw [part_turn hn hT, (h.old 0 y (by rw [h1]; simp [usedJ]) hn hy).2 hz]
    unfold stOf
    rw [unpackE_zero]; rfl
  · rw [if_neg h1]
    exact reads_turn (by rw [h.tells hok]; exact h1)
theorem JKeep.reads (h : JKeep z t frm n R c d) (hok : d.Ok) (hz : z = true) (hn : 0 < n) : readsJ ((d.told.drop frm).take n) = R := by
  rw [reads_same, h.tells hok]
  rw [h.first hok hz hn]
  split
  · exact .inr (.inr rfl)
  · exact .inr (.inl rfl)
/-- behind a crash: the records that were committed, and a beginning of the others -/
theorem JKeep.crash (h : JKeep z t frm n R c d) (hok : d.Ok) (keep : Nat) (torn bytes : Int) (hn : 0 < n) (hz : z = true ∨ 0 < c) :
    ∃ j, c ≤ j ∧ j ≤ R.length ∧ readsJ ((((d.crash keep torn bytes).up.told).drop frm).take n) = R.take j ∧ (0 < c → turn0 ((((d.crash keep torn bytes).up.told).drop frm).take n) = t) := by
  have hT : (d.crash keep torn bytes).up.told = crashed keep torn bytes d.lies ((posW (frm + usedJ (R.take c)) (((secsJ t 0 R).drop (usedJ (R.take c))).map secB)).zipIdx) := by
    show laid (crashed keep torn bytes d.lies d.waits.zipIdx) [] = _
    rw [h.waits]; rfl
  have hl := usedJ_secs t 0 R
  have ha := usedJ_take R c
  have hlc := usedJ_secs t 0 (R.take c)
  have hf := h.fit
  have hr := h.range
  obtain ⟨j, h1, h2, h3⟩ := read_crash (t := t) (frm := frm) (n := n) (c := c) (keep := keep) (torn := torn) (bytes := bytes) (L := d.lies) (R := R) h.turn.1 h.turn.2 h.small hok.sect h.range (h.room hok) (by omega) h.cl (by omega)
    (by rw [hlc]; exact h.done) (by rw [hlc]; exact fun i y hi hin hy => (h.old i y hi hin hy).1)
  rw [hlc] at h3
  rw [← hT] at h3
  have hne : 0 < c → R.take j ≠ [] := fun hc e => by
    have h5 := congrArg List.length e
    rw [List.length_take, List.length_nil] at h5
    have := h.cl
    omega
  refine ⟨j, h1, h2, ?_, fun hc => reads_turn (by rw [h3]; exact hne hc)⟩
  rw [reads_same, h3]
  rw [h3]
  by_cases hc : 0 < c
  · exact .inl (hne hc)
  right
  have hzt : z = true := hz.resolve_right hc
  have hc0 : c = 0 := by omega
  subst hc0
  have h0 : usedJ (R.take 0) = 0 := by simp [usedJ]
  obtain ⟨y, hy⟩ : ∃ y, d.lies[frm]? = some y := ⟨_, List.getElem?_eq_getElem (by omega)⟩
  have hyz := (h.old 0 y (by omega) hn (by rw [Nat.add_zero]; exact hy)).2 hzt
  subst hyz
  have hA : ∀ x ∈ (secsJ t 0 R).map secB, x.length = 64 := fun x hx => by
    obtain ⟨s, hs, rfl⟩ := List.mem_map.1 hx
    exact secB_length (h.secs hok s hs).1.2.1
  rw [h0, List.drop_zero, Nat.add_zero] at hT
  obtain ⟨e1, e2⟩ := crash_each keep torn bytes d.lies frm 0 ((secsJ t 0 R).map secB) hA hok.sect frm (by omega) (by rw [List.length_map]; omega)
  have t0 : (stOf (List.replicate 64 0)).turn = 0 := by unfold stOf; rw [unpackE_zero]; rfl
  by_cases hR : 0 < usedJ R
  · obtain ⟨s, hs⟩ : ∃ s, (secsJ t 0 R)[0]? = some s := ⟨_, List.getElem?_eq_getElem (by omega)⟩
    have hsO := h.secs hok s (List.mem_of_getElem? hs)
    obtain ⟨k, hk, e3⟩ := e1 (secB s) (List.replicate 64 0) (Nat.le_refl _) (by rw [Nat.sub_self, List.getElem?_map, hs]; rfl) hy
    rw [← hT] at e3
    rw [part_turn hn e3]
    have ho := old_zero h.turn.1 h.turn.2
    rcases unpack_torn (secB_length hsO.1.2.1) ho.len (secB_small hsO.1) ho.small hk (by rw [secB_take, secB_drop hsO.1.2.1]) ho.ends (by rw [secB_take, hsO.2]; exact ho.stamp _) with e4 | e4 | e4
    · rw [e4, unpackS_secB hsO.1]; exact .inl hsO.2
    · rw [e4]; exact .inr t0
    · refine .inr ?_
      unfold stOf
      rw [if_neg (by rw [e4]; decide)]; rfl
  · have e3 := e2 (.inr (by rw [List.length_map]; omega))
    rw [← hT, hy] at e3
    rw [part_turn hn e3]
    exact .inr t0
theorem crashed_none (torn bytes : Int) (L : List (List Nat)) (ws : List ((Nat × List Nat) × Nat)) : crashed 0 torn bytes L ws = L := by
  unfold crashed
  induction ws generalizing L with
  | nil => rfl
  | cons x r ih =>
    rw [List.foldl_cons, show crash1 0 torn bytes L x = L from if_neg (by simp [kept])]
    exact ih L
/-- where nothing is kept -/
theorem JKeep.lost (h : JKeep z t frm n R c d) (torn bytes : Int) : JKeep z t frm n (R.take c) c (d.crash 0 torn bytes).up := by
  have hT : (R.take c).take c = R.take c := by rw [List.take_take, Nat.min_self]
  have hl := usedJ_secs t 0 (R.take c)
  have hL : (d.crash 0 torn bytes).up.lies = d.lies := crashed_none _ _ _ _
  have hE := secsJ_append t (R.take c) (R.drop c) 0
  rw [List.take_append_drop] at hE
  refine ⟨h.turn, fun r hr => h.small r (List.mem_of_mem_take hr), Nat.le_trans (usedJ_take R c) h.fit, by rw [List.length_take]; have := h.cl; omega, rfl, rfl, by rw [hL]; exact h.range, ?_, fun i s hi hs => ?_, fun i y hi hin hy => ?_⟩
  · rw [hT, List.drop_of_length_le (by omega)]; rfl
  · rw [hT] at hi
    rw [hL]
    exact h.done i s hi (by rw [hE, List.getElem?_append_left (by omega)]; exact hs)
  · rw [hT] at hi
    rw [hL] at hy
    exact h.old i y hi hin hy
/-- a journal of another turn over it -/
theorem JKeep.over (h : JKeep z t frm n R R.length d) (hok : d.Ok) (hz : z = true) {t' : Nat} (ht : t' ≠ 0 ∧ t' < 4294967296) (hne : t ≠ t') : JKeep false t' frm n [] 0 d := by
  have hT : R.take R.length = R := List.take_length
  have hl := usedJ_secs t 0 R
  have hw := h.waits
  rw [hT, List.drop_of_length_le (by omega)] at hw
  refine JKeep.new ht h.up h.calm h.range hw fun i y hi hy => ⟨?_, fun e => by cases e⟩
  by_cases h1 : i < usedJ R
  · obtain ⟨s, hs⟩ : ∃ s, (secsJ t 0 R)[i]? = some s := ⟨_, List.getElem?_eq_getElem (by omega)⟩
    have := h.done i s (by rw [hT]; exact h1) hs
    rw [this] at hy
    cases hy
    have hsO := h.secs hok s (List.mem_of_getElem? hs)
    exact old_other hsO.1 ht.2 (by rw [hsO.2]; exact hne)
  · rw [(h.old i y (by rw [hT]; omega) hi hy).2 hz]
    exact old_zero ht.1 ht.2
end
/-- wiped -/
theorem wiped_lies {d : Dev} {frm n : Nat} (hr : frm + n ≤ d.lies.length) : ∀ i y, i < n → ((d.writes frm (List.replicate n [])).flush).lies[frm + i]? = some y → d.waits = [] → y = List.replicate 64 0 := by
  intro i y hi hy hw
  have e : ((d.writes frm (List.replicate n [])).flush).lies = laid d.lies (posW frm (List.replicate n [])) := by
    show laid d.lies (d.waits ++ posW frm (List.replicate n [])) = _
    rw [hw]; rfl
  rw [e, laid_pos _ _ _ _ (by omega), List.length_replicate, if_pos (by omega), List.getElem?_replicate, if_pos (by omega)] at hy
  cases hy
  simp [padB]
/-- is it what was committed, and a beginning of the others? -/
def beginsL (got done behind : List (List Nat)) : Bool := decide (done.length ≤ got.length ∧ got.length ≤ done.length + behind.length ∧ got = (done ++ behind).take got.length)
theorem begins_take {done behind : List (List Nat)} {j : Nat} (h1 : done.length ≤ j) (h2 : j ≤ (done ++ behind).length) : beginsL ((done ++ behind).take j) done behind = true := by
  unfold beginsL
  rw [decide_eq_true_eq]
  have h3 : ((done ++ behind).take j).length = j := by rw [List.length_take]; omega
  rw [List.length_append] at h2
  rw [h3]
  exact ⟨h1, h2, rfl⟩
theorem begins_self (R : List (List Nat)) : beginsL R R [] = true := by simp [beginsL]
end Go.Proofs.YtngeilhdambgfaaDoor
