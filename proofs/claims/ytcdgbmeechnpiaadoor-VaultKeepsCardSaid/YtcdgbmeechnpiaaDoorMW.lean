/- VaL, VaSame, VaSess, VaLives: laid into one. -/
import Derived.Test.YtcdgbmeechnpiaaDoorMV
import Derived.Test.YtcdgbmeechnpiaaDoorMJ
import Derived.Test.YtcdgbmeechnpiaaDoorMD
/- A vault's device as plain lists: between calls; behind a crash in the midst of one; what is told of it. -/
namespace Go.Proofs.YtcdgbmeechnpiaaDoor
open Go.RowKit

def zeros : List Nat := List.replicate 64 0
theorem zeros_len : zeros.length = 64 := by simp [zeros]
theorem zeros_small : ∀ x ∈ zeros, x < 256 := fun x hx => by rw [(List.mem_replicate.1 hx).2]; omega
theorem zeros_ends : zeros.take 8 = zeros.drop 56 := rfl
theorem padB_zeros : padB [] = zeros := rfl
/-- 0, or a sector of at most this turn -/
def Clean (T : Nat) (b : List Nat) : Prop := b = zeros ∨ ∃ s : Sec, s.Ok ∧ s.turn ≤ T ∧ b = secB s
theorem Clean.turn {T : Nat} {b : List Nat} (h : Clean T b) : (stOf b).turn ≤ T := by
  rcases h with rfl | ⟨s, hs, ht, rfl⟩
  · rw [show zeros = List.replicate 64 0 from rfl, zero_turn]; exact Nat.zero_le _
  · rw [unpackS_secB hs]; exact ht
theorem Clean.more {T T' : Nat} {b : List Nat} (h : Clean T b) (hT : T ≤ T') : Clean T' b := h.imp id (fun ⟨s, h1, h2, h3⟩ => ⟨s, h1, Nat.le_trans h2 hT, h3⟩)
theorem zeros_stamp {s : Sec} (hs : s.Ok) : (secB s).take 8 ≠ zeros.take 8 := fun h => by
  have ho := old_zero hs.1 hs.2.2.1
  rw [secB_take] at h
  exact ho.stamp s.place h
/-- a sector over zeros, torn -/
theorem mix_sec {s : Sec} {k : Nat} (hs : s.Ok) (hk : k ≤ 64) : (secB s).take k ++ zeros.drop k = secB s ∨ (stOf ((secB s).take k ++ zeros.drop k)).turn = 0 := by
  rcases unpack_torn (secB_length hs.2.1) zeros_len (secB_small hs) zeros_small hk (by rw [secB_take, secB_drop hs.2.1]) zeros_ends (zeros_stamp hs) with h | h | h
  · exact .inl h
  · exact .inr (by rw [h]; exact zero_turn)
  · exact .inr (by unfold stOf; rw [if_neg (by rw [h]; decide)]; rfl)
/-- zeros over what is clean, torn -/
theorem mix_zeros {T : Nat} {b : List Nat} {k : Nat} (hb : Clean T b) (hk : k ≤ 64) : (stOf (zeros.take k ++ b.drop k)).turn ≤ T := by
  rcases hb with rfl | ⟨s, hs, ht, rfl⟩
  · rw [List.take_append_drop]; exact Clean.turn (.inl rfl)
  · rcases unpack_torn zeros_len (secB_length hs.2.1) zeros_small (secB_small hs) hk zeros_ends (by rw [secB_take, secB_drop hs.2.1]) (fun h => zeros_stamp hs h.symm) with h | h | h
    · rw [h]; exact Clean.turn (.inl rfl)
    · rw [h, unpackS_secB hs]; exact ht
    · unfold stOf; rw [if_neg (by rw [h]; decide)]; exact Nat.zero_le _
theorem posW_nils (n : Nat) : ∀ off, posW off (List.replicate n []) = posW off (List.replicate n zeros) := by
  induction n with
  | zero => intro off; rfl
  | succ n ih =>
    intro off
    rw [List.replicate_succ, List.replicate_succ]
    show (off, padB []) :: posW (off + 1) (List.replicate n []) = (off, padB zeros) :: posW (off + 1) (List.replicate n zeros)
    rw [ih]; rfl
theorem told_lies {d : Dev} (h : d.waits = []) : d.told = d.lies := by unfold Dev.told; rw [h]; rfl
theorem flush_idle {d : Dev} (h : d.waits = []) : d.flush = d := by
  obtain ⟨l, w, dn, a, k, t, b⟩ := d
  simp only at h
  subst h
  rfl
section
variable {d : Dev} {off : Nat} {L : List (List Nat)}
theorem run_lies (hw : d.waits = []) : (d.run off L).flush.lies = laid d.lies (posW off L) := by
  show laid d.lies (d.waits ++ posW off L) = _
  rw [hw]; rfl
theorem fell_lies (hw : d.waits = []) : (d.fell off L).up.lies = crashed d.keep d.torn d.bytes d.lies ((posW off (L.take d.after)).zipIdx) := by
  show crashed d.keep d.torn d.bytes d.lies ((d.waits ++ posW off (L.take d.after)).zipIdx) = _
  rw [hw]; rfl
theorem fell_len : (d.fell off L).up.lies.length = d.lies.length := crashed_length _ _ _ _ _
theorem run_len : (d.run off L).flush.lies.length = d.lies.length := by
  show (Dev.told _).length = _
  rw [Dev.told_length]; rfl
theorem fell_fit (h : SmallD d) (hL : SmallL L) : Fit (d.fell off L).up := ⟨rfl, by show 0 < _; omega, by show 0 < _; omega, ((h.writes (fun s hs => hL s (List.mem_of_mem_take hs)) off).crash _ _ _).up, Nat.zero_le _⟩
end
/-- what a wiping does to the sectors -/
theorem Wiped.lies {d d' : Dev} {frm n : Nat} (h : Wiped d frm n 0 d') (hok : d.Ok) (hw : d.waits = []) (hr : frm + n ≤ d.lies.length) :
    d'.waits = [] ∧ (∀ i, i < n → d'.lies[frm + i]? = some zeros) ∧ ∀ j, (j < frm ∨ frm + n ≤ j) → d'.lies[j]? = d.lies[j]? := by
  have ht := told_lies hw
  rcases h with ⟨hz, _, rfl⟩ | ⟨_, ⟨_, _, rfl⟩ | ⟨h, _⟩⟩
  · refine ⟨rfl, fun i hi => ?_, fun j _ => by show d.told[j]? = _; rw [ht]⟩
    show d.told[frm + i]? = _
    rw [ht]
    obtain ⟨b, hb⟩ : ∃ b, d.lies[frm + i]? = some b := ⟨_, List.getElem?_eq_getElem (by omega)⟩
    rw [hb]
    have hp : (d.part frm n)[i]? = some b := by rw [Dev.part_get hi, ht, hb]
    have hl := hok.sect.get hb
    have h0 : ∀ x ∈ b, x = 0 := fun x hx => zeroL_iff.1 hz x (List.mem_flatten.2 ⟨b, List.mem_of_getElem? hp, hx⟩)
    congr 1
    exact List.eq_replicate_iff.2 ⟨hl, h0⟩
  · have e : ((d.flush.run frm (List.replicate n [])).flush).lies = laid d.lies (posW frm (List.replicate n [])) := by
      rw [run_lies rfl]
      show laid d.told _ = _
      rw [ht]
    refine ⟨rfl, fun i hi => ?_, fun j hj => ?_⟩
    · rw [e, laid_pos _ _ _ _ (by omega), List.length_replicate, if_pos (by omega), List.getElem?_replicate, if_pos (by omega)]
      rfl
    · rw [e]
      by_cases hl : j < d.lies.length
      · rw [laid_pos _ _ _ _ hl, List.length_replicate, if_neg (by omega)]
      · rw [List.getElem?_eq_none (by rw [laid_length]; omega), List.getElem?_eq_none (by omega)]
  · cases h
/-- the same journal, where its sectors are the same -/
theorem JKeep.same {z : Bool} {t frm n : Nat} {R : List (List Nat)} {d d' : Dev} (h : JKeep z t frm n R R.length d) (hup : d'.down = false) (ha : d'.after = 0) (hw : d'.waits = []) (hr : frm + n ≤ d'.lies.length) (hs : ∀ i, i < n → d'.lies[frm + i]? = d.lies[frm + i]?) : JKeep z t frm n R R.length d' := by
  have hl := usedJ_secs t 0 R
  have hT : R.take R.length = R := List.take_length
  refine ⟨h.turn, h.small, h.fit, h.cl, hup, ha, hr, ?_, fun i s hi hs' => ?_, fun i y hi hin hy => ?_⟩
  · rw [hw, hT, List.drop_of_length_le (by omega)]; rfl
  · have hf := h.fit
    have hu := usedJ_take R R.length
    rw [hs i (by omega)]; exact h.done i s hi hs'
  · rw [hs i hin] at hy
    exact h.old i y hi hin hy
/-- a vault's device between calls, whatever is armed: half k of N sectors, of turn t, has these records; all else is 0 -/
structure VState (N k t : Nat) (R : List (List Nat)) (d : Dev) : Prop where
  half : k ≤ 1
  len : d.lies.length = 2 * N
  pos : 1 ≤ N
  ok : d.Ok
  waits : d.waits = []
  jk : JKeep true t (k * N) N R R.length d.up
  ne : R ≠ []
  rest : ∀ i, i < N → d.lies[(1 - k) * N + i]? = some zeros
  fit : Fit d
/-- such a device behind a crash: what is told of it -/
structure VBroken (N k t T : Nat) (R : List (List Nat)) (d : Dev) : Prop where
  half : k ≤ 1
  len : d.lies.length = 2 * N
  waits : d.waits = []
  calm : d.after = 0
  ne : R ≠ []
  cur : d.curK N 2 = ((k : Int), t, R)
  top : topT d.told ≤ T
  fit : Fit d
theorem halves {N j : Nat} (h : j < 2 * N) (k : Nat) (hk : k ≤ 1) : (∃ i, i < N ∧ j = k * N + i) ∨ ∃ i, i < N ∧ j = (1 - k) * N + i := by
  have : k = 0 ∨ k = 1 := by omega
  rcases this with rfl | rfl
  · by_cases hj : j < N
    · exact .inl ⟨j, hj, by omega⟩
    · exact .inr ⟨j - N, by omega, by omega⟩
  · by_cases hj : j < N
    · exact .inr ⟨j, hj, by omega⟩
    · exact .inl ⟨j - N, by omega, by omega⟩
theorem halves_out {N i k : Nat} (hi : i < N) (hk : k ≤ 1) : (1 - k) * N + i < k * N ∨ k * N + N ≤ (1 - k) * N + i := by
  have : k = 0 ∨ k = 1 := by omega
  rcases this with rfl | rfl <;> omega
theorem halves_out' {N i k : Nat} (hi : i < N) (hk : k ≤ 1) : k * N + i < (1 - k) * N ∨ (1 - k) * N + N ≤ k * N + i := by
  have : k = 0 ∨ k = 1 := by omega
  rcases this with rfl | rfl <;> omega
theorem other_half {k : Nat} (hk : k ≤ 1) : 1 - (1 - k) = k := by omega
/-- what is current, where one half has records, and the other has none, or of a lesser turn -/
theorem cur_is {d : Dev} {N k t : Nat} {R : List (List Nat)} (hk : k ≤ 1) (hne : R ≠ []) (ht : 1 ≤ t) (hr : readsJ (d.part (k * N) N) = R) (h0 : turn0 (d.part (k * N) N) = t) (ho : readsJ (d.part ((1 - k) * N) N) = [] ∨ turn0 (d.part ((1 - k) * N) N) < t) : d.curK N 2 = ((k : Int), t, R) := by
  have e : d.curK N 2 = curS (curS (-1, 0, []) 0 (turn0 (d.part (0 * N) N)) (readsJ (d.part (0 * N) N))) 1 (turn0 (d.part (1 * N) N)) (readsJ (d.part (1 * N) N)) := rfl
  have : k = 0 ∨ k = 1 := by omega
  rcases this with rfl | rfl
  · rw [e, hr, h0]
    have h1 : curS (-1, 0, []) 0 t R = ((0 : Int), t, R) := if_pos ⟨hne, ht⟩
    rw [h1]
    rcases ho with ho | ho
    · rw [show (1 - 0) * N = 1 * N by omega] at ho
      rw [ho, curS_nil]; rfl
    · rw [show (1 - 0) * N = 1 * N by omega] at ho
      exact if_neg (fun h => by have := h.2; simp only at this; omega)
  · rw [e, hr, h0]
    rw [show (1 - 1) * N = 0 * N by omega] at ho
    rcases ho with ho | ho
    · rw [ho, curS_nil]
      exact if_pos ⟨hne, ht⟩
    · refine if_pos ⟨hne, ?_⟩
      unfold curS
      split
      · exact ho
      · exact ht
theorem split_secs {t k : Nat} {D : List Nat} (ht : t ≠ 0 ∧ t < 4294967296) (hD : ∀ x ∈ D, x < 256) (hk : k + pieces D.length ≤ 8192) : ∀ s ∈ splitS t k D, s.Ok ∧ s.turn = t := fun s hs => by
  unfold splitS at hs
  obtain ⟨i, hi, rfl⟩ := List.mem_map.1 hs
  exact ⟨pieceS_ok ht.1 ht.2 (by have := List.mem_range.1 hi; omega) hD, rfl⟩
theorem writes_ok' {d : Dev} {off : Nat} {L : List (List Nat)} (hok : d.Ok) (hL : ∀ b ∈ L, b.length ≤ 64) (hr : off + L.length ≤ d.lies.length) : (d.writes off L).Ok := ⟨hok.sect, fun x hx => by
  rcases List.mem_append.1 hx with h4 | h4
  · exact hok.wait x h4
  · exact writes_wok hL hr x h4, hok.pos, hok.size⟩
theorem secL_len {t k : Nat} {D : List Nat} (ht : t ≠ 0 ∧ t < 4294967296) (hD : ∀ x ∈ D, x < 256) (hk : k + pieces D.length ≤ 8192) : ∀ b ∈ (splitS t k D).map secB, b.length = 64 := fun b hb => by
  obtain ⟨s, hs, rfl⟩ := List.mem_map.1 hb
  exact secB_length (split_secs ht hD hk s hs).1.2.1
section
variable {N k t : Nat} {R : List (List Nat)} {d : Dev}
theorem VState.upok (h : VState N k t R d) : d.up.Ok := Dev.up_ok h.ok
theorem VState.n (h : VState N k t R d) : N ≤ 4096 := by have h1 := h.ok.size; have h2 := h.len; omega
theorem VState.used (h : VState N k t R d) : 1 ≤ usedJ R ∧ usedJ R ≤ N := ⟨usedJ_pos h.ne, h.jk.fit⟩
theorem up_told (hw : d.waits = []) : d.up.told = d.lies := told_lies (d := d.up) hw
theorem VState.clean (h : VState N k t R d) : ∀ i b, i < N → d.lies[k * N + i]? = some b → Clean t b := fun i b hi hb => by
  by_cases h1 : i < usedJ R
  · obtain ⟨s, hs⟩ : ∃ s, (secsJ t 0 R)[i]? = some s := ⟨_, List.getElem?_eq_getElem (by rw [usedJ_secs]; exact h1)⟩
    have h2 := h.jk.done i s (by rw [List.take_length]; exact h1) hs
    have h2 : d.lies[k * N + i]? = some (secB s) := h2
    rw [hb] at h2
    cases h2
    have h3 := h.jk.secs h.upok s (List.mem_of_getElem? hs)
    exact .inr ⟨s, h3.1, Nat.le_of_eq h3.2, rfl⟩
  · exact .inl ((h.jk.old i b (by rw [List.take_length]; omega) hi hb).2 rfl)
theorem VState.cleanAll (h : VState N k t R d) : ∀ b ∈ d.lies, Clean t b := fun b hb => by
  obtain ⟨j, hj⟩ := List.getElem?_of_mem hb
  have hl : j < 2 * N := by rw [← h.len]; exact (List.getElem?_eq_some_iff.1 hj).1
  rcases halves hl k h.half with ⟨i, hi, rfl⟩ | ⟨i, hi, rfl⟩
  · exact h.clean i b hi hj
  · rw [h.rest i hi] at hj; cases hj; exact .inl rfl
theorem VState.reads (h : VState N k t R d) : readsJ (d.part (k * N) N) = R ∧ turn0 (d.part (k * N) N) = t := by
  have h1 := h.jk.reads h.upok rfl h.pos
  have h2 := h.jk.first h.upok rfl h.pos
  rw [if_neg h.ne] at h2
  exact ⟨h1, h2⟩
theorem part_zero {d : Dev} {frm n : Nat} (hw : d.waits = []) (h : ∀ i, i < n → d.lies[frm + i]? = some zeros) : ∀ s ∈ d.part frm n, s = List.replicate 64 0 := fun s hs => by
  obtain ⟨i, hi⟩ := List.getElem?_of_mem hs
  have hin : i < n := by have := (List.getElem?_eq_some_iff.1 hi).1; unfold Dev.part at this; rw [List.length_take] at this; omega
  rw [Dev.part_get hin, told_lies hw, h i hin] at hi
  cases hi; rfl
theorem VState.cur (h : VState N k t R d) : d.curK N 2 = ((k : Int), t, R) :=
  cur_is h.half h.ne (by have := h.jk.turn; omega) h.reads.1 h.reads.2 (.inl (zeros_reads (part_zero h.waits h.rest)))
theorem VState.top (h : VState N k t R d) : topT d.told = t := by
  have hne := h.used.1
  obtain ⟨s, hs⟩ : ∃ s, (secsJ t 0 R)[0]? = some s := ⟨_, List.getElem?_eq_getElem (by rw [usedJ_secs]; exact hne)⟩
  have h2 : d.lies[k * N + 0]? = some (secB s) := h.jk.done 0 s (by rw [List.take_length]; exact hne) hs
  have h3 := h.jk.secs h.upok s (List.mem_of_getElem? hs)
  rw [told_lies h.waits]
  exact topT_eq (fun b hb => (h.cleanAll b hb).turn) (List.mem_of_getElem? h2) (by rw [unpackS_secB h3.1]; exact h3.2)
theorem VState.as (h : VState N k t R d) {d' : Dev} (e1 : d'.lies = d.lies) (e2 : d'.waits = []) (hf : Fit d') : VState N k t R d' := by
  have hok : d'.Ok := ⟨by rw [e1]; exact h.ok.sect, by rw [e2]; exact fun x hx => by simp at hx, by rw [e1]; exact h.ok.pos, by rw [e1]; exact h.ok.size⟩
  exact ⟨h.half, by rw [e1]; exact h.len, h.pos, hok, e2, h.jk.same rfl rfl e2 (by show _ ≤ d'.lies.length; rw [e1]; exact h.jk.range) (fun i hi => by show d'.lies[_]? = d.lies[_]?; rw [e1]), h.ne, by rw [e1]; exact h.rest, hf⟩
theorem VState.broken (h : VState N k t R d) (ha : d.after = 0) : VBroken N k t t R d := ⟨h.half, h.len, h.waits, ha, h.ne, h.cur, Nat.le_of_eq h.top, h.fit⟩
/-- a change more, committed -/
theorem VState.commit (h : VState N k t R d) {D : List Nat} (hD : ∀ x ∈ D, x < 256) (hf : usedJ R + pieces D.length ≤ N) : VState N k t (R ++ [D]) (d.run (k * N + usedJ R) ((splitS t (usedJ R) D).map secB)).flush := by
  have hN := h.n
  have hk8 : usedJ R + pieces D.length ≤ 8192 := by omega
  have hlen := halfN (N := N) h.half
  have hr : (k * N + usedJ R) + ((splitS t (usedJ R) D).map secB).length ≤ d.lies.length := by rw [List.length_map, splitS_length, h.len]; omega
  have hw := h.jk.write hD hf
  have hok2 : (d.up.writes (k * N + usedJ R) ((splitS t (usedJ R) D).map secB)).Ok := writes_ok' h.upok (fun b hb => Nat.le_of_eq (secL_len h.jk.turn hD hk8 b hb)) hr
  have hfl := hw.flush hok2
  have hl := run_lies (off := k * N + usedJ R) (L := (splitS t (usedJ R) D).map secB) h.waits
  have hokw : (d.writes (k * N + usedJ R) ((splitS t (usedJ R) D).map secB)).Ok := writes_ok' h.ok (fun b hb => Nat.le_of_eq (secL_len h.jk.turn hD hk8 b hb)) hr
  have hokf := Dev.flush_ok hokw
  refine ⟨h.half, by rw [run_len]; exact h.len, h.pos, ⟨hokf.sect, hokf.wait, hokf.pos, hokf.size⟩, rfl, hfl, by simp, fun i hi => ?_, h.fit.run (secs_small h.jk.turn hD hk8)⟩
  have ho := halves_out hi h.half
  rw [hl, laid_pos _ _ _ _ (by rw [h.len]; have := halfN (k := 1 - k) (N := N) (by omega); omega), List.length_map, splitS_length, if_neg (by have := h.used; omega)]
  exact h.rest i hi
end
/-- behind a crash in the midst of a record's writing: what was committed is told, or that record too; no turn is greater -/
theorem fell_reads {N t frm : Nat} {R : List (List Nat)} {d : Dev} {D : List Nat} (hjk : JKeep true t frm N R R.length d.up) (hok : d.Ok) (hw : d.waits = []) (hN : 1 ≤ N) (hD : ∀ x ∈ D, x < 256) (hf : usedJ R + pieces D.length ≤ N) :
    ∃ j, R.length ≤ j ∧ j ≤ R.length + 1 ∧ readsJ ((d.fell (frm + usedJ R) ((splitS t (usedJ R) D).map secB)).up.part frm N) = (R ++ [D]).take j ∧
      ((R ++ [D]).take j ≠ [] → turn0 ((d.fell (frm + usedJ R) ((splitS t (usedJ R) D).map secB)).up.part frm N) = t) ∧
      (∀ b ∈ (d.fell (frm + usedJ R) ((splitS t (usedJ R) D).map secB)).up.part frm N, (stOf b).turn ≤ t) ∧
      (∀ j, (j < frm ∨ frm + N ≤ j) → (d.fell (frm + usedJ R) ((splitS t (usedJ R) D).map secB)).up.lies[j]? = d.lies[j]?) := by
  have hupok : d.up.Ok := Dev.up_ok hok
  have hroom := hjk.room hupok
  have hk8 : usedJ R + pieces D.length ≤ 8192 := by omega
  have hrange : frm + N ≤ d.lies.length := hjk.range
  obtain ⟨L, hL⟩ : ∃ L, L = (splitS t (usedJ R) D).map secB := ⟨_, rfl⟩
  obtain ⟨d', hd'⟩ : ∃ x, x = (d.fell (frm + usedJ R) L).up := ⟨_, rfl⟩
  obtain ⟨m, hm⟩ : ∃ m, m = d.after := ⟨_, rfl⟩
  have hE : secsJ t 0 (R ++ [D]) = secsJ t 0 R ++ splitS t (usedJ R) D := by rw [secsJ_append, secsJ_one, Nat.zero_add]
  have hlR := usedJ_secs t 0 R
  have hlE := usedJ_secs t 0 (R ++ [D])
  rw [usedJ_append, usedJ_one] at hlE
  have hsm : ∀ r ∈ R ++ [D], ∀ x ∈ r, x < 256 := fun r hr => by
    rcases List.mem_append.1 hr with h1 | h1
    · exact hjk.small r h1
    · rw [List.mem_singleton.1 h1]; exact hD
  have hEok := secsJ_ok hjk.turn.1 hjk.turn.2 (R ++ [D]) 0 hsm (by omega)
  -- the sectors that were written
  obtain ⟨E, hEE⟩ : ∃ E, E = (secsJ t 0 (R ++ [D])).take (usedJ R + m) := ⟨_, rfl⟩
  have hEL : (E.drop (usedJ R)).map secB = L.take m := by
    rw [hEE, hE, List.drop_take, List.drop_left' hlR, hL, List.map_take, Nat.add_sub_cancel_left]
  have hEsub : ∀ (i : Nat) (s : Sec), E[i]? = some s → (secsJ t 0 (R ++ [D]))[i]? = some s := fun i s h => by
    rw [hEE, List.getElem?_take] at h
    split at h
    · exact h
    · cases h
  have hElen : usedJ R ≤ E.length ∧ E.length ≤ usedJ R + pieces D.length := by rw [hEE, List.length_take]; omega
  have hlies : d'.lies = crashed d.keep d.torn d.bytes d.lies ((posW (frm + usedJ R) ((E.drop (usedJ R)).map secB)).zipIdx) := by rw [hd', fell_lies hw, hEL, hm]
  have htold : d'.told = d'.lies := told_lies (by rw [hd']; rfl)
  have hold : ∀ i y, usedJ R ≤ i → i < N → d.lies[frm + i]? = some y → y = zeros := fun i y h1 h2 h3 => (hjk.old i y (by rw [List.take_length]; exact h1) h2 h3).2 rfl
  have hr := crash_right (keep := d.keep) (torn := d.torn) (bytes := d.bytes) (t := t) (frm := frm) (n := N) (a := usedJ R) (L := d.lies) (E := E) (fun s hs => hEok s (by rw [hEE] at hs; exact List.mem_of_mem_take hs)) (fun i s h => by rw [secsJ_place t _ 0 i s (hEsub i s h), Nat.zero_add]) hok.sect hrange (by omega) hElen.1
    (fun i s hi hs => by
      have h1 := hEsub i s hs
      rw [hE, List.getElem?_append_left (by omega)] at h1
      exact hjk.done i s (by rw [List.take_length]; exact hi) h1)
    (fun i y h1 h2 h3 => by rw [hold i y h1 h2 h3]; exact (old_zero hjk.turn.1 hjk.turn.2).at i)
  rw [← hlies] at hr
  have hA : ∀ x ∈ (E.drop (usedJ R)).map secB, x.length = 64 := fun x hx => by
    obtain ⟨s, hs, rfl⟩ := List.mem_map.1 hx
    have hs := List.mem_of_mem_drop hs
    rw [hEE] at hs
    exact secB_length (hEok s (List.mem_of_mem_take hs)).1.2.1
  have hEdl : ((E.drop (usedJ R)).map secB).length = E.length - usedJ R := by rw [List.length_map, List.length_drop]
  have heach := fun j (hj : j < d.lies.length) => crash_each d.keep d.torn d.bytes d.lies (frm + usedJ R) 0 ((E.drop (usedJ R)).map secB) hA hok.sect j hj (by rw [hEdl]; omega)
  rw [← hlies] at heach
  have hpg : ∀ i, i < N → (d'.part frm N)[i]? = d'.lies[frm + i]? := fun i hi => by rw [Dev.part_get hi, htold]
  have hdl : d'.lies.length = d.lies.length := by rw [hd']; exact fell_len
  obtain ⟨j, hj, hrd, hcc⟩ := read_begins hjk.turn.1 hjk.turn.2 (R ++ [D]) 0 (d'.part frm N) hsm (by omega) (fun i b hi => by
    have hin : i < N := by have := (List.getElem?_eq_some_iff.1 hi).1; rw [Dev.part_length (by rw [hdl]; exact hrange)] at this; exact this
    rw [hpg i hin] at hi
    rw [Nat.zero_add]
    exact (hr i b hin hi).imp (fun ⟨s, h1, h2⟩ => ⟨s, hEsub i s h1, h2⟩) OldT.other)
  have hRj : R.length ≤ j := hcc R.length (by rw [List.length_append]; omega) (fun i s hs => by
    rw [List.take_append_of_le_length (Nat.le_refl _), List.take_length] at hs
    have hi : i < usedJ R := by have := (List.getElem?_eq_some_iff.1 hs).1; omega
    rw [hpg i (by omega), (heach (frm + i) (by omega)).2 (.inl (by omega))]
    exact hjk.done i s (by rw [List.take_length]; exact hi) hs)
  rw [List.length_append, List.length_singleton] at hj
  have hturn : ∀ i b, i < N → (d'.part frm N)[i]? = some b → (stOf b).turn = 0 ∨ (stOf b).turn = t := fun i b hi hb => by
    rw [hpg i hi] at hb
    obtain ⟨y, hy⟩ : ∃ y, d.lies[frm + i]? = some y := ⟨_, List.getElem?_eq_getElem (by omega)⟩
    by_cases h1 : i < usedJ R
    · rw [(heach (frm + i) (by omega)).2 (.inl (by omega)), hy] at hb
      cases hb
      obtain ⟨s, hs⟩ : ∃ s, (secsJ t 0 R)[i]? = some s := ⟨_, List.getElem?_eq_getElem (by omega)⟩
      have h2 : d.lies[frm + i]? = some (secB s) := hjk.done i s (by rw [List.take_length]; exact h1) hs
      rw [hy] at h2
      cases h2
      have h3 := hjk.secs hupok s (List.mem_of_getElem? hs)
      rw [unpackS_secB h3.1]
      exact .inr h3.2
    · have hyz := hold i y (by omega) hi hy
      subst hyz
      by_cases h2 : i < E.length
      · obtain ⟨s, hs⟩ : ∃ s, E[i]? = some s := ⟨_, List.getElem?_eq_getElem h2⟩
        have hsO := hEok s (List.mem_of_getElem? (hEsub i s hs))
        obtain ⟨kk, hkk, h4⟩ := (heach (frm + i) (by omega)).1 (secB s) zeros (by omega) (by rw [show frm + i - (frm + usedJ R) = i - usedJ R by omega, List.getElem?_map, List.getElem?_drop, show usedJ R + (i - usedJ R) = i by omega, hs]; rfl) hy
        rw [h4] at hb
        cases hb
        rcases mix_sec hsO.1 hkk with h5 | h5
        · rw [h5, unpackS_secB hsO.1]; exact .inr hsO.2
        · exact .inl h5
      · rw [(heach (frm + i) (by omega)).2 (.inr (by rw [hEdl]; omega)), hy] at hb
        cases hb
        exact .inl zero_turn
  have hmem : ∀ b ∈ d'.part frm N, (stOf b).turn = 0 ∨ (stOf b).turn = t := fun b hb => by
    obtain ⟨i, hi⟩ := List.getElem?_of_mem hb
    exact hturn i b (by have := (List.getElem?_eq_some_iff.1 hi).1; rw [Dev.part_length (by rw [hdl]; exact hrange)] at this; exact this) hi
  have hzero : turn0 (d'.part frm N) = 0 ∨ turn0 (d'.part frm N) = t := by
    obtain ⟨b, hb⟩ : ∃ b, (d'.part frm N)[0]? = some b := ⟨_, List.getElem?_eq_getElem (by rw [Dev.part_length (by rw [hdl]; exact hrange)]; omega)⟩
    have e : turn0 (d'.part frm N) = (stOf b).turn := by unfold turn0; rw [List.getD, hb]; rfl
    rw [e]
    exact hturn 0 b hN hb
  have hreads : readsJ (d'.part frm N) = (R ++ [D]).take j := by
    rw [reads_same (t := t), hrd]
    rcases hzero with h1 | h1
    · exact .inr (.inr h1)
    · exact .inr (.inl h1)
  rw [← hL, ← hd']
  refine ⟨j, hRj, by omega, hreads, fun hne => reads_turn (t := t) (by rw [hrd]; exact hne), fun b hb => by rcases hmem b hb with h1 | h1 <;> omega, fun q hq => ?_⟩
  by_cases hql : q < d.lies.length
  · exact (heach q hql).2 (by rw [hEdl]; omega)
  · rw [List.getElem?_eq_none (by omega), List.getElem?_eq_none (by omega)]
theorem part_same {d d' : Dev} {frm n : Nat} (hw : d.waits = []) (hw' : d'.waits = []) (h : ∀ i, i < n → d'.lies[frm + i]? = d.lies[frm + i]?) : d'.part frm n = d.part frm n := by
  refine List.ext_getElem? fun i => ?_
  by_cases hi : i < n
  · rw [Dev.part_get hi, Dev.part_get hi, told_lies hw, told_lies hw', h i hi]
  · have h1 : ∀ x : Dev, (x.part frm n)[i]? = none := fun x => List.getElem?_eq_none (by unfold Dev.part; rw [List.length_take]; omega)
    rw [h1, h1]
theorem top_le {d : Dev} {N k T : Nat} (hk : k ≤ 1) (hl : d.lies.length = 2 * N) (h1 : ∀ b ∈ d.part (k * N) N, (stOf b).turn ≤ T) (h2 : ∀ b ∈ d.part ((1 - k) * N) N, (stOf b).turn ≤ T) : topT d.told ≤ T := topT_le (fun b hb => by
  obtain ⟨j, hj⟩ := List.getElem?_of_mem hb
  have hjl : j < 2 * N := by rw [← hl, ← d.told_length]; exact (List.getElem?_eq_some_iff.1 hj).1
  rcases halves hjl k hk with ⟨i, hi, rfl⟩ | ⟨i, hi, rfl⟩
  · exact h1 b (List.mem_of_getElem? (by rw [Dev.part_get hi]; exact hj))
  · exact h2 b (List.mem_of_getElem? (by rw [Dev.part_get hi]; exact hj)))
theorem turn0_le {T : Nat} {L : List (List Nat)} (h : ∀ b ∈ L, (stOf b).turn ≤ T) : turn0 L ≤ T := by
  unfold turn0
  cases L with
  | nil => exact Nat.zero_le _
  | cons b L => exact h b List.mem_cons_self
theorem Wiped.ok {d d' : Dev} {frm n : Nat} (h : Wiped d frm n 0 d') (hok : d.Ok) (hr : frm + n ≤ d.lies.length) : d'.Ok := by
  rcases h with ⟨hz, _, rfl⟩ | ⟨_, ⟨_, _, rfl⟩ | ⟨h, _⟩⟩
  · exact Dev.flush_ok hok
  · have h1 : (d.flush.writes frm (List.replicate n [])).Ok := writes_ok' (Dev.flush_ok hok) (fun b hb => by rw [(List.mem_replicate.1 hb).2]; exact Nat.zero_le _) (by rw [List.length_replicate]; show _ ≤ d.told.length; rw [d.told_length]; exact hr)
    have h2 := Dev.flush_ok h1
    exact ⟨h2.sect, h2.wait, h2.pos, h2.size⟩
  · cases h
/-- a record committed in a half that is 0 -/
theorem commit_half {N k T : Nat} {d : Dev} {D : List Nat} (hok : d.Ok) (hw : d.waits = []) (hf : Fit d) (hl : d.lies.length = 2 * N) (hk : k ≤ 1) (hz : ∀ i, i < N → d.lies[k * N + i]? = some zeros) (hT : T ≠ 0 ∧ T < 4294967296) (hD : ∀ x ∈ D, x < 256) (hp : pieces D.length ≤ N) :
    JKeep true T (k * N) N [D] 1 (d.run (k * N) ((splitS T 0 D).map secB)).flush.up ∧ (∀ j, (j < k * N ∨ k * N + N ≤ j) → (d.run (k * N) ((splitS T 0 D).map secB)).flush.lies[j]? = d.lies[j]?) ∧ (d.run (k * N) ((splitS T 0 D).map secB)).flush.Ok ∧ Fit (d.run (k * N) ((splitS T 0 D).map secB)).flush := by
  have h8 : N ≤ 4096 := by have := hok.size; omega
  have hlen := halfN (N := N) hk
  have hj0 : JKeep true T (k * N) N [] 0 d.up := JKeep.zero hT rfl rfl (by show _ ≤ d.lies.length; omega) hw (fun i y hi hy => by
    have hy : d.lies[k * N + i]? = some y := hy
    rw [hz i hi] at hy; cases hy; rfl)
  have hj1 := hj0.write hD (by rw [usedJ_nil]; omega)
  rw [usedJ_nil, Nat.add_zero, List.nil_append] at hj1
  have hk8 : 0 + pieces D.length ≤ 8192 := by omega
  have hlL : ((splitS T 0 D).map secB).length = pieces D.length := by rw [List.length_map, splitS_length]
  have hbl : ∀ b ∈ (splitS T 0 D).map secB, b.length ≤ 64 := fun b hb => Nat.le_of_eq (secL_len hT hD hk8 b hb)
  have hj2 := hj1.flush (writes_ok' (d := d.up) (Dev.up_ok hok) hbl (by rw [hlL]; show _ ≤ d.lies.length; omega))
  have hok1 := Dev.flush_ok (writes_ok' (d := d) (off := k * N) hok hbl (by rw [hlL]; omega))
  refine ⟨hj2, fun j hj => ?_, ⟨hok1.sect, hok1.wait, hok1.pos, hok1.size⟩, hf.run (secs_small hT hD hk8)⟩
  rw [run_lies hw]
  by_cases hjl : j < d.lies.length
  · rw [laid_pos _ _ _ _ hjl, hlL, if_neg (by omega)]
  · rw [List.getElem?_eq_none (by rw [laid_length]; omega), List.getElem?_eq_none (by omega)]
/-- an image laid: the vault's state -/
theorem laid_state {N k T : Nat} {d d' : Dev} {D : List Nat} (hok : d.Ok) (hw : d.waits = []) (hf : Fit d) (hl : d.lies.length = 2 * N) (hN : 1 ≤ N) (hk : k ≤ 1) (hT : T ≠ 0 ∧ T < 4294967296) (hD : ∀ x ∈ D, x < 256) (hp : pieces D.length ≤ N) (h : LaidD d k N T D 0 d') : VState N k T [D] d' := by
  have hlen := halfN (N := N) hk
  have hlen' := halfN (k := 1 - k) (N := N) (by omega)
  rcases h with ⟨h, _⟩ | ⟨d1, h1, ⟨h, _⟩ | ⟨_, ⟨h, _⟩ | ⟨_, d3, h3, rfl⟩⟩⟩
  · cases h
  · cases h
  · cases h
  · obtain ⟨w1, z1, o1⟩ := h1.lies hok hw (by omega)
    have l1 : d1.lies.length = 2 * N := by rw [h1.len]; exact hl
    obtain ⟨j2, o2, ok2, f2⟩ := commit_half (h1.ok hok (by omega)) w1 (h1.fit hf rfl) l1 hk z1 hT hD hp
    have l2 : (d1.run (k * N) ((splitS T 0 D).map secB)).flush.lies.length = 2 * N := by rw [run_len]; exact l1
    obtain ⟨w3, z3, o3⟩ := h3.lies ok2 rfl (by omega)
    have l3 : d3.lies.length = 2 * N := by rw [h3.len]; exact l2
    have hfl := flush_idle w3
    rw [hfl]
    have f3 := h3.fit f2 rfl
    exact ⟨hk, l3, hN, h3.ok ok2 (by omega), w3, j2.same rfl rfl w3 (by show _ ≤ d3.lies.length; omega) (fun i hi => o3 _ (halves_out' hi hk)), by simp, fun i hi => z3 i hi, f3⟩
section
variable {N k t : Nat} {R : List (List Nat)} {d : Dev}
theorem VState.partK (h : VState N k t R d) : ∀ b ∈ d.part (k * N) N, Clean t b := fun b hb => h.cleanAll b (by
  have := List.mem_of_mem_drop (List.mem_of_mem_take hb)
  rwa [told_lies h.waits] at this)
/-- a crash in the midst of Commit -/
theorem VState.fell (h : VState N k t R d) {D : List Nat} (hD : ∀ x ∈ D, x < 256) (hf : usedJ R + pieces D.length ≤ N) : ∃ R', (R' = R ∨ R' = R ++ [D]) ∧ VBroken N k t t R' (d.fell (k * N + usedJ R) ((splitS t (usedJ R) D).map secB)).up := by
  obtain ⟨j, h1, h2, h3, h4, h5, h6⟩ := fell_reads h.jk h.ok h.waits h.pos hD hf
  have hN := h.n
  have hfit := fell_fit (d := d) (off := k * N + usedJ R) (L := (splitS t (usedJ R) D).map secB) h.fit.small (secs_small h.jk.turn hD (by omega))
  obtain ⟨d', hd'⟩ : ∃ x, x = (d.fell (k * N + usedJ R) ((splitS t (usedJ R) D).map secB)).up := ⟨_, rfl⟩
  have hl : d'.lies.length = 2 * N := by rw [hd', fell_len]; exact h.len
  have hw : d'.waits = [] := by rw [hd']; rfl
  have ha : d'.after = 0 := by rw [hd']; rfl
  rw [← hd'] at h3 h4 h5 h6 hfit ⊢
  have hR : (R ++ [D]).take j = R ∨ (R ++ [D]).take j = R ++ [D] := by
    rcases Nat.lt_or_ge j (R.length + 1) with h7 | h7
    · left; rw [show j = R.length by omega, List.take_left]
    · right; rw [List.take_of_length_le (by rw [List.length_append, List.length_singleton]; omega)]
  have hne : (R ++ [D]).take j ≠ [] := by
    rcases hR with e | e <;> rw [e]
    · exact h.ne
    · simp
  have hz : ∀ s ∈ d'.part ((1 - k) * N) N, s = List.replicate 64 0 := part_zero hw (fun i hi => by rw [h6 _ (halves_out hi h.half)]; exact h.rest i hi)
  refine ⟨(R ++ [D]).take j, hR, h.half, hl, hw, ha, hne, cur_is h.half hne (by have := h.jk.turn; omega) h3 (h4 hne) (.inl (zeros_reads hz)), top_le h.half hl h5 (fun b hb => by rw [hz b hb, zero_turn]; exact Nat.zero_le _), hfit⟩
theorem VState.zeroPart (h : VState N k t R d) : zeroL (d.part ((1 - k) * N) N).flatten = true := zeroL_iff.2 (fun x hx => by
  obtain ⟨s, hs, hx⟩ := List.mem_flatten.1 hx
  rw [part_zero h.waits h.rest s hs] at hx
  exact (List.mem_replicate.1 hx).2)
/-- a crash in the midst of Seal -/
theorem VState.sealed (h : VState N k t R d) {d' : Dev} {D : List Nat} (hT : t + 1 < 4294967296) (hD : ∀ x ∈ D, x < 256) (hp : pieces D.length ≤ N) (hl : LaidD d (1 - k) N (t + 1) D 13 d') : VBroken N k t (t + 1) R d'.up ∨ VBroken N (1 - k) (t + 1) (t + 1) [D] d'.up := by
  have hz := h.zeroPart
  have hk' : 1 - k ≤ 1 := by omega
  have hlen := halfN (N := N) h.half
  have hlen' := halfN (N := N) hk'
  have hN := h.n
  have hTT : t + 1 ≠ 0 ∧ t + 1 < 4294967296 := by omega
  rcases hl with ⟨_, hw⟩ | ⟨d1, hw, hx⟩
  · rcases hw with ⟨_, hc, _⟩ | ⟨hc, _⟩
    · cases hc
    · rw [hz] at hc; cases hc
  · have e1 : d1 = d := by
      rcases hw with ⟨_, _, rfl⟩ | ⟨hc, _⟩
      · exact flush_idle h.waits
      · rw [hz] at hc; cases hc
    subst e1
    rcases hx with ⟨_, _, rfl⟩ | ⟨_, hx⟩
    · -- in the midst of the image's writing
      have hj0 : JKeep true (t + 1) ((1 - k) * N) N [] 0 d1.up := JKeep.zero hTT rfl rfl (by show _ ≤ d1.lies.length; rw [h.len]; omega) h.waits (fun i y hi hy => by
        have hy : d1.lies[(1 - k) * N + i]? = some y := hy
        rw [h.rest i hi] at hy; cases hy; rfl)
      obtain ⟨j, h1, h2, h3, h4, h5, h6⟩ := fell_reads hj0 h.ok h.waits h.pos hD (by rw [usedJ_nil]; omega)
      rw [usedJ_nil, Nat.add_zero, List.nil_append] at h3 h4
      rw [usedJ_nil, Nat.add_zero] at h5 h6
      have hfit := fell_fit (d := d1) (off := (1 - k) * N) (L := (splitS (t + 1) 0 D).map secB) h.fit.small (secs_small hTT hD (by omega))
      obtain ⟨d', hd'⟩ : ∃ x, x = (d1.fell ((1 - k) * N) ((splitS (t + 1) 0 D).map secB)).up := ⟨_, rfl⟩
      have hl : d'.lies.length = 2 * N := by rw [hd', fell_len]; exact h.len
      have hw' : d'.waits = [] := by rw [hd']; rfl
      have ha : d'.after = 0 := by rw [hd']; rfl
      rw [← hd'] at h3 h4 h5 h6 hfit ⊢
      have hpk : d'.part (k * N) N = d1.part (k * N) N := part_same h.waits hw' (fun i hi => h6 _ (halves_out' hi h.half))
      have htop : topT d'.told ≤ t + 1 := top_le h.half hl (fun b hb => by rw [hpk] at hb; have := (h.partK b hb).turn; omega) h5
      obtain ⟨hrR, hrt⟩ := h.reads
      have hj01 : j = 0 ∨ j = 1 := by rw [List.length_nil] at h1 h2; omega
      rcases hj01 with rfl | rfl
      · left
        exact ⟨h.half, hl, hw', ha, h.ne, cur_is h.half h.ne (by have := h.jk.turn; omega) (by rw [hpk]; exact hrR) (by rw [hpk]; exact hrt) (.inl h3), htop, hfit⟩
      · right
        have hne : [D].take 1 ≠ [] := by simp
        refine ⟨hk', hl, hw', ha, by simp, cur_is hk' (by simp) (by omega) h3 (h4 hne) (.inr ?_), htop, hfit⟩
        rw [other_half h.half, hpk, hrt]; omega
    · -- in the midst of wiping what was
      rcases hx with ⟨_, hx⟩ | ⟨hc, _⟩
      · rw [other_half h.half] at hx
        obtain ⟨j2, o2, ok2, f2⟩ := commit_half (T := t + 1) h.ok h.waits h.fit h.len hk' h.rest hTT hD hp
        obtain ⟨d2, hd2⟩ : ∃ x, x = (d1.run ((1 - k) * N) ((splitS (t + 1) 0 D).map secB)).flush := ⟨_, rfl⟩
        have hl2 : d2.lies.length = 2 * N := by rw [hd2, run_len]; exact h.len
        have hw2 : d2.waits = [] := by rw [hd2]; rfl
        rw [← hd2] at hx j2 o2 ok2 f2
        rcases hx with ⟨_, hc, _⟩ | ⟨_, ⟨hc, _⟩ | ⟨_, _, rfl⟩⟩
        · cases hc
        · cases hc
        · rw [flush_idle hw2]
          have hsn : SmallL (List.replicate N ([] : List Nat)) := SmallL.nils N
          have hfit := fell_fit (d := d2) (off := k * N) (L := List.replicate N []) f2.small hsn
          have hlies : (d2.fell (k * N) (List.replicate N [])).up.lies = crashed d2.keep d2.torn d2.bytes d2.lies ((posW (k * N) (List.replicate (min d2.after N) zeros)).zipIdx) := by
            rw [fell_lies hw2, List.take_replicate, posW_nils]
          obtain ⟨d', hd'⟩ : ∃ x, x = (d2.fell (k * N) (List.replicate N [])).up := ⟨_, rfl⟩
          have hl : d'.lies.length = 2 * N := by rw [hd', fell_len]; exact hl2
          have hw' : d'.waits = [] := by rw [hd']; rfl
          have ha : d'.after = 0 := by rw [hd']; rfl
          have hdn : d'.down = false := by rw [hd']; rfl
          rw [← hd'] at hlies hfit ⊢
          have heach := fun j (hj : j < d2.lies.length) => crash_each d2.keep d2.torn d2.bytes d2.lies (k * N) 0 (List.replicate (min d2.after N) zeros) (fun b hb => by rw [(List.mem_replicate.1 hb).2]; exact zeros_len) ok2.sect j hj (by rw [List.length_replicate]; omega)
          rw [← hlies] at heach
          have hjo : JKeep true (t + 1) ((1 - k) * N) N [D] 1 d' := j2.same hdn ha hw' (by omega) (fun i hi => (heach _ (by omega)).2 (by rw [List.length_replicate]; have := halves_out hi h.half; omega))
          have hok' : d'.Ok := by
            rw [hd']
            have hwk : (d2.writes (k * N) ((List.replicate N ([] : List Nat)).take d2.after)).Ok := writes_ok' ok2 (fun b hb => by rw [(List.mem_replicate.1 (List.mem_of_mem_take hb)).2]; exact Nat.zero_le _) (by rw [List.length_take, List.length_replicate]; omega)
            exact Dev.up_ok (Dev.crash_ok hwk _ _ _)
          have hr1 : readsJ (d'.part ((1 - k) * N) N) = [D] := hjo.reads hok' rfl h.pos
          have hr2 := hjo.first hok' rfl h.pos
          rw [if_neg (by simp)] at hr2
          have hold : ∀ b ∈ d'.part (k * N) N, (stOf b).turn ≤ t := fun b hb => by
            obtain ⟨i, hi⟩ := List.getElem?_of_mem hb
            have hin : i < N := by have := (List.getElem?_eq_some_iff.1 hi).1; rw [Dev.part_length (by omega)] at this; exact this
            rw [Dev.part_get hin, told_lies hw'] at hi
            obtain ⟨y, hy⟩ : ∃ y, d2.lies[k * N + i]? = some y := ⟨_, List.getElem?_eq_getElem (by omega)⟩
            have hcy : Clean t y := h.clean i y hin (by rw [← o2 _ (halves_out' hin h.half)]; exact hy)
            by_cases him : i < min d2.after N
            · obtain ⟨kk, hkk, e⟩ := (heach (k * N + i) (by omega)).1 zeros y (by omega) (by rw [Nat.add_sub_cancel_left, List.getElem?_replicate, if_pos him]) hy
              rw [e] at hi
              cases hi
              exact mix_zeros hcy hkk
            · rw [(heach (k * N + i) (by omega)).2 (.inr (by rw [List.length_replicate]; omega)), hy] at hi
              cases hi
              exact hcy.turn
          have hnew : ∀ b ∈ d'.part ((1 - k) * N) N, (stOf b).turn ≤ t + 1 := fun b hb => by
            obtain ⟨i, hi⟩ := List.getElem?_of_mem hb
            have hin : i < N := by have := (List.getElem?_eq_some_iff.1 hi).1; rw [Dev.part_length (by omega)] at this; exact this
            rw [Dev.part_get hin, hjo.told_at hok' i hin] at hi
            by_cases h1 : i < usedJ [D]
            · rw [if_pos h1] at hi
              obtain ⟨s, hs⟩ : ∃ s, (secsJ (t + 1) 0 [D])[i]? = some s := ⟨_, List.getElem?_eq_getElem (by rw [usedJ_secs]; exact h1)⟩
              rw [hs] at hi
              cases hi
              have h3 := hjo.secs hok' s (List.mem_of_getElem? hs)
              rw [unpackS_secB h3.1]
              exact Nat.le_of_eq h3.2
            · rw [if_neg h1] at hi
              rw [(hjo.old i b (by show usedJ ([D].take 1) ≤ i; simpa using h1) hin hi).2 rfl, zero_turn]
              exact Nat.zero_le _
          right
          refine ⟨hk', hl, hw', ha, by simp, cur_is hk' (by simp) (by omega) hr1 hr2 (.inr ?_), top_le h.half hl (fun b hb => by have := hold b hb; omega) hnew, hfit⟩
          rw [other_half h.half]
          have := turn0_le hold
          omega
      · cases hc
end
end Go.Proofs.YtcdgbmeechnpiaaDoor
/- An image and changes held against others; made one image. -/
namespace Go.Proofs.YtcdgbmeechnpiaaDoor
open Go.RowKit

/-- the same image, and changes? -/
def sameL (xs : List Nat) (A : List (List Nat)) (ys : List Nat) (C : List (List Nat)) : Bool := decide (xs = ys ∧ A = C)
set_option maxRecDepth 1000000 in
set_option maxHeartbeats 8000000 in
theorem vsame_any {w : World} {va vA vb vC : Value} {xs ys : List Nat} {A C : List (List Nat)} (ha : Lies w va xs) (hA : RowsAt w vA A) (hb : Lies w vb ys) (hC : RowsAt w vC C) (sx : ∀ x ∈ xs, x < 256) (sy : ∀ x ∈ ys, x < 256) (sA : SmallL A) (sC : SmallL C) (lA : A.length ≤ 1000000000) :
    Calls Tryd.prog 16 #[va, vA, vb, vC] w fun e w' => e = .returned (.bool (sameL xs A ys C)) ∧ Below w.heap.size w w' := by
  obtain ⟨aA, cA, rfl, hrA⟩ := hA
  obtain ⟨aC, cC, rfl, hrC⟩ := hC
  obtain ⟨ax, cx, rfl⟩ := lies_len ha
  obtain ⟨ay, cy, rfl⟩ := lies_len hb
  have x1 := text_of ha _ Tryd.underlying9
  have x2 := text_of hb _ Tryd.underlying9
  have heq := str_beq sx sy
  obtain ⟨Sx, hSx⟩ : ∃ s, s = strOf xs := ⟨_, rfl⟩
  obtain ⟨Sy, hSy⟩ : ∃ s, s = strOf ys := ⟨_, rfl⟩
  rw [← hSx] at x1
  rw [← hSy] at x2
  rw [← hSx, ← hSy] at heq
  obtain ⟨nx, hnx⟩ : ∃ n, n = xs.length := ⟨_, rfl⟩
  obtain ⟨ny, hny⟩ : ∃ n, n = ys.length := ⟨_, rfl⟩
  obtain ⟨n, hn⟩ : ∃ n, n = A.length := ⟨_, rfl⟩
  obtain ⟨m, hm⟩ : ∃ n, n = C.length := ⟨_, rfl⟩
  rw [← hnx] at x1 ⊢
  rw [← hny] at x2 ⊢
  rw [← hn] at lA ⊢
  rw [← hm]
  obtain ⟨q, hq⟩ : ∃ q, q = sameL xs A ys C := ⟨_, rfl⟩
  have HQ := Lib.hid hq
  rw [← hq]
  have HRA := Lib.hid hrA
  have HRC := Lib.hid hrC
  have HSA := Lib.hid sA
  have HSC := Lib.hid sC
  have HN : Hid (n = A.length ∧ m = C.length) := Lib.hid ⟨hn, hm⟩
  clear ha hb hrA hrC sx sy sA sC hSx hSy hnx hny hn hm hq
  by_cases he : xs = ys
  · rw [decide_eq_true he] at heq
    by_cases hl : n = m
    · have HL := Lib.hid hl
      have HE := Lib.hid he
      have t1 : ((n : Int) != (m : Int)) = false := by simp [hl]
      clear hl he
      go_enter Tryd.func16, Tryd.ntmps16
      go_wp2
      go_loopw [24] (fun x wr => ∃ i : Nat, i ≤ n ∧ x = .int .i64 (i : Int) ∧ (∀ j, j < i → A[j]? = C[j]?) ∧ Below w.heap.size w wr) (fun x _ => n - (intOf x).toNat)
      case atStart => exact ⟨0, Nat.zero_le _, rfl, fun j h => by omega, Below.refl _ _⟩
      case round =>
        obtain ⟨i, hi, rfl, hall, hbb⟩ := hrel
        have HA := Lib.hid hall
        have HB := Lib.hid hbb
        clear hall hbb
        by_cases hlt : i < n
        · obtain ⟨g, hgi⟩ : ∃ g, A[i]? = some g := ⟨_, List.getElem?_eq_getElem (by have := HN.out; omega)⟩
          obtain ⟨r, hri⟩ : ∃ r, C[i]? = some r := ⟨_, List.getElem?_eq_getElem (by have := HN.out; have := HL.out; omega)⟩
          obtain ⟨b1, o1, a1, c1, rfl, cc1, l1⟩ := rows_get HRA.out hgi
          obtain ⟨b2, o2, a2, c2, rfl, cc2, l2⟩ := rows_get HRC.out hri
          have cd1 : wr.drew.cell? ⟨b1, o1 + i, none⟩ = some (.slice a1 g.length c1) := (HB.out.drew.cell (cell_lt cc1)).trans cc1
          have cd2 : wr.drew.cell? ⟨b2, o2 + i, none⟩ = some (.slice a2 r.length c2) := (HB.out.drew.cell (cell_lt cc2)).trans cc2
          have y1 := text_of (lies_on l1 HB.out.drew) _ Tryd.underlying9
          have y2 := text_of (lies_on l2 HB.out.drew) _ Tryd.underlying9
          have heq2 := str_beq (HSA.out g (List.mem_of_getElem? hgi)) (HSC.out r (List.mem_of_getElem? hri))
          obtain ⟨n1, hn1⟩ : ∃ n, n = g.length := ⟨_, rfl⟩
          obtain ⟨n2, hn2⟩ : ∃ n, n = r.length := ⟨_, rfl⟩
          obtain ⟨S1, hS1⟩ : ∃ s, s = strOf g := ⟨_, rfl⟩
          obtain ⟨S2, hS2⟩ : ∃ s, s = strOf r := ⟨_, rfl⟩
          rw [← hS1, ← hn1] at y1
          rw [← hS2, ← hn2] at y2
          rw [← hS1, ← hS2] at heq2
          rw [← hn1] at cd1
          rw [← hn2] at cd2
          have HGI := Lib.hid (And.intro hgi hri)
          have hnm := HL.out
          have ti1 : (i : Int) < (n : Int) := by omega
          have ti2 : (i : Int) < (m : Int) := by omega
          have HBD := Lib.hid HB.out.drew
          have hnmH := Lib.hid hnm
          obtain ⟨E, hE⟩ : ∃ E, E = decide (g = r) := ⟨_, rfl⟩
          rw [← hE] at heq2
          have HE2 := Lib.hid hE
          clear l1 l2 hn1 hn2 hS1 hS2 hgi hri cc1 cc2 hnm hE
          go_wp2_with fail
          go_region
          cases E with
          | true =>
            go_wp2
            go_roundw
            case rel => exact ⟨i + 1, by omega, by simp, fun j hj => by
              by_cases hji : j < i
              · exact HA.out j hji
              · obtain rfl : j = i := by omega
                rw [HGI.out.1, HGI.out.2, of_decide_eq_true HE2.out.symm], HBD.out⟩
            case measure => simp [intOf]; omega
          | false =>
            have hq : q = false := by
              rw [HQ.out]
              unfold sameL
              refine decide_eq_false fun h => ?_
              have h1 := HGI.out.1
              rw [h.2, HGI.out.2] at h1
              exact of_decide_eq_false HE2.out.symm (Option.some.inj h1).symm
            go_wp2
            go_ret
            exact ⟨by subst hq; rfl, HBD.out⟩
        · obtain rfl : i = n := by omega
          have hq : q = true := by
            rw [HQ.out]
            unfold sameL
            refine decide_eq_true ⟨HE.out, List.ext_getElem? fun j => ?_⟩
            by_cases hj : j < i
            · exact HA.out j hj
            · rw [List.getElem?_eq_none (by have := HN.out; omega), List.getElem?_eq_none (by have := HN.out; have := HL.out; omega)]
          go_wp2
          go_ret
          exact ⟨by subst hq; rfl, HB.out⟩
    · have t1 : ((n : Int) != (m : Int)) = true := by simp; omega
      have hq : q = false := by
        rw [HQ.out]
        unfold sameL
        exact decide_eq_false fun h => hl (by rw [HN.out.1, HN.out.2, h.2])
      clear hl he
      go_enter Tryd.func16, Tryd.ntmps16
      go_wp2
      go_ret
      exact ⟨by subst hq; rfl, Below.refl _ _⟩
  · rw [decide_eq_false he] at heq
    have hq : q = false := by
      rw [HQ.out]
      unfold sameL
      exact decide_eq_false fun h => he h.1
    clear he
    go_enter Tryd.func16, Tryd.ntmps16
    go_wp2
    go_ret
    exact ⟨by subst hq; rfl, Below.refl _ _⟩
/-- an image of an image and changes: their last 300 bytes -/
def wholeL (xs : List Nat) (A : List (List Nat)) : List Nat := (xs ++ A.flatten).drop ((xs ++ A.flatten).length - 300)
theorem wholeL_small {xs : List Nat} {A : List (List Nat)} (h1 : ∀ x ∈ xs, x < 256) (h2 : SmallL A) : ∀ x ∈ wholeL xs A, x < 256 := fun x hx => by
  have hx := List.mem_of_mem_drop hx
  rcases List.mem_append.1 hx with h | h
  · exact h1 x h
  · exact h2.flat x h
theorem wholeL_len (xs : List Nat) (A : List (List Nat)) : (wholeL xs A).length ≤ 300 := by unfold wholeL; rw [List.length_drop]; omega
theorem flatten_take {A : List (List Nat)} {i : Nat} {g : List Nat} (h : A[i]? = some g) : (A.take (i + 1)).flatten = (A.take i).flatten ++ g := by rw [take_more h, List.flatten_append]; simp
theorem flatten_le (A : List (List Nat)) (i : Nat) : (A.take i).flatten.length ≤ A.flatten.length := by
  conv => rhs; rw [← List.take_append_drop i A, List.flatten_append, List.length_append]
  omega
theorem whole_end {B g m z c : Nat} {w : World} {O : List Nat} (h : w.ownsRow B 5 1 (.slice (some ⟨g, 0, none⟩) m c) m (u8s O)) (hm : m = O.length) (hz : z < m) : LiesFrom B w (.slice (some ⟨g, z, none⟩) (m - z) (c - z)) (O.drop z) := by
  rcases h.2 with ⟨_, h0⟩ | ⟨g', cap, cur, hv, hg, _, hc, _⟩
  · omega
  · cases hv
    have hl : (O.drop z).length = m - z := by rw [List.length_drop]; omega
    refine .inr (.inr ⟨g, z, c - z, by rw [hl], by omega, hg, fun j hj => ?_, fun e => by rw [e] at hl; simp at hl; omega⟩)
    rw [h.cellAt (z + j) (by omega)]
    have h1 := u8s_getD O (z + j) (by omega)
    rw [h1]
    simp [List.getD, List.getElem?_drop]
set_option maxRecDepth 1000000 in
set_option maxHeartbeats 8000000 in
theorem vwhole_any {w : World} {va vA : Value} {xs : List Nat} {A : List (List Nat)} (ha : Lies w va xs) (hA : RowsAt w vA A) (hl : xs.length + A.flatten.length ≤ 1000000000) (lA : A.length ≤ 1000000000) :
    Calls Tryd.prog 17 #[va, vA] w fun e w' => ∃ v, e = .returned v ∧ LiesFrom w.heap.size w' v (wholeL xs A) ∧ Below w.heap.size w w' := by
  obtain ⟨aA, cA, rfl, hrA⟩ := hA
  obtain ⟨ax, cx, rfl⟩ := lies_len ha
  obtain ⟨iU, hiU, hzU, hsU, hbU⟩ := info_u8
  obtain ⟨n, hn⟩ : ∃ n, n = A.length := ⟨_, rfl⟩
  obtain ⟨nx, hnx⟩ : ∃ n, n = xs.length := ⟨_, rfl⟩
  have HX := Lib.hid (And.intro ha (And.intro hnx hn))
  have HRA := Lib.hid hrA
  have HLL := Lib.hid hl
  rw [← hn] at lA ⊢
  rw [← hnx]
  have HOE : Hid ((w.alloc (.cells #[] 5)).ownsRow w.heap.size 5 1 (.slice (some ⟨w.heap.size, 0, none⟩) 0 0) 0 (u8s [])) := Lib.hid (own_empty w)
  have HBE : Hid (Below w.heap.size w (w.alloc (.cells #[] 5))) := Lib.hid ((Below.refl _ _).alloc (Nat.le_refl _) _)
  have HLX : Hid (Lies (w.alloc (.cells #[] 5)) (.slice ax nx cx) xs) := Lib.hid (lies_on (by rw [hnx]; exact ha) HBE.out)
  clear ha hrA hl hn hnx
  go_enter Tryd.func17, Tryd.ntmps17
  go_wp2_with (at_builtin; refine wpList_append_bytes (w.alloc (.cells #[] 5)) rfl (.tmp 8) (.tmp 9) 31 rfl w.heap.size 5 iU Tryd.underlying31 hiU hzU hsU hbU (.slice (some ⟨w.heap.size, 0, none⟩) 0 0) 0 (u8s []) rfl HOE.out (.slice ax nx cx) xs rfl HLX.out (by have := HLL.out; omega) HBE.out.size ?_; intro v4 w4 hown4 hg4 _; have HO4 := Lib.hid (show w4.ownsRow w.heap.size 5 1 v4 (0 + xs.length) (u8s ([] ++ xs)) by rw [u8s_append]; exact hown4); have HB4 : Hid (Below w.heap.size w w4) := Lib.hid (HBE.out.grown hg4 HBE.out.size (fun k hk => (HOE.out.lt k hk).1)); clear hown4 hg4)
  go_loopw [5, 13] (fun v x wr => ∃ i : Nat, i ≤ n ∧ x = .int .i64 (i : Int) ∧ wr.ownsRow w.heap.size 5 1 v (xs ++ (A.take i).flatten).length (u8s (xs ++ (A.take i).flatten)) ∧ Below w.heap.size w wr) (fun _ x _ => n - (intOf x).toNat)
  case atStart => exact ⟨0, Nat.zero_le _, rfl, by have h := HO4.out; rw [List.nil_append, Nat.zero_add] at h; rw [List.take_zero, List.flatten_nil, List.append_nil]; exact h, HB4.out⟩
  case round =>
    obtain ⟨i, hi, rfl, ho, hb⟩ := hrel
    have HO := Lib.hid ho
    have HB := Lib.hid hb
    obtain ⟨m, hm⟩ : ∃ m, m = (xs ++ (A.take i).flatten).length := ⟨_, rfl⟩
    have hm9 : m ≤ 1000000000 := by rw [hm, List.length_append]; have := flatten_le A i; have := HLL.out; omega
    by_cases hlt : i < n
    · obtain ⟨g, hgi⟩ : ∃ g, A[i]? = some g := ⟨_, List.getElem?_eq_getElem (by have := HX.out; omega)⟩
      obtain ⟨b1, o1, a1, c1, rfl, cc1, l1⟩ := rows_get HRA.out hgi
      have cw : wr.cell? ⟨b1, o1 + i, none⟩ = some (.slice a1 g.length c1) := (HB.out.cell (cell_lt cc1)).trans cc1
      have HL1 : Hid (Lies wr (.slice a1 g.length c1) g) := Lib.hid (lies_on l1 HB.out)
      have hg9 : g.length ≤ 1000000000 := by
        have h1 := flatten_take hgi
        have h2 := flatten_le A (i + 1)
        rw [h1, List.length_append] at h2
        have := HLL.out; omega
      obtain ⟨ng, hng⟩ : ∃ q, q = g.length := ⟨_, rfl⟩
      rw [← hng] at cw HL1
      have HG := Lib.hid (And.intro hgi hng)
      have hgg : g.length ≤ 1000000000 := hg9
      have hbs : w.heap.size ≤ wr.heap.size := HB.out.size
      have hoo := HO.out
      rw [← hm] at hoo
      have HOM := Lib.hid hoo
      have HMM := Lib.hid hm
      have hsum : m + g.length ≤ 1000000000000 := by omega
      have HSUM := Lib.hid hsum
      have ti : (i : Int) < (n : Int) := by omega
      clear ho hb l1 cc1 hgi hng hm hoo hsum hgg hg9
      go_wp2_with (at_builtin; refine wpList_append_bytes wr rfl (.tmp 17) (.tmp 18) 31 rfl w.heap.size 5 iU Tryd.underlying31 hiU hzU hsU hbU _ m _ rfl HOM.out (.slice a1 ng c1) g rfl HL1.out HSUM.out hbs ?_; intro v5 w5 hown5 hg5 _; have HO5 := Lib.hid hown5; have HB5 : Hid (Below w.heap.size w w5) := Lib.hid (HB.out.grown hg5 hbs (fun k hk => (HOM.out.lt k hk).1)); clear hown5 hg5)
      go_roundw
      case rel => exact ⟨i + 1, by omega, by simp, by
        have h := HO5.out
        rw [← u8s_append] at h
        rw [flatten_take HG.out.1, ← List.append_assoc, List.length_append, ← HMM.out]
        exact h, HB5.out⟩
      case measure => simp [intOf]; omega
    · obtain rfl : i = n := by omega
      have hall : (A.take i).flatten = A.flatten := by rw [List.take_of_length_le (by have := HX.out; omega)]
      rw [hall] at hm
      obtain ⟨O, hO⟩ : ∃ O, O = xs ++ A.flatten := ⟨_, rfl⟩
      have hoo := HO.out
      rw [hall, ← hO] at hoo
      rw [← hO] at hm
      obtain ⟨av, cv, rfl⟩ := own_slice ho
      rw [hall, ← hO] at hoo ⊢
      rw [← hm] at hoo ⊢
      have HOM := Lib.hid hoo
      have HMM := Lib.hid hm
      have HOO := Lib.hid hO
      clear ho hb hoo hm hall hO
      by_cases h300 : 300 < m
      · obtain ⟨g, cap, hga, hmc, hcap⟩ : ∃ g cap, av = some ⟨g, 0, none⟩ ∧ m ≤ cap ∧ cv = cap := by
          rcases HOM.out.2 with ⟨_, h0⟩ | ⟨g, cap, cur, hv, _, _, hc, _⟩
          · omega
          · injection hv with e1 e2 e3
            exact ⟨g, cap, e1, hc, e3⟩
        subst hga
        subst hcap
        obtain ⟨z, hz⟩ : ∃ z, z = m - 300 := ⟨_, rfl⟩
        have t1 : decide ((300 : Int) < (m : Int)) = true := by simp; omega
        have t1' : 300 < m := h300
        have e1 : IntKind.i64.wrap ((m : Int) - 300) = (z : Int) := by rw [IntKind.wrap_i64]; omega
        have hzc : z < cv := by omega
        have hzm : z ≤ m := by omega
        have HZ := Lib.hid hz
        clear hz
        go_wp2
        go_ret
        refine ⟨_, rfl, ?_, HB.out⟩
        have e : wholeL xs A = O.drop z := by unfold wholeL; rw [← HOO.out, ← HMM.out, ← HZ.out]
        rw [e]
        exact whole_end HOM.out HMM.out (by have := HZ.out; omega)
      · have t1 : decide ((300 : Int) < (m : Int)) = false := by simp; omega
        go_wp2
        go_ret
        refine ⟨_, rfl, ?_, HB.out⟩
        have e : wholeL xs A = O := by unfold wholeL; rw [← HOO.out, ← HMM.out, show m - 300 = 0 by omega, List.drop_zero]
        rw [e]
        exact LiesFrom.of_row (by rw [← HMM.out]; exact HOM.out)
end Go.Proofs.YtcdgbmeechnpiaaDoor
/- A vault on its device, as the laws use it. -/
namespace Go.Proofs.YtcdgbmeechnpiaaDoor
open Go.RowKit

/-- a vault, its journal, its device, what it has -/
structure Vau (B : Nat) (w : World) (V J P k N t : Nat) (R : List (List Nat)) (d : Dev) : Prop where
  sit : VSit B w V J P k N t (usedJ R) d
  st : VState N k t R d
/-- bytes that a vault's doings leave -/
structure ImgAt (w : World) (V J P : Nat) (v : Value) (bs : List Nat) : Prop where
  lies : Lies w v bs
  far : ∀ q, v.ownBlock = some q → bs ≠ [] → ¬ DBlk w P q ∧ q ≠ V ∧ q ≠ J
theorem ImgAt.kept {w w' : World} {V J P : Nat} {v : Value} {bs : List Nat} (h : ImgAt w V J P v bs) (hk : VKept V J P w w') : ImgAt w' V J P v bs :=
  ⟨h.lies.only2 hk.only (fun q hq hne hh => by
    obtain ⟨h1, h2, h3⟩ := h.far q hq hne
    rcases hh with e | e | e
    · exact h2 e
    · exact h3 e
    · exact h1 e), fun q hq hne => by
    obtain ⟨h1, h2, h3⟩ := h.far q hq hne
    exact ⟨hk.notD (h.lies.block hq hne) h1, h2, h3⟩⟩
theorem ImgAt.on {w w' : World} {B V J P : Nat} {d : Dev} {v : Value} {bs : List Nat} (h : ImgAt w V J P v bs) (hd : DevAt w B P d) (hb : Below w.heap.size w w') : ImgAt w' V J P v bs := h.kept (kept_on hd hb).jo.vault
theorem ImgAt.journal {w : World} {V J J' P m : Nat} {v : Value} {bs : List Nat} (h : ImgAt w V J P v bs) (hm : ∀ q, v.ownBlock = some q → bs ≠ [] → q < m) (hJ : m ≤ J') : ImgAt w V J' P v bs :=
  ⟨h.lies, fun q hq hne => ⟨(h.far q hq hne).1, (h.far q hq hne).2.1, by have := hm q hq hne; omega⟩⟩
theorem ImgAt.fresh {w : World} {V J P m : Nat} {v : Value} {bs : List Nat} (hl : LiesFrom m w v bs) (hD : ∀ q, DBlk w P q → q < m) (hV : V < m) (hJ : J < m) : ImgAt w V J P v bs :=
  ⟨hl.lies, fun q hq hne => by
    have h1 := (hl.block hq hne).1
    exact ⟨fun hh => by have := hD q hh; omega, by omega, by omega⟩⟩
theorem img_nil (w : World) (V J P : Nat) : ImgAt w V J P (.slice none 0 0) [] := ⟨.inl ⟨rfl, rfl⟩, fun q h => by cases h⟩
section
variable {B : Nat} {w : World} {V J P k N t : Nat} {R : List (List Nat)} {d : Dev}
theorem Vau.on {w' : World} (h : Vau B w V J P k N t R d) (hb : Below w.heap.size w w') : Vau B w' V J P k N t R d := ⟨h.sit.on hb, h.st⟩
/-- a change committed, or the device falls -/
theorem vau_commit {D : List Nat} {v : Value} (h : Vau B w V J P k N t R d) (hB : B ≤ w.heap.size) (hgB : 0 < B) (hv : Lies w v D) (hD : ∀ x ∈ D, x < 256) (hl : StepsLaid w) (hf : usedJ R + pieces D.length ≤ N) :
    Calls Tryd.prog 8 #[.pointer (some ⟨V, 0, none⟩), v] w fun e w' => VKept V J P w w' ∧ ((e = .returned (.int .i64 0) ∧ ∃ d', Vau B w' V J P k N t (R ++ [D]) d' ∧ (d.after = 0 → d'.after = 0)) ∨
      (e = .returned (.int .i64 13) ∧ d.after ≠ 0 ∧ ∃ d' R', DevAt w' B P d' ∧ (R' = R ∨ R' = R ++ [D]) ∧ VBroken N k t t R' d'.up)) := by
  refine (vacommit_any h.sit hB hgB hv hD hl hf h.st.fit).mono ?_
  rintro e w' ⟨hk, ⟨_, rfl, hs⟩ | ⟨hg, rfl, hd⟩⟩
  · refine ⟨hk, .inl ⟨rfl, _, ⟨by rw [usedJ_append, usedJ_one]; exact hs, h.st.commit hD hf⟩, fun ha => by show d.after - _ = 0; omega⟩⟩
  · obtain ⟨R', h1, h2⟩ := h.st.fell hD hf
    exact ⟨hk, .inr ⟨rfl, fun ha => hg (.inl ha), _, R', hd, h1, h2⟩⟩
theorem vau_full {D : List Nat} {v : Value} (h : Vau B w V J P k N t R d) (hv : Lies w v D) (hbig : D.length ≤ 1000000000) (hf : N < usedJ R + pieces D.length) :
    Calls Tryd.prog 8 #[.pointer (some ⟨V, 0, none⟩), v] w fun e w' => e = .returned (.int .i64 6) ∧ Below w.heap.size w w' := vacommit_full h.sit h.st.used.2 hv hbig hf
/-- an image sealed, or the device falls -/
theorem vau_seal {D : List Nat} {v : Value} (h : Vau B w V J P k N t R d) (hB : B ≤ w.heap.size) (hgB : 0 < B) (hv : Lies w v D) (hfar : ∀ q, v.ownBlock = some q → D ≠ [] → ¬ DBlk w P q) (hD : ∀ x ∈ D, x < 256) (hl : StepsLaid w) (hp : pieces D.length ≤ N) (ht : t + 1 < 4294967296) :
    Calls Tryd.prog 11 #[.pointer (some ⟨V, 0, none⟩), v] w fun e w' => JKept V P w w' ∧ ((e = .returned (.int .i64 0) ∧ ∃ J' d', w.heap.size ≤ J' ∧ Vau B w' V J' P (1 - k) N (t + 1) [D] d' ∧ (d.after = 0 → d'.after = 0)) ∨
      (e = .returned (.int .i64 13) ∧ d.after ≠ 0 ∧ ∃ d', DevAt w' B P d' ∧ (VBroken N k t (t + 1) R d'.up ∨ VBroken N (1 - k) (t + 1) (t + 1) [D] d'.up))) := by
  refine (vaseal_any h.sit.va h.sit.dev hB hgB h.sit.vn h.sit.vb h.sit.half h.sit.len h.sit.pos (T := t + 1) (by rw [h.st.top]) ht hv hfar hD hl hp h.st.fit).mono ?_
  rintro e w' ⟨c, d', rfl, hla, hd, hk, hz⟩
  rcases hla.code with rfl | rfl
  · obtain ⟨J', hJ, hs⟩ := hz rfl
    refine ⟨hk, .inl ⟨rfl, J', d', hJ, ⟨by rw [usedJ_one]; exact hs, laid_state h.st.ok h.st.waits h.st.fit h.st.len h.st.pos (by omega) (by omega) hD hp hla⟩, fun ha => (hla.calm ha).2⟩⟩
  · exact ⟨hk, .inr ⟨rfl, fun ha => by have := (hla.calm ha).1; omega, d', hd, h.st.sealed ht hD hp hla⟩⟩
/-- opened -/
theorem vau_open {r : List Nat} {R : List (List Nat)} (h : Vau B w V J P k N t (r :: R) d) :
    Calls Tryd.prog 15 #[.pointer (some ⟨P, 0, none⟩)] w fun e w' => ∃ X u v, e = .returned (.tuple #[.pointer (some ⟨X, 0, none⟩), u, v, .int .i64 0]) ∧ VAt w' X P k t none false ∧ Lies w' u r ∧ RowsAt w' v R ∧ w.heap.size ≤ X ∧ Below w.heap.size w w' :=
  vaopen_any h.sit.dev h.st.fit.up h.st.fit.small h.st.len h.sit.pos h.st.cur
end
theorem vb_open {B : Nat} {w : World} {P k N t T : Nat} {r : List Nat} {R : List (List Nat)} {d : Dev} (hd : DevAt w B P d) (h : VBroken N k t T (r :: R) d) (hN : 4 ≤ N) :
    Calls Tryd.prog 15 #[.pointer (some ⟨P, 0, none⟩)] w fun e w' => ∃ X u v, e = .returned (.tuple #[.pointer (some ⟨X, 0, none⟩), u, v, .int .i64 0]) ∧ VAt w' X P k t none false ∧ Lies w' u r ∧ RowsAt w' v R ∧ w.heap.size ≤ X ∧ Below w.heap.size w w' :=
  vaopen_any hd h.fit.up h.fit.small h.len hN h.cur
/-- behind a crash an image is sealed -/
theorem vb_seal {B : Nat} {w : World} {X P k N t T : Nat} {R : List (List Nat)} {d : Dev} {D : List Nat} {v : Value} (hx : VAt w X P k t none false) (hd : DevAt w B P d) (h : VBroken N k t T R d) (hN : 4 ≤ N) (hB : B ≤ w.heap.size) (hgB : 0 < B) (hXd : ¬ DBlk w P X) (hXB : B ≤ X) (hT : T + 1 < 4294967296)
    (hv : Lies w v D) (hfar : ∀ q, v.ownBlock = some q → D ≠ [] → ¬ DBlk w P q) (hD : ∀ x ∈ D, x < 256) (hl : StepsLaid w) (hp : pieces D.length ≤ N) :
    Calls Tryd.prog 11 #[.pointer (some ⟨X, 0, none⟩), v] w fun e w' => e = .returned (.int .i64 0) ∧ JKept X P w w' ∧ ∃ J' d' t', w.heap.size ≤ J' ∧ t' ≤ T + 1 ∧ Vau B w' X J' P (1 - k) N t' [D] d' ∧ d'.after = 0 := by
  have htop := h.top
  refine (vaseal_any hx hd hB hgB hXd hXB h.half h.len hN (T := topT d.told + 1) rfl (by omega) hv hfar hD hl hp h.fit).mono ?_
  rintro e w' ⟨c, d', rfl, hla, hd', hk, hz⟩
  obtain ⟨rfl, ha⟩ := hla.calm h.calm
  obtain ⟨J', hJ, hs⟩ := hz rfl
  exact ⟨rfl, hk, J', d', topT d.told + 1, hJ, by omega, ⟨by rw [usedJ_one]; exact hs, laid_state hd.ok h.waits h.fit h.len (by omega) (by have := h.half; omega) (by omega) hD hp hla⟩, ha⟩
/-- Commit of an opened vault -/
theorem vopened_commit {w : World} {X P k t : Nat} {v : Value} (hx : VAt w X P k t none false) : Calls Tryd.prog 8 #[.pointer (some ⟨X, 0, none⟩), v] w fun e w' => e = .returned (.int .i64 14) ∧ w' = w := by
  obtain ⟨c0, c1, c2, c3, c4⟩ := hx.cells
  have c3' : w.cell? ⟨X, 3, none⟩ = some (.pointer none) := c3
  clear hx c3
  go_enter Tryd.func8, Tryd.ntmps8
  go_wp2
  go_ret
  exact ⟨rfl, rfl⟩
theorem vau_format {B : Nat} {w : World} {P N : Nat} {D : List Nat} {v : Value} (hd : DevAt w B P (Dev.fresh (2 * N))) (hB : B ≤ w.heap.size) (hgB : 0 < B) (hN4 : 4 ≤ N)
    (hli : Lies w v D) (hfar : ∀ q, v.ownBlock = some q → D ≠ [] → ¬ DBlk w P q) (hDs : ∀ x ∈ D, x < 256) (hst : StepsLaid w) (hp : pieces D.length ≤ N) :
    Calls Tryd.prog 7 #[.pointer (some ⟨P, 0, none⟩), v] w fun e w' => ∃ V J d', e = .returned (.tuple #[.pointer (some ⟨V, 0, none⟩), .int .i64 0]) ∧ Vau B w' V J P 0 N 1 [D] d' ∧ d'.after = 0 ∧ Kept P w w' ∧ w.heap.size ≤ V ∧ w.heap.size ≤ J := by
  refine (vaformat_any hd hB hgB hN4 hli hfar hDs hst hp).mono ?_
  rintro e w' ⟨V, J, d', rfl, hla, hs, hk, hV, hJ⟩
  exact ⟨V, J, d', rfl, ⟨by rw [usedJ_one]; exact hs, laid_state hd.ok rfl fresh_fit (by simp [Dev.fresh]) (by omega) (by omega) (by omega) hDs hp hla⟩, (hla.calm rfl).2, hk, hV, hJ⟩
/-- the image's bytes are what half, turn and image tell -/
theorem VState.same {N k t : Nat} {R : List (List Nat)} {d d' : Dev} (h : VState N k t R d) (h' : VState N k t R d') : d.lies = d'.lies := by
  refine List.ext_getElem? fun j => ?_
  by_cases hj : j < 2 * N
  · rcases halves hj k h.half with ⟨i, hi, rfl⟩ | ⟨i, hi, rfl⟩
    · by_cases h1 : i < usedJ R
      · obtain ⟨s, hs⟩ : ∃ s, (secsJ t 0 R)[i]? = some s := ⟨_, List.getElem?_eq_getElem (by rw [usedJ_secs]; exact h1)⟩
        have e1 : d.lies[k * N + i]? = some (secB s) := h.jk.done i s (by rw [List.take_length]; exact h1) hs
        have e2 : d'.lies[k * N + i]? = some (secB s) := h'.jk.done i s (by rw [List.take_length]; exact h1) hs
        rw [e1, e2]
      · obtain ⟨b, hb⟩ : ∃ b, d.lies[k * N + i]? = some b := ⟨_, List.getElem?_eq_getElem (by rw [h.len]; exact hj)⟩
        obtain ⟨b', hb'⟩ : ∃ b, d'.lies[k * N + i]? = some b := ⟨_, List.getElem?_eq_getElem (by rw [h'.len]; exact hj)⟩
        rw [hb, hb', (h.jk.old i b (by rw [List.take_length]; omega) hi hb).2 rfl, (h'.jk.old i b' (by rw [List.take_length]; omega) hi hb').2 rfl]
    · rw [h.rest i hi, h'.rest i hi]
  · rw [List.getElem?_eq_none (by rw [h.len]; omega), List.getElem?_eq_none (by rw [h'.len]; omega)]
end Go.Proofs.YtcdgbmeechnpiaaDoor
/- The chapter's example. -/
namespace Go.Proofs.YtcdgbmeechnpiaaDoor
open Go.RowKit

theorem const_far {w : World} {B P : Nat} {d : Dev} {b : Nat} (hd : DevAt w B P d) (o : Obj) (n c : Nat) (bs : List Nat) (hb : b = w.heap.size) : ∀ q, (Value.slice (some ⟨b, 0, none⟩) n c).ownBlock = some q → bs ≠ [] → ¬ DBlk (w.alloc o) P q := fun q hq _ hh => by
  have hq : b = q := by injection hq
  have h1 := dblk_on hd ((Below.refl w.heap.size w).alloc (Nat.le_refl _) o) hh
  have := hd.lt h1
  omega
set_option maxRecDepth 1000000 in
set_option maxHeartbeats 8000000 in
theorem lives11_any (w : World) (hl : StepsLaid w) : Calls Tryd.prog 5 #[] w fun e w' => e = .returned (.bool true) ∧ Below w.heap.size w w' := by
  have hgB := hl.lt
  obtain ⟨B, hBB⟩ : ∃ B, B = w.heap.size := ⟨_, rfl⟩
  have HBW := Lib.hid hBB
  rw [← hBB] at hgB
  have HL := Lib.hid hl
  clear hl hBB
  go_enter Tryd.func5, Tryd.ntmps5
  repeat (first | go_values | go_skip | go_guarded | go_step)
  refine (new_ok (n := 20) (by omega) (by omega) w).mono ?_
  rintro e w1 ⟨P, rfl, hd1, hb1⟩
  have HD1 := Lib.hid hd1
  have HB1 := Lib.hid hb1
  clear hd1 hb1
  dsimp only
  rw [← HBW.out] at HD1 HB1
  have hz1 : B ≤ w1.heap.size := Nat.le_trans (by rw [HBW.out]; exact Nat.le_refl _) HB1.out.size
  have HZ1 : Hid (B ≤ (w1.alloc (.cells (u8s [120]).toArray 5 (1, 2))).heap.size) := Lib.hid (by rw [World.size_alloc]; omega)
  have HL1 : Hid (StepsLaid (w1.alloc (.cells (u8s [120]).toArray 5 (1, 2)))) := Lib.hid ((HL.out.keep HB1.out hgB).alloc _)
  have HF := Lib.hid (vau_format (N := 10) (D := [120]) (HD1.out.beyond ((Below.refl w1.heap.size w1).alloc (Nat.le_refl _) (.cells (u8s [120]).toArray 5 (1, 2)))) HZ1.out hgB (by omega) (const_lies w1 [120] (1, 2)) (const_far HD1.out _ _ _ _ rfl) (by simp) HL1.out (by decide))
  repeat (first | (refine wpList_conv_const rfl 31 5 (.tmp 17) rfl (u8s [120]).toArray 1 1 rfl Tryd.underlying31 Tryd.underlying5 ?_) | (go_at_call 7; refine (HF.out).mono ?_; rintro e w2 ⟨V, J, d2, rfl, hs2, ha2, hk2, hV2, hJ2⟩; have HS2 := Lib.hid hs2; have HA2 := Lib.hid ha2; have HB2 : Hid (Below B w w2) := Lib.hid ((HB1.out.alloc hz1 _).trans ((HD1.out.beyond ((Below.refl w1.heap.size w1).alloc (Nat.le_refl _) (.cells (u8s [120]).toArray 5 (1, 2)))).below HZ1.out hk2)); have hz2 : B ≤ w2.heap.size := Nat.le_trans (by rw [HBW.out]; exact Nat.le_refl _) HB2.out.size; have HZ2 : Hid (B ≤ (w2.alloc (.cells (u8s [97]).toArray 5 (1, 2))).heap.size) := Lib.hid (by rw [World.size_alloc]; omega); have HL2 : Hid (StepsLaid (w2.alloc (.cells (u8s [97]).toArray 5 (1, 2)))) := Lib.hid ((HL.out.keep HB2.out hgB).alloc _); clear hs2 ha2 hk2 hV2 hJ2; dsimp only) | (refine wpList_conv_const rfl 31 5 (.tmp 23) rfl (u8s [97]).toArray 1 1 rfl Tryd.underlying31 Tryd.underlying5 ?_) | (go_at_call 8; refine (vau_commit (D := [97]) (HS2.out.on ((Below.refl _ _).alloc (Nat.le_refl _) _)) HZ2.out hgB (const_lies w2 [97] (1, 2)) (by simp) HL2.out (by decide)).mono ?_; rintro e w3 ⟨hk3, hx⟩; obtain ⟨rfl, d3, hs3, ha3⟩ := hx.resolve_right (fun h => h.2.1 HA2.out); have HS3 := Lib.hid hs3; have HA3 := Lib.hid (ha3 HA2.out); have HB3 : Hid (Below B w w3) := Lib.hid ((HB2.out.alloc hz2 _).trans ((HS2.out.on ((Below.refl _ _).alloc (Nat.le_refl _) _)).sit.below HZ2.out hk3)); have hz3 : B ≤ w3.heap.size := Nat.le_trans (by rw [HBW.out]; exact Nat.le_refl _) HB3.out.size; have HZ3 : Hid (B ≤ (w3.alloc (.cells (u8s [121]).toArray 5 (1, 2))).heap.size) := Lib.hid (by rw [World.size_alloc]; omega); have HL3 : Hid (StepsLaid (w3.alloc (.cells (u8s [121]).toArray 5 (1, 2)))) := Lib.hid ((HL.out.keep HB3.out hgB).alloc _); clear hs3 ha3 hk3 hx; dsimp only) | (refine wpList_conv_const rfl 31 5 (.tmp 27) rfl (u8s [121]).toArray 1 1 rfl Tryd.underlying31 Tryd.underlying5 ?_) | (go_at_call 11; refine (vau_seal (D := [121]) (HS3.out.on ((Below.refl _ _).alloc (Nat.le_refl _) _)) HZ3.out hgB (const_lies w3 [121] (1, 2)) (const_far HS3.out.sit.dev _ _ _ _ rfl) (by simp) HL3.out (by decide) (by decide)).mono ?_; rintro e w4 ⟨hk4, hx⟩; obtain ⟨rfl, J4, d4, hJ4, hs4, ha4⟩ := hx.resolve_right (fun h => h.2.1 HA3.out); have HS4 := Lib.hid hs4; have HB4 : Hid (Below B w w4) := Lib.hid ((HB3.out.alloc hz3 _).trans ((HS3.out.on ((Below.refl _ _).alloc (Nat.le_refl _) _)).sit.below HZ3.out hk4.vault)); clear hs4 ha4 hk4 hx hJ4; dsimp only) | go_values | go_skip | go_guarded | go_step)
  refine (vau_open HS4.out).mono ?_
  rintro e w5 ⟨X, u, v, rfl, hx, hu, hv, hX, hb5⟩
  obtain ⟨av, cv, rfl, _⟩ := hv
  obtain ⟨au, cu, rfl⟩ := lies_len hu
  have x2 := text_of hu _ Tryd.underlying9
  rw [show strOf [121] = ⟨#[121]⟩ from rfl, show ([121] : List Nat).length = 1 from rfl] at x2
  have HB5 : Hid (Below B w w5) := Lib.hid (HB4.out.trans (hb5.mono (Nat.le_trans (by rw [HBW.out]; exact Nat.le_refl _) HB4.out.size)))
  rw [show ([121] : List Nat).length = 1 from rfl, show ([] : List (List Nat)).length = 0 from rfl]
  clear hx hu hX hb5
  dsimp only
  go_wp2
  go_ret
  exact ⟨rfl, by have h := HB5.out; rw [HBW.out] at h; exact h⟩
end Go.Proofs.YtcdgbmeechnpiaaDoor
