/- A chunk's bits read again: what unpacking is, and what it gives; plain facts. -/
import Derived.Test.YtdfefhoihpbldaaDoorPts
namespace Go.Proofs.YtdfefhoihpbldaaDoor
open Go.RowKit

/-! ### Bytes as a row of bits -/
def bitsOf (bs : List Nat) : List Bool := (List.range (8 * bs.length)).map fun i => bitIn bs i == 1
theorem bitsOf_length (bs : List Nat) : (bitsOf bs).length = 8 * bs.length := by simp [bitsOf]
theorem bitsOf_at {bs : List Nat} {i : Nat} (h : i < 8 * bs.length) : (bitsOf bs)[i]? = some (bitIn bs i == 1) := by simp [bitsOf, h]
theorem bitN_of {bs : List Nat} {i : Nat} (h : i < 8 * bs.length) : bitN (bitsOf bs) i = bitIn bs i := by
  unfold bitN
  simp only [List.getD, bitsOf_at h, Option.getD_some]
  have := bitIn_le bs i
  have h2 : bitIn bs i = 0 ∨ bitIn bs i = 1 := by omega
  rcases h2 with h2 | h2 <;> simp [h2]
/-- so many bits are the number that they are read as -/
theorem bits_val {bs : List Nat} (p n : Nat) (h : p + n ≤ 8 * bs.length) : ((bitsOf bs).drop p).take n = numBits (valOf bs p n) n := by
  have key : ∀ k, k ≤ n → ∀ j, j < k → valOf bs p k / 2 ^ (k - 1 - j) % 2 = bitIn bs (p + j) := by
    intro k
    induction k with
    | zero => intro _ j hj; omega
    | succ k ih =>
      intro hk j hj
      rw [valOf]
      have hb := bitIn_le bs (p + k)
      rcases Nat.lt_or_ge j k with h1 | h1
      · rw [← ih (by omega) j h1, show k + 1 - 1 - j = (k - 1 - j) + 1 by omega, Nat.pow_succ, Nat.mul_comm (2 ^ _) 2, ← Nat.div_div_eq_div_mul]
        congr 2 <;> omega
      · obtain rfl : j = k := by omega
        rw [show j + 1 - 1 - j = 0 by omega, Nat.pow_zero, Nat.div_one]; omega
  apply List.ext_getElem?
  intro i
  rw [numBits_at, List.getElem?_take]
  by_cases hi : i < n
  · rw [if_pos hi, if_pos hi, List.getElem?_drop, bitsOf_at (by omega), key n (Nat.le_refl _) i hi]
    congr 1
  · rw [if_neg hi, if_neg hi]
/-- bits that begin as bytes do, with fewer than 8 behind them, all 0, are packed to these bytes -/
theorem pack_bits {bs : List Nat} (hb : ∀ x ∈ bs, x < 256) {p : Nat} (hp : p ≤ 8 * bs.length) (h8 : 8 * bs.length - p < 8) (hz : ∀ j, j < 8 * bs.length - p → bitIn bs (p + j) = 0) : packB ((bitsOf bs).take p) = bs := by
  have hl : ((bitsOf bs).take p).length = p := by rw [List.length_take, bitsOf_length]; omega
  have hbit : ∀ i, i < 8 * bs.length → bitN ((bitsOf bs).take p) i = bitIn bs i := by
    intro i hi
    rcases Nat.lt_or_ge i p with h1 | h1
    · rw [← bitN_of hi]; unfold bitN; congr 1; simp [List.getD, h1]
    · rw [bitN_out _ _ (by omega)]
      have := hz (i - p) (by omega)
      rw [show p + (i - p) = i by omega] at this
      exact this.symm
  apply List.ext_getElem?
  intro j
  by_cases hj : j < bs.length
  · rw [packB, bytesN_get _ _ _ (by rw [hl]; omega), List.getElem?_eq_getElem hj]
    congr 1
    have hx := hb _ (List.getElem_mem hj)
    have hd : ∀ m, m < 8 → bitIn bs (8 * j + m) = bs[j] / 2 ^ (7 - m) % 2 := by
      intro m hm
      unfold bitIn
      rw [show (8 * j + m) / 8 = j by omega, show (8 * j + m) % 8 = m by omega]
      simp [List.getD, List.getElem?_eq_getElem hj]
    unfold byteAt
    rw [show 8 * j = 8 * j + 0 from rfl]
    simp only [Nat.add_assoc, Nat.zero_add]
    rw [hbit _ (by omega), hbit _ (by omega), hbit _ (by omega), hbit _ (by omega), hbit _ (by omega), hbit _ (by omega), hbit _ (by omega), hbit _ (by omega)]
    rw [hd 0 (by omega), hd 1 (by omega), hd 2 (by omega), hd 3 (by omega), hd 4 (by omega), hd 5 (by omega), hd 6 (by omega), hd 7 (by omega)]
    simp only [Nat.reduceSub, Nat.reducePow]
    omega
  · rw [List.getElem?_eq_none (by rw [packB_length, hl]; omega), List.getElem?_eq_none (by omega)]

/-! ### Unpacking -/
def getAt (bs : List Nat) (p n : Nat) : Except Int Nat := if p + n ≤ 8 * bs.length then .ok (valOf bs p n) else .error 4
def ownAt (bs : List Nat) (p : Nat) : Except Int (Nat × Nat) :=
  match getAt bs p 7 with
  | .error e => .error e
  | .ok n => if 64 < n then .error 2 else
    match getAt bs (p + 7) n with
    | .error e => .error e
    | .ok x => if wid x = n then .ok (x, p + 7 + n) else .error 2
def headAt (bs : List Nat) (p : Nat) : Except Int (Pt × Nat) :=
  match getAt bs p 41 with
  | .error e => .error e
  | .ok a => if 1099511627776 < a then .error 3 else
    match getAt bs (p + 41) 64 with
    | .error e => .error e
    | .ok x => .ok (⟨a, unfoldZ x⟩, p + 105)
def nextAt (bs : List Nat) (p : Nat) (q : Pt) : Except Int (Pt × Nat) :=
  match ownAt bs p with
  | .error e => .error e
  | .ok (s, p1) => if 1099511627776 < q.a + 1 + s then .error 3 else
    match ownAt bs p1 with
    | .error e => .error e
    | .ok (c, p2) => .ok (⟨q.a + 1 + s, wrapS (q.v + unfoldZ c)⟩, p2)
def itemAt (bs : List Nat) (p : Nat) (acc : List Pt) : Except Int (Pt × Nat) := if acc = [] then headAt bs p else nextAt bs p (acc.getD (acc.length - 1) default)
def unp (bs : List Nat) : Nat → Nat → List Pt → Except Int (List Pt × Nat)
  | 0, p, acc => .ok (acc, p)
  | k + 1, p, acc => match itemAt bs p acc with
    | .error e => .error e
    | .ok (t, p') => unp bs k p' (acc ++ [t])
/-- are fewer than 8 bits left, all 0? -/
def cleanB (bs : List Nat) (p : Nat) : Bool := decide (8 * bs.length - p < 8) && (List.range (8 * bs.length - p)).all fun j => bitIn bs (p + j) == 0
/-- what unpacking tells: an error, and the points -/
def unpackS (bs : List Nat) : Int × List Pt :=
  match getAt bs 0 16 with
  | .error e => (e, [])
  | .ok n => match unp bs n 16 [] with
    | .error e => (e, [])
    | .ok (l, p) => if cleanB bs p then (0, l) else (2, [])

theorem getAt_ok {bs : List Nat} {p n x : Nat} (h : getAt bs p n = .ok x) : p + n ≤ 8 * bs.length ∧ x = valOf bs p n := by
  unfold getAt at h; split at h
  · exact ⟨by assumption, by injection h with h; exact h.symm⟩
  · simp at h
theorem getAt_err {bs : List Nat} {p n : Nat} {e : Int} (h : getAt bs p n = .error e) : e = 4 ∧ 8 * bs.length < p + n := by
  unfold getAt at h; split at h
  · simp at h
  · exact ⟨by injection h with h; exact h.symm, by omega⟩
theorem ownAt_err {bs : List Nat} {p : Nat} {e : Int} (h : ownAt bs p = .error e) : e = 4 ∨ e = 2 := by
  unfold ownAt at h
  split at h
  · rename_i e' he; injection h with h; subst h; exact .inl (getAt_err he).1
  · split at h
    · injection h with h; exact .inr h.symm
    · split at h
      · rename_i e' he; injection h with h; subst h; exact .inl (getAt_err he).1
      · split at h
        · simp at h
        · injection h with h; exact .inr h.symm
theorem item_err {bs : List Nat} {p : Nat} {acc : List Pt} {e : Int} (h : itemAt bs p acc = .error e) : e = 4 ∨ e = 2 ∨ e = 3 := by
  unfold itemAt at h
  split at h
  · unfold headAt at h
    split at h
    · rename_i e' he; injection h with h; subst h; exact .inl (getAt_err he).1
    · split at h
      · injection h with h; exact .inr (.inr h.symm)
      · split at h
        · rename_i e' he; injection h with h; subst h; exact .inl (getAt_err he).1
        · simp at h
  · unfold nextAt at h
    split at h
    · rename_i e' he; injection h with h; subst h; have := ownAt_err he; omega
    · split at h
      · injection h with h; exact .inr (.inr h.symm)
      · split at h
        · rename_i e' he; injection h with h; subst h; have := ownAt_err he; omega
        · simp at h
theorem unp_err {bs : List Nat} {e : Int} : ∀ (k p : Nat) (acc : List Pt), unp bs k p acc = .error e → e = 4 ∨ e = 2 ∨ e = 3
  | 0, p, acc, h => by simp [unp] at h
  | k + 1, p, acc, h => by
    simp only [unp] at h
    split at h
    · rename_i e' he; injection h with h; subst h; exact item_err he
    · exact unp_err k _ _ h
/-- ERRORS: the bits end, a form, a tick outside; then there are no points -/
theorem unpack_err {bs : List Nat} : (unpackS bs).1 = 0 ∨ ((unpackS bs).2 = [] ∧ ((unpackS bs).1 = 4 ∨ (unpackS bs).1 = 2 ∨ (unpackS bs).1 = 3)) := by
  unfold unpackS
  split
  · rename_i e he; exact .inr ⟨rfl, .inl (getAt_err he).1⟩
  · split
    · rename_i e he; exact .inr ⟨rfl, unp_err _ _ _ he⟩
    · split
      · exact .inl rfl
      · exact .inr ⟨rfl, .inr (.inl rfl)⟩
theorem getAt_bits {bs : List Nat} {p n x : Nat} (h : getAt bs p n = .ok x) : (bitsOf bs).take (p + n) = (bitsOf bs).take p ++ numBits x n := by
  obtain ⟨h1, rfl⟩ := getAt_ok h
  rw [← bits_val p n h1, List.take_add]
theorem ownAt_ok {bs : List Nat} {p x p' : Nat} (h : ownAt bs p = .ok (x, p')) : p' ≤ 8 * bs.length ∧ x < 18446744073709551616 ∧ (bitsOf bs).take p' = (bitsOf bs).take p ++ ownBits x := by
  unfold ownAt at h
  split at h
  · simp at h
  · rename_i n hn
    split at h
    · simp at h
    · rename_i h64
      split at h
      · simp at h
      · rename_i y hy
        split at h
        · rename_i hw
          injection h with h
          obtain ⟨rfl, rfl⟩ := Prod.mk.inj h
          have h1 := (getAt_ok hy).1
          refine ⟨by omega, ?_, ?_⟩
          · have := two_of_wid (x := y) (n := 64) (by omega); exact this
          · rw [getAt_bits hy, getAt_bits hn, ownBits, hw, List.append_assoc]
        · simp at h

theorem bitsAt_app (l : List Pt) (t : Pt) {i : Nat} (h : i < l.length) : bitsAt (l ++ [t]) i = bitsAt l i := by
  unfold bitsAt
  have e : ∀ j, j < l.length → (l ++ [t]).getD j default = l.getD j default := fun j hj => by simp [List.getD, List.getElem?_append_left hj]
  split
  · rw [e 0 (by omega)]
  · rw [e i h, e (i - 1) (by omega)]
theorem ptBits_app (l : List Pt) (t : Pt) {k : Nat} (h : k ≤ l.length) : ptBits (l ++ [t]) k = ptBits l k := by
  induction k with
  | zero => rfl
  | succ k ih => rw [ptBits_succ, ptBits_succ, ih (by omega), bitsAt_app l t (by omega)]
/-- what was read so far -/
def ReadTo (bs : List Nat) (n0 : Nat) (acc : List Pt) (p : Nat) : Prop := p ≤ 8 * bs.length ∧ (bitsOf bs).take p = numBits n0 16 ++ ptBits acc acc.length ∧ Rises acc ∧ ∀ t ∈ acc, t.fits
theorem rises_one {t : Pt} (h0 : 0 ≤ t.a) (h1 : t.a ≤ 1099511627776) : Rises [t] := by
  refine ⟨fun u hu => ?_, fun i p q hp hq => ?_⟩
  · obtain rfl : u = t := by simpa using hu
    exact ⟨h0, h1⟩
  · have := (List.getElem?_eq_some_iff.1 hq).1; simp at this
theorem rises_snoc {l : List Pt} {t : Pt} (h : Rises l) (hne : l ≠ []) (h1 : (l.getD (l.length - 1) default).a < t.a) (h2 : t.a ≤ 1099511627776) : Rises (l ++ [t]) := by
  have hpos := List.length_pos_iff.2 hne
  have hlast : l[l.length - 1]? = some (l.getD (l.length - 1) default) := by simp [List.getD, List.getElem?_eq_getElem (show l.length - 1 < l.length by omega)]
  have hin := h.1 _ (List.mem_of_getElem? hlast)
  refine ⟨fun u hu => ?_, fun i p q hp hq => ?_⟩
  · rcases List.mem_append.1 hu with hu | hu
    · exact h.1 u hu
    · obtain rfl : u = t := by simpa using hu
      exact ⟨by omega, h2⟩
  · have hi := (List.getElem?_eq_some_iff.1 hq).1
    rw [List.length_append, List.length_singleton] at hi
    rw [List.getElem?_append_left (by omega)] at hp
    rcases Nat.lt_or_ge (i + 1) l.length with h3 | h3
    · rw [List.getElem?_append_left h3] at hq; exact h.2 i p q hp hq
    · obtain rfl : i = l.length - 1 := by omega
      rw [List.getElem?_append_right (by omega), show l.length - 1 + 1 - l.length = 0 by omega] at hq
      rw [hlast] at hp
      obtain rfl : t = q := by simpa using hq
      rw [← Option.some.inj hp]; exact h1
theorem wrapS_back {p q : Int} (h0 : -9223372036854775808 ≤ q) (h1 : q ≤ 9223372036854775807) : wrapS (p + wrapS (q - p)) = q := by unfold wrapS; omega
theorem wrapS_change {p c : Int} (h0 : -9223372036854775808 ≤ c) (h1 : c ≤ 9223372036854775807) : wrapS (wrapS (p + c) - p) = c := by unfold wrapS; omega

/-- what is read is the next point's bits -/
theorem item_sound {bs : List Nat} {n0 p p' : Nat} {acc : List Pt} {t : Pt} (hr : ReadTo bs n0 acc p) (h : itemAt bs p acc = .ok (t, p')) : ReadTo bs n0 (acc ++ [t]) p' := by
  obtain ⟨hp, hbits, hris, hfit⟩ := hr
  have hsucc : ptBits (acc ++ [t]) (acc ++ [t]).length = ptBits acc acc.length ++ bitsAt (acc ++ [t]) acc.length := by
    rw [List.length_append, List.length_singleton, ptBits_succ, ptBits_app _ _ (Nat.le_refl _)]
  have hnew : (acc ++ [t]).getD acc.length default = t := by simp [List.getD]
  unfold itemAt at h
  split at h
  · rename_i h0
    subst h0
    unfold headAt at h
    split at h
    · simp at h
    · rename_i a ha
      split at h
      · simp at h
      · rename_i hrng
        split at h
        · simp at h
        · rename_i x hx
          injection h with h
          obtain ⟨rfl, rfl⟩ := Prod.mk.inj h
          have hx1 := getAt_ok hx
          have hxb : x < 18446744073709551616 := by rw [hx1.2]; exact valOf_lt bs (p + 41) 64
          have hin := unfoldZ_in hxb
          refine ⟨by omega, ?_, rises_one (by simp only; omega) (by simp only; omega), fun u hu => ?_⟩
          · rw [hsucc, ← List.append_assoc, ← hbits, show p + 105 = p + 41 + 64 by omega, getAt_bits hx, getAt_bits ha, List.append_assoc]
            congr 1
            simp [bitsAt, headBits, fold_unfold]
          · obtain rfl : u = ⟨(a : Int), unfoldZ x⟩ := by simpa using hu
            exact ⟨by simp only; omega, by simp only; omega, hin.1, hin.2⟩
  · rename_i h0
    unfold nextAt at h
    split at h
    · simp at h
    · rename_i s p1 hs
      split at h
      · simp at h
      · rename_i hrng
        split at h
        · simp at h
        · rename_i c p2 hc
          injection h with h
          obtain ⟨rfl, rfl⟩ := Prod.mk.inj h
          obtain ⟨s1, s2, s3⟩ := ownAt_ok hs
          obtain ⟨c1, c2, c3⟩ := ownAt_ok hc
          have hin := unfoldZ_in c2
          have hpos := List.length_pos_iff.2 h0
          have hlast : acc[acc.length - 1]? = some (acc.getD (acc.length - 1) default) := by simp [List.getD, List.getElem?_eq_getElem (show acc.length - 1 < acc.length by omega)]
          have hlr := hris.1 _ (List.mem_of_getElem? hlast)
          refine ⟨c1, ?_, rises_snoc hris h0 (by simp only; omega) (by simp only; omega), fun u hu => ?_⟩
          · rw [hsucc, ← List.append_assoc, ← hbits, c3, s3, List.append_assoc]
            congr 1
            rw [bitsAt, if_neg (by omega), hnew, nextBits]
            have e1 : (acc ++ [(⟨(acc.getD (acc.length - 1) default).a + 1 + (s : Int), wrapS ((acc.getD (acc.length - 1) default).v + unfoldZ c)⟩ : Pt)]).getD (acc.length - 1) default = acc.getD (acc.length - 1) default := by
              simp [List.getD, List.getElem?_append_left (show acc.length - 1 < acc.length by omega)]
            rw [e1]
            have e2 : stepN (acc.getD (acc.length - 1) default) ⟨(acc.getD (acc.length - 1) default).a + 1 + (s : Int), wrapS ((acc.getD (acc.length - 1) default).v + unfoldZ c)⟩ = s := by unfold stepN; simp only; omega
            have e3 : changeN (acc.getD (acc.length - 1) default) ⟨(acc.getD (acc.length - 1) default).a + 1 + (s : Int), wrapS ((acc.getD (acc.length - 1) default).v + unfoldZ c)⟩ = c := by
              unfold changeN; simp only; rw [wrapS_change hin.1 hin.2, fold_unfold]
            rw [e2, e3]
          · rcases List.mem_append.1 hu with hu | hu
            · exact hfit u hu
            · have hu2 : u = ⟨(acc.getD (acc.length - 1) default).a + 1 + (s : Int), wrapS ((acc.getD (acc.length - 1) default).v + unfoldZ c)⟩ := by simpa using hu
              subst hu2
              have hw := wrapS_in ((acc.getD (acc.length - 1) default).v + unfoldZ c)
              exact ⟨by simp only; omega, by simp only; omega, hw.1, hw.2⟩
theorem unp_sound {bs : List Nat} {n0 : Nat} : ∀ (k p : Nat) (acc : List Pt) {l : List Pt} {p' : Nat}, ReadTo bs n0 acc p → unp bs k p acc = .ok (l, p') → ReadTo bs n0 l p' ∧ l.length = acc.length + k
  | 0, p, acc, l, p', hr, h => by
    simp only [unp] at h
    injection h with h
    obtain ⟨rfl, rfl⟩ := Prod.mk.inj h
    exact ⟨hr, rfl⟩
  | k + 1, p, acc, l, p', hr, h => by
    simp only [unp] at h
    split at h
    · simp at h
    · rename_i t p1 ht
      obtain ⟨h1, h2⟩ := unp_sound k p1 (acc ++ [t]) (item_sound hr ht) h
      refine ⟨h1, ?_⟩
      rw [h2, List.length_append, List.length_singleton]; omega
/-- POINTS THAT ARE TOLD MAY BE, AND ARE PACKED TO THESE BYTES -/
theorem unpack_sound {bs : List Nat} (hb : ∀ x ∈ bs, x < 256) {l : List Pt} (h : unpackS bs = (0, l)) : Rises l ∧ (∀ t ∈ l, t.fits) ∧ packB (chunkBits l) = bs ∧ (chunkBits l).length ≤ 8 * bs.length := by
  unfold unpackS at h
  split at h
  · rename_i e he
    unfold getAt at he; split at he
    · simp at he
    · injection he with he; subst he; simp at h
  · rename_i n hn
    have hb0 := getAt_bits hn
    have hn1 := (getAt_ok hn).1
    split at h
    · rename_i e he
      exfalso
      have e0 : e = 0 := by simpa using (Prod.mk.inj h).1
      have := unp_err _ _ _ he; omega
    · rename_i l' p' hl
      split at h
      · rename_i hcl
        obtain ⟨_, rfl⟩ := Prod.mk.inj h
        have hstart : ReadTo bs n [] 16 := ⟨by omega, by simpa [ptBits] using hb0, ⟨fun t ht => by simp at ht, fun i p q hp => by simp at hp⟩, fun t ht => by simp at ht⟩
        obtain ⟨⟨h1, h2, h3, h4⟩, h5⟩ := unp_sound n 16 [] hstart hl
        simp only [cleanB, Bool.and_eq_true, decide_eq_true_eq, List.all_eq_true, List.mem_range] at hcl
        have hcb : chunkBits l' = (bitsOf bs).take p' := by rw [h2, chunkBits, h5]; simp
        refine ⟨h3, h4, ?_, ?_⟩
        · rw [hcb]; exact pack_bits hb h1 hcl.1 (fun j hj => by simpa using hcl.2 j hj)
        · rw [hcb, List.length_take, bitsOf_length]; omega
      · simp at h

/-! ### Bits that begin as a chunk's -/
def Agree (bs : List Nat) (L : List Bool) : Prop := ∀ m, m ≤ 8 * bs.length → m ≤ L.length → (bitsOf bs).take m = L.take m
theorem numBits_inj {x y n : Nat} (hx : x < 2 ^ n) (hy : y < 2 ^ n) (h : numBits x n = numBits y n) : x = y := by
  apply Nat.eq_of_testBit_eq
  intro i
  rcases Nat.lt_or_ge i n with hi | hi
  · have h1 := numBits_bit x n (n - 1 - i) (by omega)
    have h2 := numBits_bit y n (n - 1 - i) (by omega)
    rw [h] at h1
    rw [h1, show n - 1 - (n - 1 - i) = i by omega] at h2
    rw [Nat.testBit_eq_decide_div_mod_eq, Nat.testBit_eq_decide_div_mod_eq, h2]
  · rw [Nat.testBit_lt_two_pow (Nat.lt_of_lt_of_le hx (Nat.pow_le_pow_right (by omega) hi)), Nat.testBit_lt_two_pow (Nat.lt_of_lt_of_le hy (Nat.pow_le_pow_right (by omega) hi))]
theorem field_at {bs : List Nat} {L pre post : List Bool} {x n p : Nat} (hag : Agree bs L) (hL : L = pre ++ (numBits x n ++ post)) (hx : x < 2 ^ n) (hp : pre.length = p) : getAt bs p n = if p + n ≤ 8 * bs.length then .ok x else .error 4 := by
  subst hp
  unfold getAt
  split
  · rename_i h
    congr 1
    have h1 := hag (pre.length + n) h (by rw [hL]; simp [numBits_length])
    have h2 := bits_val pre.length n h
    have h3 : ((bitsOf bs).drop pre.length).take n = ((bitsOf bs).take (pre.length + n)).drop pre.length := by rw [List.drop_take]; congr 1; omega
    rw [h3, h1, hL, List.drop_take, List.drop_left, show pre.length + n - pre.length = n by omega] at h2
    rw [List.take_append_of_le_length (by rw [numBits_length]; omega), List.take_of_length_le (by rw [numBits_length]; omega)] at h2
    exact numBits_inj (valOf_lt bs pre.length n) hx h2.symm
  · rfl
theorem own_at {bs : List Nat} {L pre post : List Bool} {x p : Nat} (hag : Agree bs L) (hL : L = pre ++ (ownBits x ++ post)) (hx : x < 18446744073709551616) (hp : pre.length = p) :
    ownAt bs p = if p + (ownBits x).length ≤ 8 * bs.length then .ok (x, p + (ownBits x).length) else .error 4 := by
  have hw := wid_le 64 hx
  have e1 := field_at (x := wid x) (n := 7) (post := numBits x (wid x) ++ post) hag (by rw [hL, ownBits, List.append_assoc]) (by omega) hp
  have e2 := field_at (pre := pre ++ numBits (wid x) 7) (x := x) (n := wid x) (post := post) (p := p + 7) hag (by rw [hL, ownBits]; simp [List.append_assoc]) (two_of_wid (Nat.le_refl _)) (by rw [List.length_append, numBits_length, hp])
  rw [ownBits_length]
  unfold ownAt
  rw [e1]
  by_cases h1 : p + 7 ≤ 8 * bs.length
  · rw [if_pos h1]
    simp only
    rw [if_neg (by omega), e2]
    by_cases h2 : p + 7 + wid x ≤ 8 * bs.length
    · rw [if_pos h2, if_pos (by omega)]; simp; omega
    · rw [if_neg h2, if_neg (by omega)]
  · rw [if_neg h1, if_neg (by omega)]

def posOf (l : List Pt) (k : Nat) : Nat := 16 + (ptBits l k).length
theorem posOf_end (l : List Pt) : posOf l l.length = (chunkBits l).length := by rw [posOf, chunkBits, List.length_append, numBits_length]
theorem posOf_succ (l : List Pt) (k : Nat) : posOf l (k + 1) = posOf l k + (bitsAt l k).length := by rw [posOf, ptBits_succ, List.length_append, posOf]; omega
theorem posOf_le (l : List Pt) {k m : Nat} (h : k ≤ m) : posOf l k ≤ posOf l m := by
  induction m with
  | zero => obtain rfl : k = 0 := by omega
            exact Nat.le_refl _
  | succ m ih =>
    rcases Nat.lt_or_ge m k with h1 | h1
    · obtain rfl : k = m + 1 := by omega
      exact Nat.le_refl _
    · have := ih h1; rw [posOf_succ]; omega
theorem chunk_split (l : List Pt) {k : Nat} (hk : k < l.length) : ∃ post, chunkBits l = (numBits l.length 16 ++ ptBits l k) ++ (bitsAt l k ++ post) := by
  refine ⟨((List.range l.length).drop (k + 1)).flatMap (bitsAt l), ?_⟩
  have h1 : ptBits l l.length = ptBits l (k + 1) ++ ((List.range l.length).drop (k + 1)).flatMap (bitsAt l) := by
    unfold ptBits
    rw [← List.flatMap_append]
    congr 1
    have h2 := List.take_append_drop (k + 1) (List.range l.length)
    rw [List.take_range, Nat.min_eq_left (by omega)] at h2
    exact h2.symm
  rw [chunkBits, h1, ptBits_succ]
  simp [List.append_assoc]
theorem item_at {bs : List Nat} {l : List Pt} (hag : Agree bs (chunkBits l)) (hr : Rises l) (hf : ∀ t ∈ l, t.fits) {k : Nat} (hk : k < l.length) :
    itemAt bs (posOf l k) (l.take k) = if posOf l (k + 1) ≤ 8 * bs.length then .ok (l[k], posOf l (k + 1)) else .error 4 := by
  obtain ⟨post, hL⟩ := chunk_split l hk
  have hpre : (numBits l.length 16 ++ ptBits l k).length = posOf l k := by rw [List.length_append, numBits_length, posOf]
  have ht : l[k]? = some l[k] := List.getElem?_eq_getElem hk
  have hin := hr.1 _ (List.mem_of_getElem? ht)
  have hfit := hf _ (List.mem_of_getElem? ht)
  rw [posOf_succ]
  generalize hP : posOf l k = P at *
  unfold itemAt
  rcases Nat.eq_zero_or_pos k with h0 | h0
  · subst h0
    rw [List.take_zero, if_pos rfl]
    have hb : bitsAt l 0 = numBits l[0].a.toNat 41 ++ numBits (foldZ l[0].v) 64 := by rw [bitsAt, if_pos rfl, getD_at ht]; rfl
    rw [hb] at hL ⊢
    have e1 := field_at (x := l[0].a.toNat) (n := 41) (post := numBits (foldZ l[0].v) 64 ++ post) hag (by rw [hL]; simp [List.append_assoc]) (by omega) hpre
    have e2 := field_at (pre := (numBits l.length 16 ++ ptBits l 0) ++ numBits l[0].a.toNat 41) (x := foldZ l[0].v) (n := 64) (post := post) (p := P + 41) hag (by rw [hL]; simp [List.append_assoc]) (by have := foldZ_lt hfit.2.2.1 hfit.2.2.2; omega) (by rw [List.length_append, numBits_length, hpre])
    rw [List.length_append, numBits_length, numBits_length]
    unfold headAt
    rw [e1]
    by_cases h1 : P + 41 ≤ 8 * bs.length
    · rw [if_pos h1]
      simp only
      rw [if_neg (by omega), e2]
      by_cases h2 : P + 41 + 64 ≤ 8 * bs.length
      · rw [if_pos h2, if_pos (by omega)]
        simp only [unfold_fold]
        have ea : ((l[0].a.toNat : Nat) : Int) = l[0].a := by omega
        rw [ea]
      · rw [if_neg h2, if_neg (by omega)]
    · rw [if_neg h1, if_neg (by omega)]
  · have hne : l.take k ≠ [] := by
      intro h; have := congrArg List.length h; rw [List.length_take, List.length_nil] at this; omega
    rw [if_neg hne]
    have hq : l[k - 1]? = some (l[k - 1]'(by omega)) := List.getElem?_eq_getElem (by omega)
    have hlast : (l.take k).getD ((l.take k).length - 1) default = l[k - 1]'(by omega) := by
      have : (l.take k).length = k := by rw [List.length_take]; omega
      rw [this, List.getD, List.getElem?_take, if_pos (by omega), hq]; rfl
    rw [hlast]
    have hlr := hr.1 _ (List.mem_of_getElem? hq)
    have hst := stepN_lt hr hq (by rw [show k - 1 + 1 = k by omega]; exact ht)
    have hup := hr.2 (k - 1) _ _ hq (by rw [show k - 1 + 1 = k by omega]; exact ht)
    have hb : bitsAt l k = nextBits (l[k - 1]'(by omega)) l[k] := by rw [bitsAt, if_neg (by omega), getD_at ht, getD_at hq]
    rw [hb, nextBits] at hL ⊢
    generalize l[k - 1]'(by omega) = q at *
    generalize hu : l[k] = t at *
    have e1 := own_at (x := stepN q t) (post := ownBits (changeN q t) ++ post) hag (by rw [hL]; simp [List.append_assoc]) (by omega) hpre
    have e2 := own_at (pre := (numBits l.length 16 ++ ptBits l k) ++ ownBits (stepN q t)) (x := changeN q t) (post := post) (p := P + (ownBits (stepN q t)).length) hag (by rw [hL]; simp [List.append_assoc]) (changeN_lt q t) (by rw [List.length_append, hpre])
    have hs : ((stepN q t : Nat) : Int) = t.a - q.a - 1 := by unfold stepN; omega
    have hc : wrapS (q.v + unfoldZ (changeN q t)) = t.v := by unfold changeN; rw [unfold_fold]; exact wrapS_back hfit.2.2.1 hfit.2.2.2
    rw [List.length_append]
    unfold nextAt
    rw [e1]
    by_cases h1 : P + (ownBits (stepN q t)).length ≤ 8 * bs.length
    · rw [if_pos h1]
      simp only
      rw [if_neg (by omega), e2]
      by_cases h2 : P + (ownBits (stepN q t)).length + (ownBits (changeN q t)).length ≤ 8 * bs.length
      · rw [if_pos h2, if_pos (by omega)]
        simp only [hc]
        have ea : q.a + 1 + (stepN q t : Nat) = t.a := by omega
        rw [ea, Nat.add_assoc]
      · rw [if_neg h2, if_neg (by omega)]
    · rw [if_neg h1, if_neg (by omega)]
theorem unp_at {bs : List Nat} {l : List Pt} (hag : Agree bs (chunkBits l)) (hr : Rises l) (hf : ∀ t ∈ l, t.fits) : ∀ (j k : Nat), k + j = l.length → posOf l k ≤ 8 * bs.length →
    unp bs j (posOf l k) (l.take k) = if (chunkBits l).length ≤ 8 * bs.length then .ok (l, (chunkBits l).length) else .error 4
  | 0, k, hk, hp => by
    obtain rfl : k = l.length := by omega
    rw [posOf_end] at hp ⊢
    rw [if_pos hp, unp, List.take_of_length_le (Nat.le_refl _)]
  | j + 1, k, hk, hp => by
    have hkl : k < l.length := by omega
    have ht : l[k]? = some l[k] := List.getElem?_eq_getElem hkl
    rw [unp, item_at hag hr hf hkl]
    by_cases h1 : posOf l (k + 1) ≤ 8 * bs.length
    · rw [if_pos h1]
      simp only
      have h2 := unp_at hag hr hf j (k + 1) (by omega) h1
      rw [List.take_succ_eq_append_getElem hkl] at h2
      exact h2
    · rw [if_neg h1]
      have h2 := posOf_le l (k := k + 1) (m := l.length) (by omega)
      rw [posOf_end] at h2
      rw [if_neg (by omega)]
theorem unpack_at {bs : List Nat} {l : List Pt} (hag : Agree bs (chunkBits l)) (hr : Rises l) (hf : ∀ t ∈ l, t.fits) (hn : l.length ≤ 65535) :
    unpackS bs = if (chunkBits l).length ≤ 8 * bs.length then (if cleanB bs (chunkBits l).length then (0, l) else (2, [])) else (4, []) := by
  have e1 := field_at (pre := []) (x := l.length) (n := 16) (post := ptBits l l.length) (p := 0) hag rfl (by omega) rfl
  have hp0 : posOf l 0 = 16 := by simp [posOf, ptBits]
  have hge := posOf_le l (k := 0) (m := l.length) (by omega)
  rw [posOf_end, hp0] at hge
  unfold unpackS
  rw [e1]
  by_cases h1 : 0 + 16 ≤ 8 * bs.length
  · rw [if_pos h1]
    have h2 := unp_at hag hr hf l.length 0 (by omega) (by rw [hp0]; omega)
    rw [hp0, List.take_zero] at h2
    simp only
    rw [h2]
    by_cases h3 : (chunkBits l).length ≤ 8 * bs.length
    · rw [if_pos h3, if_pos h3]
    · rw [if_neg h3, if_neg h3]
  · rw [if_neg h1, if_neg (by omega)]
theorem agree_pack (L : List Bool) : Agree (packB L) L := by
  intro m h1 h2
  apply List.ext_getElem?
  intro i
  rw [List.getElem?_take, List.getElem?_take]
  by_cases hi : i < m
  · rw [if_pos hi, if_pos hi, bitsOf_at (by omega), bitIn_pack _ _ (by omega), List.getElem?_eq_getElem (by omega)]
    unfold bitN
    simp only [List.getD, List.getElem?_eq_getElem (show i < L.length by omega), Option.getD_some]
    cases L[i] <;> rfl
  · rw [if_neg hi, if_neg hi]
theorem bitIn_take {bs : List Nat} {m i : Nat} (h : i < 8 * (bs.take m).length) : bitIn (bs.take m) i = bitIn bs i := by
  rw [List.length_take] at h
  unfold bitIn
  simp [List.getD, show i / 8 < m by omega]
theorem bitIn_more {bs : List Nat} {x i : Nat} (h : i < 8 * bs.length) : bitIn (bs ++ [x]) i = bitIn bs i := by
  unfold bitIn
  simp [List.getD, List.getElem?_append_left (show i / 8 < bs.length by omega)]
theorem bitsOf_take {bs cs : List Nat} {m : Nat} (h1 : m ≤ 8 * bs.length) (h2 : m ≤ 8 * cs.length) (h : ∀ i, i < m → bitIn cs i = bitIn bs i) : (bitsOf cs).take m = (bitsOf bs).take m := by
  apply List.ext_getElem?
  intro i
  rw [List.getElem?_take, List.getElem?_take]
  by_cases hi : i < m
  · rw [if_pos hi, if_pos hi, bitsOf_at (by omega), bitsOf_at (by omega), h i hi]
  · rw [if_neg hi, if_neg hi]
/-- WHAT IS PACKED IS UNPACKED -/
theorem unpack_pack {l : List Pt} (hr : Rises l) (hf : ∀ t ∈ l, t.fits) (hn : l.length ≤ 65535) : unpackS (packB (chunkBits l)) = (0, l) := by
  obtain ⟨h1, h2⟩ := rest_clean (chunkBits l)
  rw [unpack_at (agree_pack _) hr hf hn, if_pos (by rw [packB_length]; omega), if_pos]
  simp only [cleanB, Bool.and_eq_true, decide_eq_true_eq, List.all_eq_true, List.mem_range, beq_iff_eq]
  exact ⟨h1, h2⟩
/-- A CHUNK THAT IS CUT: its bits end -/
theorem unpack_cut {l : List Pt} (hr : Rises l) (hf : ∀ t ∈ l, t.fits) (hn : l.length ≤ 65535) {m : Nat} (hm : m < (packB (chunkBits l)).length) : unpackS ((packB (chunkBits l)).take m) = (4, []) := by
  have hlen : ((packB (chunkBits l)).take m).length = m := by rw [List.length_take]; omega
  have hag : Agree ((packB (chunkBits l)).take m) (chunkBits l) := fun q h1 h2 => by
    rw [hlen] at h1
    rw [bitsOf_take (bs := packB (chunkBits l)) (by omega) (by rw [hlen]; exact h1) (fun i hi => bitIn_take (by rw [hlen]; omega))]
    exact agree_pack _ q (by omega) h2
  rw [unpack_at hag hr hf hn, if_neg]
  rw [hlen]
  rw [packB_length] at hm; omega
/-- WITH A BYTE MORE it isn't of the form -/
theorem unpack_more {l : List Pt} (hr : Rises l) (hf : ∀ t ∈ l, t.fits) (hn : l.length ≤ 65535) (x : Nat) : unpackS (packB (chunkBits l) ++ [x]) = (2, []) := by
  have hlen : (packB (chunkBits l) ++ [x]).length = (packB (chunkBits l)).length + 1 := by simp
  have hpl := packB_length (chunkBits l)
  have hag : Agree (packB (chunkBits l) ++ [x]) (chunkBits l) := fun q h1 h2 => by
    rw [bitsOf_take (bs := packB (chunkBits l)) (by omega) h1 (fun i hi => bitIn_more (by omega))]
    exact agree_pack _ q (by omega) h2
  rw [unpack_at hag hr hf hn, if_pos (by omega), if_neg]
  simp only [cleanB, Bool.and_eq_true, decide_eq_true_eq]
  intro h
  have := h.1
  omega
end Go.Proofs.YtdfefhoihpbldaaDoor
