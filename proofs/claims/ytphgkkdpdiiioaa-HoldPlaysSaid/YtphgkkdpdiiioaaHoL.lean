/- Package hold, plainly: holds, what a table tells of them, and the order they are told in. -/
import Derived.Test.YtphgkkdpdiiioaaNmOrd
import Derived.Test.YtphgkkdpdiiioaaWiL
namespace Go.Proofs.Ytphgkkdpdiiioaa

/-- a hold -/
structure Hld where
  name : ByteArray
  ser : ByteArray
  a : Int
  b : Int
instance : Inhabited Hld := ⟨⟨⟨#[]⟩, ⟨#[]⟩, 0, 0⟩⟩
def Hld.cells (h : Hld) : List Value := [.string h.name, .string h.ser, .int .i64 h.a, .int .i64 h.b]
def Hld.val (h : Hld) : Value := .agg #[.string h.name, .string h.ser, .int .i64 h.a, .int .i64 h.b]
/-- numbers and texts that may be -/
structure Hld.In (h : Hld) : Prop where
  n0 : h.name.size ≤ maxLen
  s0 : h.ser.size ≤ maxLen
  a0 : -9223372036854775808 ≤ h.a
  a1 : h.a ≤ 9223372036854775807
  b0 : -9223372036854775808 ≤ h.b
  b1 : h.b ≤ 9223372036854775807
/-- may its texts be? -/
def namedH (h : Hld) : Bool := rightN (ordsOf h.name) && (decide (h.ser.size = 0) || rightN (ordsOf h.ser))
/-- is there one of a name? -/
def hasH (m : List Hld) (n : ByteArray) : Bool := m.any fun h => decide (h.name = n)
/-- is it of a series, or of all? -/
def ofH (s : ByteArray) (h : Hld) : Bool := decide (h.ser.size = 0) || decide (h.ser = s)
/-- is there one of a series, or of all, of whose range it is told? -/
def someH (m : List Hld) (s : ByteArray) (f : Int → Int → Bool) : Bool := m.any fun h => ofH s h && f h.a h.b
/-- what an added one is answered -/
def addE (m : List Hld) (h : Hld) : Int := if namedH h = false then 15 else if rightR h.a h.b = false then 3 else if hasH m h.name = true then 8 else if 16 ≤ m.length then 6 else 0
def addM (m : List Hld) (h : Hld) : List Hld := if addE m h = 0 then m ++ [h] else m
def relE (m : List Hld) (n : ByteArray) : Int := if hasH m n = true then 0 else 7
def relM (m : List Hld) (n : ByteArray) : List Hld := m.filter fun h => !decide (h.name = n)
/-- of unlike names, few -/
structure TabM (m : List Hld) : Prop where
  uniq : m.Pairwise fun x y => x.name ≠ y.name
  few : m.length ≤ 16
  small : ∀ h ∈ m, h.name.size ≤ 16 ∧ h.ser.size ≤ 16 ∧ 1 ≤ h.name.size
theorem TabM.nil : TabM [] := ⟨.nil, by simp, by simp⟩
theorem hasH_false {m : List Hld} {n : ByteArray} : hasH m n = false ↔ ∀ h ∈ m, h.name ≠ n := by
  unfold hasH; simp
theorem hasH_true {m : List Hld} {n : ByteArray} : hasH m n = true ↔ ∃ h ∈ m, h.name = n := by
  unfold hasH; simp
theorem rightN_size {s : ByteArray} (h : rightN (ordsOf s) = true) : 1 ≤ s.size ∧ s.size ≤ 16 := by
  have := (right_iff.1 h).1
  rw [ordsOf_length] at this
  exact this
theorem namedH_small {h : Hld} (hn : namedH h = true) : h.name.size ≤ 16 ∧ h.ser.size ≤ 16 ∧ 1 ≤ h.name.size := by
  unfold namedH at hn
  simp only [Bool.and_eq_true, Bool.or_eq_true, decide_eq_true_eq] at hn
  obtain ⟨h1, h2⟩ := hn
  have := rightN_size h1
  refine ⟨this.2, ?_, this.1⟩
  rcases h2 with h2 | h2
  · omega
  · exact (rightN_size h2).2
theorem addE_zero {m : List Hld} {h : Hld} : addE m h = 0 ↔ namedH h = true ∧ rightR h.a h.b = true ∧ hasH m h.name = false ∧ m.length < 16 := by
  unfold addE
  cases namedH h <;> cases rightR h.a h.b <;> cases hasH m h.name <;> simp <;> split <;> omega
theorem TabM.add {m : List Hld} (t : TabM m) (h : Hld) : TabM (addM m h) := by
  unfold addM
  split
  · next e =>
    obtain ⟨h1, h2, h3, h4⟩ := addE_zero.1 e
    refine ⟨List.pairwise_append.2 ⟨t.uniq, List.pairwise_singleton _ _, fun x hx y hy => ?_⟩, by simp; omega, fun x hx => ?_⟩
    · simp at hy; subst hy; exact hasH_false.1 h3 x hx
    · rcases List.mem_append.1 hx with hx | hx
      · exact t.small x hx
      · simp at hx; subst hx; exact namedH_small h1
  · exact t
theorem TabM.rel {m : List Hld} (t : TabM m) (n : ByteArray) : TabM (relM m n) :=
  ⟨t.uniq.filter _, Nat.le_trans (List.length_filter_le _ _) t.few, fun x hx => t.small x (List.mem_filter.1 hx).1⟩
theorem rel_none {m : List Hld} {n : ByteArray} (h : hasH m n = false) : relM m n = m := by
  unfold relM
  rw [List.filter_eq_self]
  intro x hx
  simpa using hasH_false.1 h x hx
/-- by names -/
def cfH (x y : Hld) : Int := cmpT x.name y.name
theorem cmpT_lt {a b : ByteArray} : cmpT a b < 0 ↔ Op.bytesLess a.toList b.toList = true := by
  rcases cmpT_three a b with ⟨h1, _, h3, _⟩ | ⟨h1, _, h3, _⟩ | ⟨h1, _, h3, _⟩ <;> simp [h1, h3]
theorem cmpT_neg (a b : ByteArray) : cmpT b a = - cmpT a b := by
  rcases cmpT_three a b with ⟨h1, h2, _⟩ | ⟨h1, h2, _⟩ | ⟨h1, h2, _⟩ <;> omega
theorem cmpT_one (a b : ByteArray) : cmpT a b = -1 ∨ cmpT a b = 0 ∨ cmpT a b = 1 := by
  rcases cmpT_three a b with ⟨h1, h2, _⟩ | ⟨h1, h2, _⟩ | ⟨h1, h2, _⟩ <;> omega
theorem cmpT_zero {a b : ByteArray} : cmpT a b = 0 ↔ a = b := by
  rcases cmpT_three a b with ⟨h1, _, _, _, h5⟩ | ⟨h1, _, _, _, h5⟩ | ⟨h1, _, _, _, h5⟩
  · simp [h1, h5]
  · exact ⟨fun _ => h5, fun _ => h1⟩
  · simp [h1, h5]
theorem cmpT_trans {a b c : ByteArray} (h1 : cmpT a b ≤ 0) (h2 : cmpT b c ≤ 0) : cmpT a c ≤ 0 ∧ (cmpT a c = 0 → cmpT a b = 0 ∧ cmpT b c = 0) := cmp_trans _ _ _ h1 h2
/-- told in this order: by names, rising -/
def RisesH (m : List Hld) : Prop := m.Pairwise fun x y => cmpT x.name y.name < 0
theorem RisesH.names {m : List Hld} (h : RisesH m) {i j : Nat} {x y : Hld} (hi : m[i]? = some x) (hj : m[j]? = some y) (hij : i < j) : Op.bytesLess x.name.toList y.name.toList = true := by
  obtain ⟨h1, rfl⟩ := List.getElem?_eq_some_iff.1 hi
  obtain ⟨h2, rfl⟩ := List.getElem?_eq_some_iff.1 hj
  exact cmpT_lt.1 (List.pairwise_iff_getElem.1 h i j h1 h2 hij)
/-- one told by its name is that -/
theorem TabM.one {m : List Hld} (t : TabM m) {x y : Hld} (hx : x ∈ m) (hy : y ∈ m) (h : x.name = y.name) : x = y := by
  obtain ⟨i, hi, rfl⟩ := List.mem_iff_getElem.1 hx
  obtain ⟨j, hj, rfl⟩ := List.mem_iff_getElem.1 hy
  have hp := List.pairwise_iff_getElem.1 t.uniq
  rcases Nat.lt_trichotomy i j with e | e | e
  · exact absurd h (hp i j hi hj e)
  · subst e; rfl
  · exact absurd h.symm (hp j i hj hi e)
theorem some_perm {m m' : List Hld} (h : m.Perm m') (s : ByteArray) (f : Int → Int → Bool) : someH m s f = someH m' s f := by
  unfold someH
  rw [Bool.eq_iff_iff]
  simp only [List.any_eq_true]
  exact ⟨fun ⟨x, hx, hf⟩ => ⟨x, h.mem_iff.1 hx, hf⟩, fun ⟨x, hx, hf⟩ => ⟨x, h.mem_iff.2 hx, hf⟩⟩
end Go.Proofs.Ytphgkkdpdiiioaa
