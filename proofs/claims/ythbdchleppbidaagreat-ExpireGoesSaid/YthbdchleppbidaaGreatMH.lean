/- HoL, HoMap, HoAt, HoNam, HoApa, HoAdd, HoAddY: laid into one. -/
import Derived.Test.YthbdchleppbidaaGreatMN
import Derived.Test.YthbdchleppbidaaGreatMB
import Derived.Maps.Range
import Derived.Maps.OwnSet
import Derived.Maps.RangeWalk
import Derived.Sort.KeysCollected
import Derived.Test.YthbdchleppbidaaGreatMA
import Derived.Test.YthbdchleppbidaaGreatZStrC
import Derived.Test.YthbdchleppbidaaGreatMW
import Derived.StillTailTactics
import Derived.Carry
import Derived.Laws.Entries
/- Package hold, plainly: holds, what a table tells of them, and the order they are told in. -/
namespace Go.Proofs.YthbdchleppbidaaGreat

/-- a hold -/
structure Hld where
  name : ByteArray
  ser : ByteArray
  a : Int
  b : Int
instance : Inhabited Hld := ⟨⟨⟨#[]⟩, ⟨#[]⟩, 0, 0⟩⟩
def Hld.cells (h : Hld) : List Value := [.string h.name, .string h.ser, .int .i64 h.a, .int .i64 h.b]
def Hld.val (h : Hld) : Value := .agg #[.string h.name, .string h.ser, .int .i64 h.a, .int .i64 h.b]
/-- numbers and texts that may be -/
structure Hld.In (h : Hld) : Prop where
  n0 : h.name.size ≤ maxLen
  s0 : h.ser.size ≤ maxLen
  a0 : -9223372036854775808 ≤ h.a
  a1 : h.a ≤ 9223372036854775807
  b0 : -9223372036854775808 ≤ h.b
  b1 : h.b ≤ 9223372036854775807
/-- may its texts be? -/
def namedH (h : Hld) : Bool := rightN (ordsOf h.name) && (decide (h.ser.size = 0) || rightN (ordsOf h.ser))
/-- is there one of a name? -/
def hasH (m : List Hld) (n : ByteArray) : Bool := m.any fun h => decide (h.name = n)
/-- is it of a series, or of all? -/
def ofH (s : ByteArray) (h : Hld) : Bool := decide (h.ser.size = 0) || decide (h.ser = s)
/-- is there one of a series, or of all, of whose range it is told? -/
def someH (m : List Hld) (s : ByteArray) (f : Int → Int → Bool) : Bool := m.any fun h => ofH s h && f h.a h.b
/-- what an added one is answered -/
def addE (m : List Hld) (h : Hld) : Int := if namedH h = false then 15 else if rightR h.a h.b = false then 3 else if hasH m h.name = true then 8 else if 16 ≤ m.length then 6 else 0
def addM (m : List Hld) (h : Hld) : List Hld := if addE m h = 0 then m ++ [h] else m
def relE (m : List Hld) (n : ByteArray) : Int := if hasH m n = true then 0 else 7
def relM (m : List Hld) (n : ByteArray) : List Hld := m.filter fun h => !decide (h.name = n)
/-- of unlike names, few -/
structure TabM (m : List Hld) : Prop where
  uniq : m.Pairwise fun x y => x.name ≠ y.name
  few : m.length ≤ 16
  small : ∀ h ∈ m, h.name.size ≤ 16 ∧ h.ser.size ≤ 16 ∧ 1 ≤ h.name.size
theorem TabM.nil : TabM [] := ⟨.nil, by simp, by simp⟩
theorem hasH_false {m : List Hld} {n : ByteArray} : hasH m n = false ↔ ∀ h ∈ m, h.name ≠ n := by
  unfold hasH; simp
theorem hasH_true {m : List Hld} {n : ByteArray} : hasH m n = true ↔ ∃ h ∈ m, h.name = n := by
  unfold hasH; simp
theorem rightN_size {s : ByteArray} (h : rightN (ordsOf s) = true) : 1 ≤ s.size ∧ s.size ≤ 16 := by
  have := (right_iff.1 h).1
  rw [ordsOf_length] at this
  exact this
theorem namedH_small {h : Hld} (hn : namedH h = true) : h.name.size ≤ 16 ∧ h.ser.size ≤ 16 ∧ 1 ≤ h.name.size := by
  unfold namedH at hn
  simp only [Bool.and_eq_true, Bool.or_eq_true, decide_eq_true_eq] at hn
  obtain ⟨h1, h2⟩ := hn
  have := rightN_size h1
  refine ⟨this.2, ?_, this.1⟩
  rcases h2 with h2 | h2
  · omega
  · exact (rightN_size h2).2
theorem addE_zero {m : List Hld} {h : Hld} : addE m h = 0 ↔ namedH h = true ∧ rightR h.a h.b = true ∧ hasH m h.name = false ∧ m.length < 16 := by
  unfold addE
  cases namedH h <;> cases rightR h.a h.b <;> cases hasH m h.name <;> simp <;> split <;> omega
theorem TabM.add {m : List Hld} (t : TabM m) (h : Hld) : TabM (addM m h) := by
  unfold addM
  split
  · next e =>
    obtain ⟨h1, h2, h3, h4⟩ := addE_zero.1 e
    refine ⟨List.pairwise_append.2 ⟨t.uniq, List.pairwise_singleton _ _, fun x hx y hy => ?_⟩, by simp; omega, fun x hx => ?_⟩
    · simp at hy; subst hy; exact hasH_false.1 h3 x hx
    · rcases List.mem_append.1 hx with hx | hx
      · exact t.small x hx
      · simp at hx; subst hx; exact namedH_small h1
  · exact t
theorem TabM.rel {m : List Hld} (t : TabM m) (n : ByteArray) : TabM (relM m n) :=
  ⟨t.uniq.filter _, Nat.le_trans (List.length_filter_le _ _) t.few, fun x hx => t.small x (List.mem_filter.1 hx).1⟩
theorem rel_none {m : List Hld} {n : ByteArray} (h : hasH m n = false) : relM m n = m := by
  unfold relM
  rw [List.filter_eq_self]
  intro x hx
  simpa using hasH_false.1 h x hx
/-- by names -/
def cfH (x y : Hld) : Int := cmpT x.name y.name
theorem cmpT_lt {a b : ByteArray} : cmpT a b < 0 ↔ Op.bytesLess a.toList b.toList = true := by
  rcases cmpT_three a b with ⟨h1, _, h3, _⟩ | ⟨h1, _, h3, _⟩ | ⟨h1, _, h3, _⟩ <;> simp [h1, h3]
theorem cmpT_neg (a b : ByteArray) : cmpT b a = - cmpT a b := by
  rcases cmpT_three a b with ⟨h1, h2, _⟩ | ⟨h1, h2, _⟩ | ⟨h1, h2, _⟩ <;> omega
theorem cmpT_one (a b : ByteArray) : cmpT a b = -1 ∨ cmpT a b = 0 ∨ cmpT a b = 1 := by
  rcases cmpT_three a b with ⟨h1, h2, _⟩ | ⟨h1, h2, _⟩ | ⟨h1, h2, _⟩ <;> omega
theorem cmpT_zero {a b : ByteArray} : cmpT a b = 0 ↔ a = b := by
  rcases cmpT_three a b with ⟨h1, _, _, _, h5⟩ | ⟨h1, _, _, _, h5⟩ | ⟨h1, _, _, _, h5⟩
  · simp [h1, h5]
  · exact ⟨fun _ => h5, fun _ => h1⟩
  · simp [h1, h5]
theorem cmpT_trans {a b c : ByteArray} (h1 : cmpT a b ≤ 0) (h2 : cmpT b c ≤ 0) : cmpT a c ≤ 0 ∧ (cmpT a c = 0 → cmpT a b = 0 ∧ cmpT b c = 0) := cmp_trans _ _ _ h1 h2
/-- told in this order: by names, rising -/
def RisesH (m : List Hld) : Prop := m.Pairwise fun x y => cmpT x.name y.name < 0
theorem RisesH.names {m : List Hld} (h : RisesH m) {i j : Nat} {x y : Hld} (hi : m[i]? = some x) (hj : m[j]? = some y) (hij : i < j) : Op.bytesLess x.name.toList y.name.toList = true := by
  obtain ⟨h1, rfl⟩ := List.getElem?_eq_some_iff.1 hi
  obtain ⟨h2, rfl⟩ := List.getElem?_eq_some_iff.1 hj
  exact cmpT_lt.1 (List.pairwise_iff_getElem.1 h i j h1 h2 hij)
/-- one told by its name is that -/
theorem TabM.one {m : List Hld} (t : TabM m) {x y : Hld} (hx : x ∈ m) (hy : y ∈ m) (h : x.name = y.name) : x = y := by
  obtain ⟨i, hi, rfl⟩ := List.mem_iff_getElem.1 hx
  obtain ⟨j, hj, rfl⟩ := List.mem_iff_getElem.1 hy
  have hp := List.pairwise_iff_getElem.1 t.uniq
  rcases Nat.lt_trichotomy i j with e | e | e
  · exact absurd h (hp i j hi hj e)
  · subst e; rfl
  · exact absurd h.symm (hp j i hj hi e)
theorem some_perm {m m' : List Hld} (h : m.Perm m') (s : ByteArray) (f : Int → Int → Bool) : someH m s f = someH m' s f := by
  unfold someH
  rw [Bool.eq_iff_iff]
  simp only [List.any_eq_true]
  exact ⟨fun ⟨x, hx, hf⟩ => ⟨x, h.mem_iff.1 hx, hf⟩, fun ⟨x, hx, hf⟩ => ⟨x, h.mem_iff.2 hx, hf⟩⟩
end Go.Proofs.YthbdchleppbidaaGreat
/- Package hold: the map of holds, as it lies: which it bears, in no order. -/
namespace Go.Proofs.YthbdchleppbidaaGreat
open Go.RowKit Go.Maps

/-- the map's type -/
theorem keyS : Keyed Tryz.prog 9 := string_keyed Tryz.underlying9
theorem mapT : Tryz.prog.underlying 92 = some (.map 9 60) := Tryz.underlying92
/-- how a hold is read -/
def readL : List Value → Option (DataW Hld × List MemPlace)
  | [.string n, .string s, .int .i64 a, .int .i64 b] => some (.held ⟨n, s, a, b⟩, [])
  | _ => none
def readH : Value → Option (DataW Hld × List MemPlace)
  | .agg cs => readL cs.toList
  | _ => none
theorem readH_val (h : Hld) : readH h.val = some (.held h, []) := rfl
theorem readH_inv {v : Value} {z : DataW Hld × List MemPlace} (h : readH v = some z) : ∃ x : Hld, v = x.val ∧ z = (.held x, []) := by
  cases v <;> simp only [readH] at h <;> try cases h
  rename_i cs
  obtain ⟨cs, rfl⟩ : ∃ l : List Value, cs = l.toArray := ⟨cs.toList, by simp⟩
  simp only at h
  unfold readL at h
  split at h
  · next n s a b => cases h; exact ⟨⟨n, s, a, b⟩, rfl, rfl⟩
  · cases h
/-- a text as a key -/
def litS (n : ByteArray) : Lit := .string n.data.toList
theorem litS_inj {a b : ByteArray} (h : litS a = litS b) : a = b := by
  unfold litS at h
  injection h with h
  exact ByteArray.ext (Array.toList_inj.1 h)
theorem litS_key (n : ByteArray) : WideAt.IsKeyLit (litS n) := trivial
theorem litS_same (a b : ByteArray) : (litS a).sameKey (litS b) = decide (a = b) := by
  by_cases h : a = b
  · subst h; rw [WideAt.sameKey_self (litS_key a)]; simp
  · rw [sameKey_ne (fun e => h (litS_inj e))]; simp [h]
theorem litS_of {n : ByteArray} (hn : n.size ≤ maxLen) : keyOf Tryz.prog 9 (.string n) = some (litS n) := WideMaps.keyOf_string_mk Tryz.underlying9 hn
def entH (h : Hld) : Lit × DataW Hld := (litS h.name, .held h)
theorem entH_inj {x y : Hld} (h : entH x = entH y) : x = y := by
  unfold entH at h
  injection h with _ h
  injection h
/-- block b is a map of these holds -/
def MapIs (w : World) (b : Nat) (m : List Hld) : Prop := ∃ es, w.ownsMap Tryz.prog 9 readH b m.length (.map es) ∧ es.Perm (m.map entH)
theorem MapIs.lt {w : World} {b : Nat} {m : List Hld} (h : MapIs w b m) : b < w.heap.size := by obtain ⟨es, h1, _⟩ := h; exact h1.lt
theorem MapIs.obj {w : World} {b : Nat} {m : List Hld} (h : MapIs w b m) : ∃ es c, w.heap[b]? = some (.map es c) := by obtain ⟨es, ⟨e, c, h1, _⟩, _⟩ := h; exact ⟨e, c, h1⟩
theorem MapIs.ne {w : World} {b g : Nat} {m : List Hld} {cs : Array Value} {t : TypeId} {fr : Nat × Nat} (h : MapIs w b m) (hg : w.heap[g]? = some (.cells cs t fr)) : b ≠ g := by
  obtain ⟨es, c, hb⟩ := h.obj
  rintro rfl
  rw [hb] at hg
  cases hg
theorem MapIs.same {w w' : World} {b : Nat} {m : List Hld} (h : MapIs w b m) (hb : w'.heap[b]? = w.heap[b]?) : MapIs w' b m := by
  obtain ⟨es, ⟨e, c, h1, h2⟩, h3⟩ := h
  exact ⟨es, ⟨e, c, hb.trans h1, h2⟩, h3⟩
theorem MapIs.only {S : Nat → Prop} {w w' : World} {b : Nat} {m : List Hld} (h : MapIs w b m) (ho : Only S w w') (hS : ¬ S b) : MapIs w' b m := h.same (ho.block b h.lt hS)
theorem MapIs.below {w w' : World} {b : Nat} {m : List Hld} (h : MapIs w b m) (hb : Below w.heap.size w w') : MapIs w' b m := h.same (hb.block b h.lt)
theorem MapIs.new (w : World) : MapIs (w.alloc (.map #[] 0)) w.heap.size [] := ⟨[], World.ownsMap_made w _ _ _, .nil⟩
theorem perm_any {es : List (Lit × DataW Hld)} {m : List Hld} (h : es.Perm (m.map entH)) (n : ByteArray) : es.any (fun p => p.1.sameKey (litS n)) = hasH m n := by
  unfold hasH
  rw [Bool.eq_iff_iff]
  simp only [List.any_eq_true, decide_eq_true_eq]
  constructor
  · rintro ⟨p, hp, hk⟩
    obtain ⟨x, hx, rfl⟩ := List.mem_map.1 (h.mem_iff.1 hp)
    refine ⟨x, hx, ?_⟩
    have := litS_same x.name n
    simp only [entH] at hk
    rw [hk] at this
    simpa using this.symm
  · rintro ⟨x, hx, rfl⟩
    exact ⟨entH x, h.mem_iff.2 (List.mem_map.2 ⟨x, hx, rfl⟩), WideAt.sameKey_self (litS_key _)⟩
theorem perm_filter {es : List (Lit × DataW Hld)} {m : List Hld} (h : es.Perm (m.map entH)) (n : ByteArray) : (es.filter fun p => !p.1.sameKey (litS n)).Perm ((relM m n).map entH) := by
  refine (h.filter _).trans ?_
  rw [List.filter_map]
  unfold relM
  have : ((fun p : Lit × DataW Hld => !p.1.sameKey (litS n)) ∘ entH) = fun x => !decide (x.name = n) := by
    funext x
    simp only [Function.comp, entH, litS_same]
  rw [this]
theorem MapIs.has {es : List (Lit × DataW Hld)} {m : List Hld} (h : es.Perm (m.map entH)) (n : ByteArray) : Maps.has (.map es) (litS n) = hasH m n := perm_any h n
theorem MapIs.size {es : List (Lit × DataW Hld)} {m : List Hld} (h : es.Perm (m.map entH)) : Maps.size (.map es) = m.length := by
  unfold Maps.size; simpa using h.length_eq
theorem perm_insert {es r : List (Lit × DataW Hld)} (x : Lit × DataW Hld) (h : es.Perm r) : (DataW.insert x es).Perm (x :: r) := by
  refine List.Perm.trans ?_ (h.cons x)
  clear h
  induction es with
  | nil => exact .refl _
  | cons y l ih =>
    unfold DataW.insert
    split
    · exact .refl _
    · exact (ih.cons y).trans (.swap _ _ _)
/-- one that wasn't there is put -/
theorem MapIs.put {w' : World} {b : Nat} {m : List Hld} {es : List (Lit × DataW Hld)} {h : Hld} (hp : es.Perm (m.map entH)) (hno : hasH m h.name = false) (ho : w'.ownsMap Tryz.prog 9 readH b (m.length + 1) ((DataW.map es).put (litS h.name) (.held h))) : MapIs w' b (m ++ [h]) := by
  refine ⟨DataW.insert (entH h) (es.filter fun p => !p.1.sameKey (litS h.name)), ?_, ?_⟩
  · rw [show (m ++ [h]).length = m.length + 1 by simp]; exact ho
  · have h1 := perm_insert (entH h) (perm_filter hp h.name)
    rw [rel_none hno] at h1
    refine h1.trans ?_
    rw [List.map_append]
    simpa using (List.perm_append_comm (l₁ := [entH h]) (l₂ := m.map entH))
/-- one goes -/
theorem MapIs.drop {w' : World} {b : Nat} {m : List Hld} {es : List (Lit × DataW Hld)} {n : ByteArray} (hp : es.Perm (m.map entH)) (ho : w'.ownsMap Tryz.prog 9 readH b m.length ((DataW.map es).del (litS n))) : MapIs w' b (relM m n) := by
  refine ⟨es.filter fun p => !p.1.sameKey (litS n), ?_, perm_filter hp n⟩
  have ho' : w'.ownsMap Tryz.prog 9 readH b m.length (.map (es.filter fun p => !p.1.sameKey (litS n))) := ho
  obtain ⟨e, c, h1, h2, h3, h4⟩ := ho'
  refine ⟨e, c, h1, h2, ?_, h4⟩
  injection h4 with h4
  have h5 := congrArg List.length h4
  rw [length_sorted, (perm_filter hp n).length_eq] at h5
  simp at h5
  omega
end Go.Proofs.YthbdchleppbidaaGreat
/- Package hold: a table, as it lies; New, held, has, Len. -/
namespace Go.Proofs.YthbdchleppbidaaGreat
open Go.RowKit Go.Maps

/-- a table in a block of its own -/
structure TabAt (w : World) (p : Nat) (b : Option Nat) (m : List Hld) : Prop where
  blk : w.heap[p]? = some (.cells #[.map b] 94 (0, 0))
  own : ∀ g, b = some g → MapIs w g m
  nil0 : b = none → m = []
/-- its blocks -/
def TFoot (p : Nat) (b : Option Nat) (k : Nat) : Prop := k = p ∨ b = some k
theorem TabAt.off {w : World} {p : Nat} {b : Option Nat} {m : List Hld} {k : Nat} {cs : Array Value} {t : TypeId} {fr : Nat × Nat} (h : TabAt w p b m) (hk : w.heap[k]? = some (.cells cs t fr)) (ht : t ≠ 94) : ¬ TFoot p b k := by
  rintro (rfl | rfl)
  · have := h.blk
    rw [hk] at this
    injection this with this
    injection this with _ this
    exact ht this
  · exact (h.own k rfl).ne hk rfl
theorem TabAt.lt {w : World} {p : Nat} {b : Option Nat} {m : List Hld} (h : TabAt w p b m) : ∀ k, TFoot p b k → k < w.heap.size := by
  rintro k (rfl | rfl)
  · exact lt_of_block h.blk
  · exact (h.own k rfl).lt
theorem TabAt.only {S : Nat → Prop} {w w' : World} {p : Nat} {b : Option Nat} {m : List Hld} (h : TabAt w p b m) (ho : Only S w w') (hS : ∀ k, TFoot p b k → ¬ S k) : TabAt w' p b m :=
  ⟨(ho.block p (lt_of_block h.blk) (hS p (.inl rfl))).trans h.blk, fun g hg => (h.own g hg).only ho (hS g (.inr hg)), h.nil0⟩
theorem TabAt.below {w w' : World} {p : Nat} {b : Option Nat} {m : List Hld} (h : TabAt w p b m) (hb : Below w.heap.size w w') : TabAt w' p b m :=
  ⟨(hb.block p (lt_of_block h.blk)).trans h.blk, fun g hg => (h.own g hg).below hb, h.nil0⟩
theorem TabAt.bare {w : World} {p : Nat} (h : w.heap[p]? = some (.cells #[.map none] 94 (0, 0))) : TabAt w p none [] := ⟨h, fun g hg => (by cases hg), fun _ => rfl⟩
theorem TabAt.drewN {w : World} {p : Nat} {b : Option Nat} {m : List Hld} (h : TabAt w p b m) (n : Nat) : TabAt (w.drewN n) p b m := h.only (only_drewN (fun _ => False) w n) (fun _ _ h => h)
theorem TabAt.old {w : World} {p : Nat} {b : Option Nat} {m : List Hld} (h : TabAt w p b m) (o : Obj) : TabAt (w.alloc o) p b m := h.below ((Below.refl _ _).alloc (Nat.le_refl _) _)
theorem TabAt.apart {w : World} {p : Nat} {b : Option Nat} {m : List Hld} (h : TabAt w p b m) : b ≠ some p := by
  rintro rfl
  exact (h.own p rfl).ne h.blk rfl
theorem foot_row {B : Nat} {w : World} {p : Nat} {b : Option Nat} {m : List Hld} {e : TypeId} {s n : Nat} {v : Value} {xs : List Value} (h : TabAt w p b m) (hr : w.ownsRow B e s v n xs) (he : e ≠ 94) : ∀ k, v.ownBlock = some k → ¬ TFoot p b k := by
  rcases hr.2 with ⟨rfl, _⟩ | ⟨g, cap, cur, rfl, _, hg, _⟩
  · intro k hk; simp [Value.ownBlock] at hk
  · intro k hk
    injection hk with hk
    subst hk
    exact h.off hg he
/-- a new one -/
theorem honew_any (w : World) : Calls Tryz.prog 21 #[] w fun e w' => ∃ p, e = .returned (.pointer (some ⟨p, 0, none⟩)) ∧ TabAt w' p none [] ∧ w.heap.size ≤ p ∧ Below w.heap.size w w' := by
  go_enter Tryz.func21, Tryz.ntmps21
  go_wp2_with fail
  go_ret
  exact ⟨w.heap.size, rfl, TabAt.bare (heap_alloc_new w _), Nat.le_refl _, (Below.refl _ _).alloc (Nat.le_refl _) _⟩
theorem TabAt.cell {w : World} {p : Nat} {b : Option Nat} {m : List Hld} (h : TabAt w p b m) : w.cell? ⟨p, 0, none⟩ = some (.map b) ∧ w.frozen? ⟨p, 0, none⟩ = false := cells1 h.blk
theorem hoheld_any {w : World} {p : Nat} {b : Option Nat} {m : List Hld} (h : TabAt w p b m) : Calls Tryz.prog 83 #[.pointer (some ⟨p, 0, none⟩)] w fun e w' => e = .returned (.map b) ∧ w' = w := by
  obtain ⟨c0, -⟩ := h.cell
  clear h
  go_enter Tryz.func83, Tryz.ntmps83
  go_wp2_with fail
  go_ret
  exact ⟨rfl, rfl⟩
theorem hoheld_none (w : World) : Calls Tryz.prog 83 #[.pointer none] w fun e w' => e = .returned (.map none) ∧ w' = w := by
  go_enter Tryz.func83, Tryz.ntmps83
  go_wp2_with fail
  go_ret
  exact ⟨rfl, rfl⟩
theorem run_len_nil {w : World} {o : Oper} {a : Act} (x : Operand) (ho : o.op = .call { callee := .builtin .len, args := #[x], argTypes := #[92] }) (hx : a.eval x = .map none) : (execOp a.eval o).run Tryz.prog w = .ok (.value (.int .i64 0)) w := by
  simp [execOp, ho, resolve, invoke, builtin, hx, Maps.len_nil mapT o.type, Result.andThen]
theorem run_len_map {w : World} {o : Oper} {a : Act} {g : Nat} {m : List Hld} (x : Operand) (ho : o.op = .call { callee := .builtin .len, args := #[x], argTypes := #[92] }) (hx : a.eval x = .map (some g)) (h : MapIs w g m) : (execOp a.eval o).run Tryz.prog w = .ok (.value (.int .i64 (m.length : Int))) w := by
  obtain ⟨es, h1, h2⟩ := h
  have := h1.len mapT o.type
  rw [MapIs.size h2] at this
  simp [execOp, ho, resolve, invoke, builtin, hx, this, Result.andThen]
set_option maxHeartbeats 2000000 in
theorem holen_any {w : World} {p : Nat} {b : Option Nat} {m : List Hld} (h : TabAt w p b m) : Calls Tryz.prog 47 #[.pointer (some ⟨p, 0, none⟩)] w fun e w' => e = .returned (.int .i64 (m.length : Int)) ∧ w' = w := by
  have H := Lib.hid (hoheld_any h)
  have HM := Lib.hid h.own
  have hL : Hid (∀ (o : Oper) (a : Act), o.op = .call { callee := .builtin .len, args := #[.tmp 4], argTypes := #[92] } → a.eval (.tmp 4) = .map b → (execOp a.eval o).run Tryz.prog w = .ok (.value (.int .i64 (m.length : Int))) w) := Lib.hid (by
    intro o a h1 h2
    cases b with
    | none => rw [h.nil0 rfl]; exact run_len_nil _ h1 h2
    | some g => exact run_len_map _ h1 h2 (HM.out g rfl))
  obtain ⟨n, hn⟩ : ∃ n, n = m.length := ⟨_, rfl⟩
  rw [← hn] at hL ⊢
  clear h HM hn
  go_enter Tryz.func47, Tryz.ntmps47
  repeat (first | go_values | go_skip | go_guarded | go_step)
  refine H.out.mono ?_
  rintro e w1 ⟨rfl, hw⟩
  replace hw := hw.symm
  subst hw
  dsimp only
  go_wp2_with (refine wpList_value rfl (hL.out _ _ rfl rfl) ?_)
  go_ret
  exact ⟨rfl, rfl⟩
set_option maxHeartbeats 2000000 in
theorem holen_none (w : World) : Calls Tryz.prog 47 #[.pointer none] w fun e w' => e = .returned (.int .i64 0) ∧ w' = w := by
  have H := Lib.hid (hoheld_none w)
  go_enter Tryz.func47, Tryz.ntmps47
  repeat (first | go_values | go_skip | go_guarded | go_step)
  refine H.out.mono ?_
  rintro e w1 ⟨rfl, hw⟩
  replace hw := hw.symm
  subst hw
  dsimp only
  go_wp2_with (refine wpList_value rfl (run_len_nil _ rfl rfl) ?_)
  go_ret
  exact ⟨rfl, rfl⟩
theorem zeroHold (w : World) : (zeroValue 60).run Tryz.prog w = .ok (default : Hld).val w := Tryz.zeroValue60 w
theorem run_look_nil {w : World} {o : Oper} {a : Act} {n : ByteArray} (x y : Operand) (ho : o.op = .lookup 92 x y true) (hx : a.eval x = .map none) (hy : a.eval y = .string n) (hn : n.size ≤ maxLen) : (execOp a.eval o).run Tryz.prog w = .ok (.value (.tuple #[(default : Hld).val, .bool false])) w := by
  have := Maps.look_nil (w := w) true keyS mapT (zeroHold w) (litS_of hn)
  simp [execOp, ho, hx, hy, this, Result.andThen]
theorem run_look_map {w : World} {o : Oper} {a : Act} {n : ByteArray} {g : Nat} {m : List Hld} (x y : Operand) (ho : o.op = .lookup 92 x y true) (hx : a.eval x = .map (some g)) (hy : a.eval y = .string n) (hn : n.size ≤ maxLen) (h : MapIs w g m) : ∃ u : Hld, (execOp a.eval o).run Tryz.prog w = .ok (.value (.tuple #[u.val, .bool (hasH m n)])) w := by
  obtain ⟨es, h1, h2⟩ := h
  obtain ⟨v, ps, hr, hv⟩ := h1.look_ok keyS mapT (zeroHold w) (readH_val default) (litS_of hn)
  obtain ⟨u, rfl, _⟩ := readH_inv hv
  rw [MapIs.has h2] at hr
  exact ⟨u, by simp [execOp, ho, hx, hy, hr, Result.andThen]⟩
set_option maxRecDepth 100000 in
set_option maxHeartbeats 4000000 in
theorem hohas_any {w : World} {p : Nat} {b : Option Nat} {m : List Hld} {n : ByteArray} (h : TabAt w p b m) (hn : n.size ≤ maxLen) : Calls Tryz.prog 46 #[.pointer (some ⟨p, 0, none⟩), .string n] w fun e w' => e = .returned (.bool (hasH m n)) ∧ Below w.heap.size w w' := by
  have H := Lib.hid (hoheld_any h)
  have HM := Lib.hid h.own
  have HN := Lib.hid h.nil0
  clear h
  have key : ∃ u : Hld, ∀ (o : Oper) (a : Act), o.op = .lookup 92 (.tmp 9) (.tmp 10) true → a.eval (.tmp 9) = .map b → a.eval (.tmp 10) = .string n → (execOp a.eval o).run Tryz.prog w = .ok (.value (.tuple #[u.val, .bool (hasH m n)])) w := by
    cases b with
    | none =>
      rw [HN.out rfl]
      exact ⟨default, fun o a h1 h2 h3 => run_look_nil _ _ h1 h2 h3 hn⟩
    | some g =>
      have hm := HM.out g rfl
      obtain ⟨es, h1, h2⟩ := hm
      obtain ⟨v, ps, hr, hv⟩ := h1.look_ok keyS mapT (zeroHold w) (readH_val default) (litS_of hn)
      obtain ⟨u, rfl, _⟩ := readH_inv hv
      rw [MapIs.has h2] at hr
      exact ⟨u, fun o a ho hx hy => by simp [execOp, ho, hx, hy, hr, Result.andThen]⟩
  obtain ⟨u, hu⟩ := key
  have HU := Lib.hid hu
  obtain ⟨q, hq⟩ : ∃ q, q = hasH m n := ⟨_, rfl⟩
  rw [← hq] at HU ⊢
  clear hu hq HM HN hn
  unfold Hld.val at HU
  go_enter Tryz.func46, Tryz.ntmps46
  repeat (first | go_values | go_skip | go_guarded | go_step)
  refine H.out.mono ?_
  rintro e w1 ⟨rfl, hw⟩
  replace hw := hw.symm
  subst hw
  dsimp only
  go_wp2_with (refine wpList_value rfl (HU.out _ _ rfl rfl rfl) ?_)
  go_ret
  exact ⟨rfl, (Below.refl _ _).alloc (Nat.le_refl _) _⟩
end Go.Proofs.YthbdchleppbidaaGreat
/- Package hold: may a hold's texts be? A hold apart. -/
namespace Go.Proofs.YthbdchleppbidaaGreat
open Go.RowKit

theorem size_empty (s : ByteArray) : (s.toList == ([] : List UInt8)) = decide (s.size = 0) := by
  have h := text_beq s ⟨#[]⟩
  have e : (⟨#[]⟩ : ByteArray).toList = [] := by rw [ByteArray.toList_eq]
  rw [e] at h
  rw [h, Bool.eq_iff_iff, decide_eq_true_eq, decide_eq_true_eq]
  exact ⟨fun h => by rw [h]; rfl, bytes_empty⟩
set_option maxHeartbeats 4000000 in
theorem honamed_any (w : World) (h : Hld) (hn : h.name.size ≤ maxLen) (hs : h.ser.size ≤ maxLen) :
    Calls Tryz.prog 44 #[h.val] w fun e w' => e = .returned (.bool (namedH h)) ∧ Below w.heap.size w w' := by
  obtain ⟨n, s, a, b⟩ := h
  dsimp only at hn hs
  have H1 : Hid (∀ W, Calls Tryz.prog 91 #[.string n] W fun e w' => e = .returned (.bool (rightN (ordsOf n))) ∧ w' = W) := Lib.hid fun W => nmright_any W n hn
  have H2 : Hid (∀ W, Calls Tryz.prog 91 #[.string s] W fun e w' => e = .returned (.bool (rightN (ordsOf s))) ∧ w' = W) := Lib.hid fun W => nmright_any W s hs
  have HR : Hid (namedH ⟨n, s, a, b⟩ = (rightN (ordsOf n) && (decide (s.size = 0) || rightN (ordsOf s)))) := Lib.hid rfl
  obtain ⟨N, hN⟩ : ∃ N, N = rightN (ordsOf n) := ⟨_, rfl⟩
  obtain ⟨S, hS⟩ : ∃ S, S = rightN (ordsOf s) := ⟨_, rfl⟩
  obtain ⟨R, hR⟩ : ∃ R, R = namedH ⟨n, s, a, b⟩ := ⟨_, rfl⟩
  have te := size_empty s
  obtain ⟨E, hE⟩ : ∃ E, E = decide (s.size = 0) := ⟨_, rfl⟩
  rw [← hE] at te HR
  rw [← hN] at H1 HR
  rw [← hS] at H2 HR
  rw [← hR] at HR ⊢
  clear hN hS hR hE hn hs
  unfold Hld.val
  dsimp only
  cases N with
  | false =>
    go_enter Tryz.func44, Tryz.ntmps44
    go_wp2_with (go_at_call 91; refine (H1.out _).mono ?_; rintro e w1 ⟨rfl, rfl⟩)
    go_ret
    exact ⟨by rw [HR.out]; rfl, (Below.refl _ _).alloc (Nat.le_refl _) _⟩
  | true =>
    cases E with
    | true =>
      go_enter Tryz.func44, Tryz.ntmps44
      go_wp2_with (go_at_call 91; refine (H1.out _).mono ?_; rintro e w1 ⟨rfl, rfl⟩)
      go_ret
      exact ⟨by rw [HR.out]; rfl, (Below.refl _ _).alloc (Nat.le_refl _) _⟩
    | false =>
      go_enter Tryz.func44, Tryz.ntmps44
      go_wp2_with (go_at_call 91; (first | (refine (H1.out _).mono ?_; clear H1; rintro e w1 ⟨rfl, rfl⟩) | (refine (H2.out _).mono ?_; rintro e w1 ⟨rfl, rfl⟩)))
      go_ret
      exact ⟨by rw [HR.out]; rfl, (Below.refl _ _).alloc (Nat.le_refl _) _⟩
end Go.Proofs.YthbdchleppbidaaGreat
/- Package hold: a hold apart. -/
namespace Go.Proofs.YthbdchleppbidaaGreat
open Go.RowKit

/-- between two operations: what is cloned lies, what is told waits -/
def ApQ (w : World) (B : Nat) (n s : ByteArray) (a b : Int) (W : World) : Prop :=
  W.heap[B]? = some (.cells #[.string n, .string s, .int .i64 a, .int .i64 b] 60 (0, 0)) ∧ W.heap[B + 1]? = some (.cells #[.string ⟨#[]⟩, .string ⟨#[]⟩, .int .i64 0, .int .i64 0] 60 (0, 0)) ∧ Below w.heap.size w W ∧ B = w.heap.size
abbrev ApS (w : World) (B : Nat) (n s : ByteArray) (a b : Int) (W : World) : Prop := W.cell? ⟨B, 0, none⟩ = some (.string n) ∧ W.cell? ⟨B, 1, none⟩ = some (.string s) ∧ W.frozen? ⟨B, 0, none⟩ = false ∧ W.frozen? ⟨B, 1, none⟩ = false ∧ ApQ w B n s a b W
theorem ApQ.s {w W : World} {B : Nat} {n s : ByteArray} {a b : Int} (q : ApQ w B n s a b W) : ApS w B n s a b W :=
  ⟨by rw [cell_of_row W B 0 _ _ _ q.1]; rfl, by rw [cell_of_row W B 1 _ _ _ q.1]; rfl, by simp [World.frozen?, q.1], by simp [World.frozen?, q.1], q⟩
theorem ApS.draw {w W : World} {B : Nat} {n s : ByteArray} {a b : Int} (q : ApS w B n s a b W) : ApS w B n s a b W.drew := ApQ.s ⟨q.2.2.2.2.1, q.2.2.2.2.2.1, below_drew q.2.2.2.2.2.2.1, q.2.2.2.2.2.2.2⟩
theorem ApS.beyond {w W W' : World} {B : Nat} {n s : ByteArray} {a b : Int} (q : ApS w B n s a b W) (hb : Below W.heap.size W W') : ApS w B n s a b W' := by
  obtain ⟨-, -, -, -, q1, q2, q3, q4⟩ := q
  exact ApQ.s ⟨(hb.block _ (lt_of_block q1)).trans q1, (hb.block _ (lt_of_block q2)).trans q2, q3.trans (hb.mono q3.size), q4⟩
theorem ApS.set0 {w W : World} {B : Nat} {n s : ByteArray} {a b : Int} (q : ApS w B n s a b W) : ApS w B n s a b (W.setCell ⟨B, 0, none⟩ (.string n)) := by
  obtain ⟨-, -, -, -, q1, q2, q3, q4⟩ := q
  have o : Only (fun k => k = B) W (W.setCell ⟨B, 0, none⟩ (.string n)) := Only.setCell (S := fun k => k = B) _ rfl _
  refine ApQ.s ⟨by rw [heap_setCell_same W B 0 _ _ _ q1]; simp, (o.block _ (lt_of_block q2) (by omega)).trans q2, q3.trans (o.below q3.size (fun k hk => by omega)), q4⟩
theorem ApS.set1 {w W : World} {B : Nat} {n s : ByteArray} {a b : Int} (q : ApS w B n s a b W) : ApS w B n s a b (W.setCell ⟨B, 1, none⟩ (.string s)) := by
  obtain ⟨-, -, -, -, q1, q2, q3, q4⟩ := q
  have o : Only (fun k => k = B) W (W.setCell ⟨B, 1, none⟩ (.string s)) := Only.setCell (S := fun k => k = B) _ rfl _
  refine ApQ.s ⟨by rw [heap_setCell_same W B 1 _ _ _ q1]; simp, (o.block _ (lt_of_block q2) (by omega)).trans q2, q3.trans (o.below q3.size (fun k hk => by omega)), q4⟩
/-- a hold stored -/
def setHo (w : World) (P : Nat) (n s : ByteArray) (a b : Int) : World := (((w.setCell ⟨P, 0, none⟩ (.string n)).setCell ⟨P, 1, none⟩ (.string s)).setCell ⟨P, 2, none⟩ (.int .i64 a)).setCell ⟨P, 3, none⟩ (.int .i64 b)
theorem setHo_only (w : World) (P : Nat) (n s : ByteArray) (a b : Int) : Only (fun k => k = P) w (setHo w P n s a b) :=
  (((Only.setCell (S := fun k => k = P) _ rfl _).trans (Only.setCell (S := fun k => k = P) _ rfl _) (fun _ _ h => h)).trans (Only.setCell (S := fun k => k = P) _ rfl _) (fun _ _ h => h)).trans (Only.setCell (S := fun k => k = P) _ rfl _) (fun _ _ h => h)
theorem setHo_at {w : World} {P : Nat} {v0 v1 v2 v3 : Value} {t : TypeId} (h : w.heap[P]? = some (.cells #[v0, v1, v2, v3] t (0, 0))) (n s : ByteArray) (a b : Int) : (setHo w P n s a b).heap[P]? = some (.cells #[.string n, .string s, .int .i64 a, .int .i64 b] t (0, 0)) := by
  have h1 := heap_setCell_same w P 0 _ _ (.string n) h
  have h2 := heap_setCell_same _ P 1 _ _ (.string s) h1
  have h3 := heap_setCell_same _ P 2 _ _ (.int .i64 a) h2
  have h4 := heap_setCell_same _ P 3 _ _ (.int .i64 b) h3
  unfold setHo
  rw [h4]; simp
theorem ret_ho {fn : Func} {p : Tmp} (h : fn.results = #[.cell p 60]) {tmps : Array Value} {w : World} {Q : Nat} {v0 v1 v2 v3 : Value} (hp : tmps.getD p undef = .pointer (some ⟨Q, 0, none⟩)) (hq : w.heap[Q]? = some (.cells #[v0, v1, v2, v3] 60 (0, 0))) :
    (results fn tmps).run Tryz.prog w = .ok (.agg #[v0, v1, v2, v3]) w := by
  have c0 : w.cell? ⟨Q, 0, none⟩ = some v0 := by rw [cell_of_row w Q 0 _ _ _ hq]; rfl
  have c1 : w.cell? ⟨Q, 1, none⟩ = some v1 := by rw [cell_of_row w Q 1 _ _ _ hq]; rfl
  have c2 : w.cell? ⟨Q, 2, none⟩ = some v2 := by rw [cell_of_row w Q 2 _ _ _ hq]; rfl
  have c3 : w.cell? ⟨Q, 3, none⟩ = some v3 := by rw [cell_of_row w Q 3 _ _ _ hq]; rfl
  rw [results_cell h, hp]
  go_simp
set_option maxHeartbeats 8000000 in
theorem hoapart_any (w : World) (n s : ByteArray) (a b : Int) (hn : n.size < 1000000000000) (hs : s.size < 1000000000000) :
    Calls Tryz.prog 48 #[.agg #[.string n, .string s, .int .i64 a, .int .i64 b]] w fun e w' => e = .returned (.agg #[.string n, .string s, .int .i64 a, .int .i64 b]) ∧ Below w.heap.size w w' := by
  have H1 : Hid (∀ W, Calls Tryz.prog 93 #[.string n] W fun e w' => e = .returned (.string n) ∧ Below W.heap.size W w') := Lib.hid fun W => clone_text W n hn
  have H2 : Hid (∀ W, Calls Tryz.prog 93 #[.string s] W fun e w' => e = .returned (.string s) ∧ Below W.heap.size W w') := Lib.hid fun W => clone_text W s hs
  clear hn hs
  go_enter Tryz.func48, Tryz.ntmps48
  go_wp2_with fail
  refine wp_name fun W hW => ?_
  obtain ⟨B, hB⟩ : ∃ B, B = w.heap.size := ⟨_, rfl⟩
  have HQ : Hid (ApS w B n s a b W) := Lib.hid (ApQ.s ⟨by rw [hW.out, hB]; exact (Below.heap_alloc _ _ _ (by simp)).trans (heap_alloc_new _ _), by rw [hW.out, hB]; have := heap_alloc_new (w.alloc (.cells #[.string n, .string s, .int .i64 a, .int .i64 b] 60)) (.cells #[.string ⟨#[]⟩, .string ⟨#[]⟩, .int .i64 0, .int .i64 0] 60); simpa using this, by rw [hW.out]; exact ((Below.refl _ _).alloc (Nat.le_refl _) _).alloc (by simp) _, hB⟩)
  have HD := Lib.hid HQ.out.draw
  have HBB := Lib.hid hB
  rw [← hB]
  clear hW hB
  have C0 := HD.out.1
  have C1 := HD.out.2.1
  have F0 := HD.out.2.2.1
  have F1 := HD.out.2.2.2.1
  go_region_held3 (fun w' => w'.cell? ⟨B, 0, none⟩ = some (.string n) ∧ w'.cell? ⟨B, 1, none⟩ = some (.string s) ∧ w'.frozen? ⟨B, 0, none⟩ = false ∧ w'.frozen? ⟨B, 1, none⟩ = false ∧ ApQ w B n s a b w') (first | with_reducible exact HQ.out | with_reducible exact HD.out | with_reducible exact HS3.out | with_reducible exact HS4.out | with_reducible exact HS5.out | with_reducible exact HS6.out) ((first | (go_at_call 93; refine (H1.out _).mono ?_; clear H1; rintro e W3 ⟨rfl, hb3⟩; have HS3 : Hid (ApS w B n s a b W3) := Lib.hid (HD.out.beyond hb3); clear hb3) | (go_at_call 93; refine (H2.out _).mono ?_; clear H2; rintro e W4 ⟨rfl, hb4⟩; have HS4 : Hid (ApS w B n s a b W4) := Lib.hid (HS3.out.beyond hb4); have HS5 : Hid (ApS w B n s a b (W4.setCell ⟨B, 0, none⟩ (.string n))) := Lib.hid HS4.out.set0; have HS6 : Hid (ApS w B n s a b ((W4.setCell ⟨B, 0, none⟩ (.string n)).setCell ⟨B, 1, none⟩ (.string s))) := Lib.hid HS5.out.set1; clear hb4)))
  obtain ⟨W7, hW7⟩ : ∃ W7, W7 = (W4.setCell ⟨B, 0, none⟩ (.string n)).setCell ⟨B, 1, none⟩ (.string s) := ⟨_, rfl⟩
  have HS7 : Hid (ApQ w B n s a b W7) := Lib.hid (by rw [hW7]; exact HS6.out.2.2.2.2)
  rw [← hW7]
  clear hW7 C0 C1 F0 F1
  have X : Hid (∀ i v, [Value.string n, .string s, .int .i64 a, .int .i64 b][i]? = some v → W7.cell? ⟨B, i, none⟩ = some v) := Lib.hid fun i v hv => (show Arr W7 B 60 [.string n, .string s, .int .i64 a, .int .i64 b] from HS7.out.1).cell hv
  have c0 := X.out 0 _ rfl
  have c1 := X.out 1 _ rfl
  have c2 := X.out 2 _ rfl
  have c3 := X.out 3 _ rfl
  have Y : Hid (∀ i, W7.frozen? ⟨B + 1, i, none⟩ = false) := Lib.hid fun i => (show Arr W7 (B + 1) 60 [.string ⟨#[]⟩, .string ⟨#[]⟩, .int .i64 0, .int .i64 0] from HS7.out.2.1).free i
  have Z : Hid (∀ i v, [Value.string ⟨#[]⟩, .string ⟨#[]⟩, .int .i64 0, .int .i64 0][i]? = some v → W7.cell? ⟨B + 1, i, none⟩ = some v) := Lib.hid fun i v hv => (show Arr W7 (B + 1) 60 [.string ⟨#[]⟩, .string ⟨#[]⟩, .int .i64 0, .int .i64 0] from HS7.out.2.1).cell hv
  have d0 := Z.out 0 _ rfl
  have d1 := Z.out 1 _ rfl
  have d2 := Z.out 2 _ rfl
  have d3 := Z.out 3 _ rfl
  have g0 := Y.out 0
  have g1 := Y.out 1
  have g2 := Y.out 2
  have g3 := Y.out 3
  go_wp2_with fail
  refine bodyPost_ret (ret_ho (Q := B + 1) rfl rfl (setHo_at HS7.out.2.1 n s a b)) rfl ?_
  exact ⟨rfl, HS7.out.2.2.1.trans ((setHo_only W7 (B + 1) n s a b).below HS7.out.2.2.1.size (fun k hk => by have := HS7.out.2.2.2; omega))⟩
end Go.Proofs.YthbdchleppbidaaGreat
/- Package hold: Add to a table that is there. -/
namespace Go.Proofs.YthbdchleppbidaaGreat
open Go.RowKit Go.Maps

/-- between two calls: the hold in its block, the table as it was -/
def AddQ (w : World) (p : Nat) (b : Option Nat) (m : List Hld) (B : Nat) (x : Hld) (W : World) : Prop :=
  TabAt W p b m ∧ W.heap[B]? = some (.cells #[.string x.name, .string x.ser, .int .i64 x.a, .int .i64 x.b] 60 (0, 0)) ∧ Below B w W ∧ B = w.heap.size
theorem AddQ.beyond {w W W' : World} {p B : Nat} {b : Option Nat} {m : List Hld} {x : Hld} (h : AddQ w p b m B x W) (hb : Below W.heap.size W W') : AddQ w p b m B x W' :=
  ⟨h.1.below hb, (hb.block _ (lt_of_block h.2.1)).trans h.2.1, h.2.2.1.trans (hb.mono (by rw [h.2.2.2]; exact h.2.2.1.size)), h.2.2.2⟩
theorem AddQ.cells {w W : World} {p B : Nat} {b : Option Nat} {m : List Hld} {x : Hld} (h : AddQ w p b m B x W) :
    W.cell? ⟨B, 0, none⟩ = some (.string x.name) ∧ W.cell? ⟨B, 1, none⟩ = some (.string x.ser) ∧ W.cell? ⟨B, 2, none⟩ = some (.int .i64 x.a) ∧ W.cell? ⟨B, 3, none⟩ = some (.int .i64 x.b) ∧ W.cell? ⟨p, 0, none⟩ = some (.map b) := by
  have X : Arr W B 60 x.cells := h.2.1
  exact ⟨X.cell rfl, X.cell rfl, X.cell rfl, X.cell rfl, h.1.cell.1⟩
set_option maxHeartbeats 16000000 in
set_option maxRecDepth 100000 in
theorem hoadd_no {w : World} {p : Nat} {b : Option Nat} {m : List Hld} (h : TabAt w p b m) (x : Hld) (hn : x.name.size ≤ maxLen) (hs : x.ser.size ≤ maxLen) (hno : addE m x ≠ 0) :
    Calls Tryz.prog 22 #[.pointer (some ⟨p, 0, none⟩), x.val] w fun e w' => e = .returned (.int .i64 (addE m x)) ∧ Below w.heap.size w w' := by
  have HNAM : Hid (∀ W, Calls Tryz.prog 44 #[x.val] W fun e w' => e = .returned (.bool (namedH x)) ∧ Below W.heap.size W w') := Lib.hid fun W => honamed_any W x hn hs
  have HRIG : Hid (∀ W, Calls Tryz.prog 45 #[.agg #[.int .i64 x.a, .int .i64 x.b]] W fun e w' => e = .returned (.bool (rightR x.a x.b)) ∧ Below W.heap.size W w') := Lib.hid fun W => wiright_any W x.a x.b
  have HHAS : Hid (∀ W, TabAt W p b m → Calls Tryz.prog 46 #[.pointer (some ⟨p, 0, none⟩), .string x.name] W fun e w' => e = .returned (.bool (hasH m x.name)) ∧ Below W.heap.size W w') := Lib.hid fun W hW => hohas_any hW hn
  have HLEN : Hid (∀ W, TabAt W p b m → Calls Tryz.prog 47 #[.pointer (some ⟨p, 0, none⟩)] W fun e w' => e = .returned (.int .i64 (m.length : Int)) ∧ w' = W) := Lib.hid fun W hW => holen_any hW
  have HE : Hid (addE m x = if namedH x = false then 15 else if rightR x.a x.b = false then 3 else if hasH m x.name = true then 8 else if 16 ≤ m.length then 6 else 0) := Lib.hid rfl
  obtain ⟨E, hE⟩ : ∃ E, E = addE m x := ⟨_, rfl⟩
  obtain ⟨N, hN⟩ : ∃ N, N = namedH x := ⟨_, rfl⟩
  obtain ⟨R, hR⟩ : ∃ R, R = rightR x.a x.b := ⟨_, rfl⟩
  obtain ⟨G, hG⟩ : ∃ G, G = hasH m x.name := ⟨_, rfl⟩
  obtain ⟨L, hL⟩ : ∃ L, L = m.length := ⟨_, rfl⟩
  obtain ⟨B, hB⟩ : ∃ B, B = w.heap.size := ⟨_, rfl⟩
  have HQ0 : Hid (AddQ w p b m B x (w.alloc (.cells #[.string x.name, .string x.ser, .int .i64 x.a, .int .i64 x.b] 60))) := Lib.hid ⟨h.old _, by rw [hB]; exact heap_alloc_new _ _, (Below.refl _ _).alloc (by omega) _, hB⟩
  rw [← hE] at HE hno ⊢
  rw [← hN] at HNAM HE
  rw [← hR] at HRIG HE
  rw [← hG] at HHAS HE
  rw [← hL] at HLEN HE
  have HNO := Lib.hid hno
  clear hE hN hR hG hL h hn hs hno
  obtain ⟨n, s, a, c⟩ := x
  unfold Hld.val at *
  dsimp only at *
  subst hB
  cases N with
  | false =>
    obtain ⟨c0, c1, c2, c3, cp⟩ := HQ0.out.cells
    go_enter Tryz.func22, Tryz.ntmps22
    go_wp2_with (first | (go_at_call 44; refine (HNAM.out _).mono ?_; clear HNAM; rintro e W1 ⟨rfl, hb1⟩; have HQ1 := Lib.hid (HQ0.out.beyond hb1); clear hb1))
    go_ret
    exact ⟨by rw [HE.out]; rfl, HQ1.out.2.2.1⟩
  | true =>
    obtain ⟨c0, c1, c2, c3, cp⟩ := HQ0.out.cells
    cases R with
    | false =>
      go_enter Tryz.func22, Tryz.ntmps22
      go_wp2_with (first | (go_at_call 44; refine (HNAM.out _).mono ?_; clear HNAM; rintro e W1 ⟨rfl, hb1⟩; have HQ1 := Lib.hid (HQ0.out.beyond hb1); clear hb1; obtain ⟨c0, c1, c2, c3, cp⟩ := HQ1.out.cells) | (go_at_call 45; refine (HRIG.out _).mono ?_; clear HRIG; rintro e W2 ⟨rfl, hb2⟩; have HQ2 := Lib.hid (HQ1.out.beyond hb2); clear hb2; obtain ⟨c0, c1, c2, c3, cp⟩ := HQ2.out.cells))
      go_ret
      exact ⟨by rw [HE.out]; rfl, HQ2.out.2.2.1⟩
    | true =>
      cases G with
      | true =>
        go_enter Tryz.func22, Tryz.ntmps22
        go_wp2_with (first | (go_at_call 44; refine (HNAM.out _).mono ?_; clear HNAM; rintro e W1 ⟨rfl, hb1⟩; have HQ1 := Lib.hid (HQ0.out.beyond hb1); clear hb1; obtain ⟨c0, c1, c2, c3, cp⟩ := HQ1.out.cells) | (go_at_call 45; refine (HRIG.out _).mono ?_; clear HRIG; rintro e W2 ⟨rfl, hb2⟩; have HQ2 := Lib.hid (HQ1.out.beyond hb2); clear hb2; obtain ⟨c0, c1, c2, c3, cp⟩ := HQ2.out.cells) | (go_at_call 46; refine (HHAS.out _ HQ2.out.1).mono ?_; clear HHAS; rintro e W3 ⟨rfl, hb3⟩; have HQ3 := Lib.hid (HQ2.out.beyond hb3); clear hb3; obtain ⟨c0, c1, c2, c3, cp⟩ := HQ3.out.cells))
        go_ret
        exact ⟨by rw [HE.out]; rfl, HQ3.out.2.2.1⟩
      | false =>
        have h16 : 16 ≤ L := by
          rcases Nat.lt_or_ge L 16 with hl | hl
          · exact absurd (by rw [HE.out]; simp; omega) HNO.out
          · exact hl
        have t16 : decide ((16 : Int) ≤ (L : Int)) = true := by simp only [decide_eq_true_eq]; omega
        have HL := Lib.hid h16
        clear h16
        go_enter Tryz.func22, Tryz.ntmps22
        go_wp2_with (first | (go_at_call 44; refine (HNAM.out _).mono ?_; clear HNAM; rintro e W1 ⟨rfl, hb1⟩; have HQ1 := Lib.hid (HQ0.out.beyond hb1); clear hb1; obtain ⟨c0, c1, c2, c3, cp⟩ := HQ1.out.cells) | (go_at_call 45; refine (HRIG.out _).mono ?_; clear HRIG; rintro e W2 ⟨rfl, hb2⟩; have HQ2 := Lib.hid (HQ1.out.beyond hb2); clear hb2; obtain ⟨c0, c1, c2, c3, cp⟩ := HQ2.out.cells) | (go_at_call 46; refine (HHAS.out _ HQ2.out.1).mono ?_; clear HHAS; rintro e W3 ⟨rfl, hb3⟩; have HQ3 := Lib.hid (HQ2.out.beyond hb3); clear hb3; obtain ⟨c0, c1, c2, c3, cp⟩ := HQ3.out.cells) | (go_at_call 47; refine (HLEN.out _ HQ3.out.1).mono ?_; clear HLEN; rintro e W4 ⟨rfl, hw4⟩; replace hw4 := hw4.symm; subst hw4))
        go_ret
        exact ⟨by rw [HE.out]; simp [HL.out], HQ3.out.2.2.1⟩
end Go.Proofs.YthbdchleppbidaaGreat
/- Package hold: Add of one that may be added. -/
namespace Go.Proofs.YthbdchleppbidaaGreat
open Go.RowKit Go.Maps

theorem turned_only {w w' : World} {b : Nat} (h : w.mapTurned w' b) : Only (fun k => k = b) w w' := (Only.grown h.grown).mono fun k _ hk => by injection hk with hk; exact hk.symm
/-- one that wasn't there is put -/
theorem run_put_map {W : World} {g : Nat} {m : List Hld} {x : Hld} (h : MapIs W g m) (hno : hasH m x.name = false) (hl : m.length < maxLen) (hn : x.name.size ≤ maxLen) :
    ∃ W', (Instr.mapUpdate 92 (.map (some g)) (.string x.name) x.val).run Tryz.prog W = .ok () W' ∧ MapIs W' g (m ++ [x]) ∧ Only (fun k => k = g) W W' := by
  obtain ⟨es, h1, h2⟩ := h
  obtain ⟨W', r1, r2, r3⟩ := h1.store keyS mapT hl (litS_of hn) (readH_val x)
  exact ⟨W', r1, MapIs.put h2 hno r2, turned_only r3⟩
theorem wpList_put_map {W : World} {ops : Array Oper} {rest : List Oper} {o : Oper} {a : Act} {Q : Exit → Act → World → Prop} (hg : o.guard = none) (u x v : Operand) (hop : o.op = Op.mapUpdate 92 u x v) {g : Nat} {m : List Hld} {h : Hld}
    (hm : a.eval u = .map (some g)) (hx : a.eval x = .string h.name) (hv : a.eval v = h.val) (hi : MapIs W g m) (hno : hasH m h.name = false) (hl : m.length < maxLen) (hn : h.name.size ≤ maxLen)
    (hK : ∀ W', MapIs W' g (m ++ [h]) → Only (fun k => k = g) W W' → wpList Tryz.prog ops Q rest (a.put o.dst undef) W') : wpList Tryz.prog ops Q (o :: rest) a W := by
  refine wpList_plain hg fun K' hK' => ?_
  obtain ⟨W', hrun, r1, r2⟩ := run_put_map hi hno hl hn
  unfold Oper.wp
  simp [execOp, hop, hm, hx, hv, hrun, Result.andThen]
  exact hK' _ _ (hK W' r1 r2)
theorem run_eqMap {w : World} (q : Option Nat) : (binOp .eql 92 (.map q) (.map none)).run Tryz.prog w = .ok (.bool q.isNone) w := by
  have h : ∀ d, (Op.equalIn (d + 1) 92 (.map q) (.map none)).run Tryz.prog w = .ok q.isNone w := fun d => by
    cases q <;> simp [Op.equalIn, run_underlying mapT]
  simp only [binOp]
  simp [show Op.equal 92 (.map q) (.map none) = Op.equalIn (9999 + 1) 92 (.map q) (.map none) from rfl, h 9999]
/-- behind the map: the table has one -/
def AddR (w : World) (p : Nat) (b : Option Nat) (g : Nat) (m : List Hld) (B : Nat) (x : Hld) (W : World) : Prop :=
  TabAt W p (some g) m ∧ W.heap[B]? = some (.cells #[.string x.name, .string x.ser, .int .i64 x.a, .int .i64 x.b] 60 (0, 0)) ∧ Only (TFoot p b) w W ∧ B = w.heap.size ∧ (b = some g ∨ b = none ∧ B ≤ g)
theorem AddR.beyond {w W W' : World} {p B g : Nat} {b : Option Nat} {m : List Hld} {x : Hld} (h : AddR w p b g m B x W) (hb : Below W.heap.size W W') : AddR w p b g m B x W' :=
  ⟨h.1.below hb, (hb.block _ (lt_of_block h.2.1)).trans h.2.1, h.2.2.1.trans (only_beyond (S := fun _ => False) hb) (fun _ _ h => h.elim), h.2.2.2⟩
theorem AddR.drew {w W : World} {p B g : Nat} {b : Option Nat} {m : List Hld} {x : Hld} (h : AddR w p b g m B x W) : AddR w p b g m B x W.drew := h.beyond (below_drew (Below.refl _ _))
theorem AddR.cells {w W : World} {p B g : Nat} {b : Option Nat} {m : List Hld} {x : Hld} (h : AddR w p b g m B x W) :
    W.cell? ⟨B, 0, none⟩ = some (.string x.name) ∧ W.cell? ⟨B, 1, none⟩ = some (.string x.ser) ∧ W.cell? ⟨B, 2, none⟩ = some (.int .i64 x.a) ∧ W.cell? ⟨B, 3, none⟩ = some (.int .i64 x.b) ∧ W.cell? ⟨p, 0, none⟩ = some (.map (some g)) := by
  have X : Arr W B 60 x.cells := h.2.1
  exact ⟨X.cell rfl, X.cell rfl, X.cell rfl, X.cell rfl, h.1.cell.1⟩
theorem AddR.free {w W : World} {p B g : Nat} {b : Option Nat} {m : List Hld} {x : Hld} (h : AddR w p b g m B x W) : W.frozen? ⟨B, 0, none⟩ = false ∧ W.frozen? ⟨B, 1, none⟩ = false ∧ W.frozen? ⟨B, 2, none⟩ = false ∧ W.frozen? ⟨B, 3, none⟩ = false := by
  have X : Arr W B 60 x.cells := h.2.1
  exact ⟨X.free _, X.free _, X.free _, X.free _⟩
theorem AddR.set {w W : World} {p B g : Nat} {b : Option Nat} {m : List Hld} {x : Hld} (h : AddR w p b g m B x W) : AddR w p b g m B x (setHo W B x.name x.ser x.a x.b) := by
  have ho := setHo_only W B x.name x.ser x.a x.b
  have hoff : ∀ k, TFoot p (some g) k → ¬ k = B := fun k hk e => (h.1.off h.2.1 (by decide)) (e ▸ hk)
  have hs : (setHo W B x.name x.ser x.a x.b).heap.size = W.heap.size := by simp [setHo]
  exact ⟨h.1.only ho hoff, setHo_at h.2.1 _ _ _ _, h.2.2.1.trans ho (fun k hk e => by have := h.2.2.2.1; omega), h.2.2.2⟩
theorem AddR.start {w W : World} {p B g : Nat} {m : List Hld} {x : Hld} (h : AddQ w p (some g) m B x W) : AddR w p (some g) g m B x W := ⟨h.1, h.2.1, only_beyond (by rw [← h.2.2.2]; exact h.2.2.1), h.2.2.2, .inl rfl⟩
theorem AddR.made {w W : World} {p B : Nat} {m : List Hld} {x : Hld} (h : AddQ w p none m B x W) (_hm : m = []) : AddR w p none W.heap.size [] B x ((W.alloc (.map #[] 0)).setCell ⟨p, 0, none⟩ (.map (some W.heap.size))) := by
  have hp : (W.alloc (.map #[] 0)).heap[p]? = some (.cells #[.map none] 94 (0, 0)) := (Below.heap_alloc _ _ _ (lt_of_block h.1.blk)).trans h.1.blk
  have hB : (W.alloc (.map #[] 0)).heap[B]? = _ := (Below.heap_alloc _ _ _ (lt_of_block h.2.1)).trans h.2.1
  have ho : Only (fun k => k = p) (W.alloc (.map #[] 0)) ((W.alloc (.map #[] 0)).setCell ⟨p, 0, none⟩ (.map (some W.heap.size))) := Only.setCell (S := fun k => k = p) _ rfl _
  have hpB : ¬ B = p := fun e => by
    have := h.2.1
    rw [e, h.1.blk] at this
    injection this with this
    injection this with _ this
    exact absurd this (by decide)
  have hpl := lt_of_block h.1.blk
  have hBs := h.2.2.2
  have hsz := h.2.2.1.size
  refine ⟨⟨by rw [heap_setCell_same _ p 0 _ _ _ hp]; simp, fun k hk => ?_, fun e => by cases e⟩, (ho.block B (lt_of_block hB) hpB).trans hB, ?_, h.2.2.2, .inr ⟨rfl, by omega⟩⟩
  · injection hk with hk
    subst hk
    exact (MapIs.new W).only ho (by omega)
  · refine Only.trans (S := TFoot p none) (T := TFoot p none) (Only.trans (S := TFoot p none) (T := TFoot p none) (only_beyond (by rw [← h.2.2.2]; exact h.2.2.1)) (Only.alloc _ _ _) (fun _ _ h => h)) (ho.mono fun k _ hk => .inl hk) (fun _ _ h => h)
theorem AddR.ended {w W W' : World} {p B g : Nat} {b : Option Nat} {m : List Hld} {x : Hld} (h : AddR w p b g m B x W) (hi : MapIs W' g (m ++ [x])) (ho : Only (fun k => k = g) W W') : TabAt W' p (some g) (m ++ [x]) ∧ Only (TFoot p b) w W' ∧ (some g = b ∨ b = none ∧ w.heap.size ≤ g) := by
  have hne : ¬ p = g := fun e => h.1.apart (by rw [e])
  refine ⟨⟨(ho.block p (lt_of_block h.1.blk) hne).trans h.1.blk, fun k hk => by injection hk with hk; subst hk; exact hi, fun e => by cases e⟩, ?_, ?_⟩
  · refine h.2.2.1.trans ho fun k hk e => ?_
    rcases h.2.2.2.2 with h5 | ⟨_, h5⟩
    · exact .inr (by rw [h5, e])
    · have := h.2.2.2.1; omega
  · rcases h.2.2.2.2 with h5 | ⟨h5, h6⟩
    · exact .inl h5.symm
    · exact .inr ⟨h5, by have := h.2.2.2.1; omega⟩
set_option maxHeartbeats 16000000 in
set_option maxRecDepth 100000 in
theorem hoadd_yes {w : World} {p : Nat} {b : Option Nat} {m : List Hld} (h : TabAt w p b m) (x : Hld) (hy : addE m x = 0) :
    Calls Tryz.prog 22 #[.pointer (some ⟨p, 0, none⟩), x.val] w fun e w' => e = .returned (.int .i64 0) ∧ ∃ b', TabAt w' p b' (m ++ [x]) ∧ Only (TFoot p b) w w' ∧ (b' = b ∨ b = none ∧ ∀ g, b' = some g → w.heap.size ≤ g) := by
  obtain ⟨y1, y2, y3, y4⟩ := addE_zero.1 hy
  obtain ⟨z1, z2, z3⟩ := namedH_small y1
  have hmax : maxLen = 9223372036854775807 := rfl
  have HNAM : Hid (∀ W, Calls Tryz.prog 44 #[x.val] W fun e w' => e = .returned (.bool true) ∧ Below W.heap.size W w') := Lib.hid fun W => by have := honamed_any W x (by omega) (by omega); rw [y1] at this; exact this
  have HRIG : Hid (∀ W, Calls Tryz.prog 45 #[.agg #[.int .i64 x.a, .int .i64 x.b]] W fun e w' => e = .returned (.bool true) ∧ Below W.heap.size W w') := Lib.hid fun W => by have := wiright_any W x.a x.b; rw [y2] at this; exact this
  have HHAS : Hid (∀ W, TabAt W p b m → Calls Tryz.prog 46 #[.pointer (some ⟨p, 0, none⟩), .string x.name] W fun e w' => e = .returned (.bool false) ∧ Below W.heap.size W w') := Lib.hid fun W hW => by have := hohas_any (n := x.name) hW (by omega); rw [y3] at this; exact this
  have HLEN : Hid (∀ W, TabAt W p b m → Calls Tryz.prog 47 #[.pointer (some ⟨p, 0, none⟩)] W fun e w' => e = .returned (.int .i64 (m.length : Int)) ∧ w' = W) := Lib.hid fun W hW => holen_any hW
  have HAPA : Hid (∀ W, Calls Tryz.prog 48 #[x.val] W fun e w' => e = .returned x.val ∧ Below W.heap.size W w') := Lib.hid fun W => hoapart_any W x.name x.ser x.a x.b (by omega) (by omega)
  have HQ0 : Hid (AddQ w p b m w.heap.size x (w.alloc (.cells #[.string x.name, .string x.ser, .int .i64 x.a, .int .i64 x.b] 60))) := Lib.hid ⟨h.old _, heap_alloc_new _ _, (Below.refl _ _).alloc (by omega) _, rfl⟩
  have HNO := Lib.hid y3
  have HLT : Hid (m.length < maxLen) := Lib.hid (by omega)
  have HSZ : Hid (x.name.size ≤ maxLen) := Lib.hid (by omega)
  have HM0 := Lib.hid h.nil0
  have t16 : decide ((16 : Int) ≤ (m.length : Int)) = false := by simp only [decide_eq_false_iff_not]; omega
  have hmm := @run_makeMap Tryz.prog
  clear y1 y2 y3 y4 z1 z2 z3 h hy hmax
  obtain ⟨n, s, a, c⟩ := x
  unfold Hld.val at *
  dsimp only at *
  cases b with
  | some g =>
    have hq := fun w => run_eqMap (w := w) (some g)
    simp only [Option.isNone_some] at hq
    obtain ⟨c0, c1, c2, c3, cp⟩ := HQ0.out.cells
    go_enter Tryz.func22, Tryz.ntmps22
    go_wp2_with (first | (go_at_call 44; refine (HNAM.out _).mono ?_; clear HNAM; rintro e W1 ⟨rfl, hb1⟩; have HQ1 := Lib.hid (HQ0.out.beyond hb1); clear hb1; obtain ⟨c0, c1, c2, c3, cp⟩ := HQ1.out.cells) | (go_at_call 45; refine (HRIG.out _).mono ?_; clear HRIG; rintro e W2 ⟨rfl, hb2⟩; have HQ2 := Lib.hid (HQ1.out.beyond hb2); clear hb2; obtain ⟨c0, c1, c2, c3, cp⟩ := HQ2.out.cells) | (go_at_call 46; refine (HHAS.out _ HQ2.out.1).mono ?_; clear HHAS; rintro e W3 ⟨rfl, hb3⟩; have HQ3 := Lib.hid (HQ2.out.beyond hb3); clear hb3; obtain ⟨c0, c1, c2, c3, cp⟩ := HQ3.out.cells) | (go_at_call 47; refine (HLEN.out _ HQ3.out.1).mono ?_; clear HLEN; rintro e W4 ⟨rfl, hw4⟩; replace hw4 := hw4.symm; subst hw4; have fp := HQ3.out.1.cell.2; have HR4 := Lib.hid (AddR.start HQ3.out)) | (go_at_call 48; refine (HAPA.out _).mono ?_; clear HAPA; rintro e W5 ⟨rfl, hb5⟩; have HR5 := Lib.hid (HR4.out.beyond hb5); clear hb5; obtain ⟨c0, c1, c2, c3, cp⟩ := HR5.out.cells; obtain ⟨f0, f1, f2, f3⟩ := HR5.out.free))
    refine wp_name fun W6 hW6 => ?_
    have HR6 : Hid (AddR w p (some g) g m w.heap.size ⟨n, s, a, c⟩ W6) := Lib.hid (by rw [hW6.out]; exact HR5.out.set)
    clear hW6
    have HR7 := Lib.hid HR6.out.drew
    obtain ⟨c0, c1, c2, c3, cp⟩ := HR7.out.cells
    refine wp_region_still_tail 7 (by kernel_rfl) (by kernel_rfl) ?_
    simp only [List.take_succ_cons, List.take_zero, List.drop_succ_cons, List.drop_zero]
    obtain ⟨c0, c1, c2, c3, cp⟩ := HR6.out.cells
    iterate 7 still_step
    refine wpStill_nil ?_
    change wpList _ _ _ _ _ W6.drew
    refine wpList_put_map (h := ⟨n, s, a, c⟩) rfl _ _ _ rfl rfl rfl rfl (HR7.out.1.own _ rfl) HNO.out HLT.out HSZ.out ?_
    intro W8 hi8 ho8
    have HE8 := Lib.hid (HR7.out.ended hi8 ho8)
    clear hi8 ho8
    go_wp2
    go_ret
    exact ⟨rfl, HE8.out.1, HE8.out.2.1⟩
  | none =>
    have hq := fun w => run_eqMap (w := w) none
    simp only [Option.isNone_none] at hq
    have hm0 := HM0.out rfl
    subst hm0
    obtain ⟨c0, c1, c2, c3, cp⟩ := HQ0.out.cells
    go_enter Tryz.func22, Tryz.ntmps22
    go_wp2_with (first | (go_at_call 44; refine (HNAM.out _).mono ?_; clear HNAM; rintro e W1 ⟨rfl, hb1⟩; have HQ1 := Lib.hid (HQ0.out.beyond hb1); clear hb1; obtain ⟨c0, c1, c2, c3, cp⟩ := HQ1.out.cells) | (go_at_call 45; refine (HRIG.out _).mono ?_; clear HRIG; rintro e W2 ⟨rfl, hb2⟩; have HQ2 := Lib.hid (HQ1.out.beyond hb2); clear hb2; obtain ⟨c0, c1, c2, c3, cp⟩ := HQ2.out.cells) | (go_at_call 46; refine (HHAS.out _ HQ2.out.1).mono ?_; clear HHAS; rintro e W3 ⟨rfl, hb3⟩; have HQ3 := Lib.hid (HQ2.out.beyond hb3); clear hb3; obtain ⟨c0, c1, c2, c3, cp⟩ := HQ3.out.cells) | (go_at_call 47; refine (HLEN.out _ HQ3.out.1).mono ?_; clear HLEN; rintro e W4 ⟨rfl, hw4⟩; replace hw4 := hw4.symm; subst hw4; have fp := HQ3.out.1.cell.2; have HR4 := Lib.hid (AddR.made HQ3.out rfl); obtain ⟨xp, xf⟩ := (HQ3.out.1.old (.map #[] 0)).cell; obtain ⟨d0, d1, d2, d3, dp⟩ := HR4.out.cells) | (go_at_call 48; refine (HAPA.out _).mono ?_; clear HAPA; rintro e W5 ⟨rfl, hb5⟩; have HR5 := Lib.hid (HR4.out.beyond hb5); clear hb5; obtain ⟨c0, c1, c2, c3, cp⟩ := HR5.out.cells; obtain ⟨f0, f1, f2, f3⟩ := HR5.out.free))
    refine wp_name fun W6 hW6 => ?_
    have HR6 : Hid (AddR w p none W3.heap.size [] w.heap.size ⟨n, s, a, c⟩ W6) := Lib.hid (by rw [hW6.out]; exact HR5.out.set)
    clear hW6
    have HR7 := Lib.hid HR6.out.drew
    obtain ⟨c0, c1, c2, c3, cp⟩ := HR7.out.cells
    refine wp_region_still_tail 7 (by kernel_rfl) (by kernel_rfl) ?_
    simp only [List.take_succ_cons, List.take_zero, List.drop_succ_cons, List.drop_zero]
    obtain ⟨c0, c1, c2, c3, cp⟩ := HR6.out.cells
    iterate 7 still_step
    refine wpStill_nil ?_
    change wpList _ _ _ _ _ W6.drew
    refine wpList_put_map (h := ⟨n, s, a, c⟩) rfl _ _ _ rfl rfl rfl rfl (HR7.out.1.own _ rfl) HNO.out HLT.out HSZ.out ?_
    intro W8 hi8 ho8
    have HE8 := Lib.hid (HR7.out.ended hi8 ho8)
    clear hi8 ho8
    go_wp2
    go_ret
    exact ⟨rfl, some W3.heap.size, HE8.out.1, HE8.out.2.1, .inr fun g hg => by injection hg with hg; rw [← hg]; exact HQ3.out.2.2.1.size⟩
theorem hoadd_any {w : World} {p : Nat} {b : Option Nat} {m : List Hld} (h : TabAt w p b m) (x : Hld) (hn : x.name.size ≤ maxLen) (hs : x.ser.size ≤ maxLen) :
    Calls Tryz.prog 22 #[.pointer (some ⟨p, 0, none⟩), x.val] w fun e w' => e = .returned (.int .i64 (addE m x)) ∧ ∃ b', TabAt w' p b' (addM m x) ∧ Only (TFoot p b) w w' ∧ (b' = b ∨ b = none ∧ ∀ g, b' = some g → w.heap.size ≤ g) := by
  by_cases hy : addE m x = 0
  · rw [hy, show addM m x = m ++ [x] from if_pos hy]
    exact hoadd_yes h x hy
  · rw [show addM m x = m from if_neg hy]
    exact (hoadd_no h x hn hs hy).mono fun e w' ⟨he, hb⟩ => ⟨he, b, h.below hb, only_beyond hb, .inl rfl⟩
theorem hoadd_none (w : World) (x : Hld) : Calls Tryz.prog 22 #[.pointer none, x.val] w fun e w' => e = .returned (.int .i64 1) ∧ Below w.heap.size w w' := by
  obtain ⟨n, s, a, c⟩ := x
  unfold Hld.val
  dsimp only
  go_enter Tryz.func22, Tryz.ntmps22
  go_wp2_with fail
  go_ret
  exact ⟨rfl, (Below.refl _ _).alloc (Nat.le_refl _) _⟩
end Go.Proofs.YthbdchleppbidaaGreat
