/- Package hold: the map of holds, as it lies: which it bears, in no order. -/
import Derived.Test.YtphgkkdpdiiioaaHoL
import Derived.Maps.Range
import Derived.Maps.OwnSet
import Derived.Maps.RangeWalk
import Derived.Sort.KeysCollected
namespace Go.Proofs.Ytphgkkdpdiiioaa
open Go.RowKit Go.Maps

/-- the map's type -/
theorem keyS : Keyed Try.prog 9 := string_keyed Try.underlying9
theorem mapT : Try.prog.underlying 50 = some (.map 9 30) := Try.underlying50
/-- how a hold is read -/
def readL : List Value → Option (DataW Hld × List MemPlace)
  | [.string n, .string s, .int .i64 a, .int .i64 b] => some (.held ⟨n, s, a, b⟩, [])
  | _ => none
def readH : Value → Option (DataW Hld × List MemPlace)
  | .agg cs => readL cs.toList
  | _ => none
theorem readH_val (h : Hld) : readH h.val = some (.held h, []) := rfl
theorem readH_inv {v : Value} {z : DataW Hld × List MemPlace} (h : readH v = some z) : ∃ x : Hld, v = x.val ∧ z = (.held x, []) := by
  cases v <;> simp only [readH] at h <;> try cases h
  rename_i cs
  obtain ⟨cs, rfl⟩ : ∃ l : List Value, cs = l.toArray := ⟨cs.toList, by simp⟩
  simp only at h
  unfold readL at h
  split at h
  · next n s a b => cases h; exact ⟨⟨n, s, a, b⟩, rfl, rfl⟩
  · cases h
/-- a text as a key -/
def litS (n : ByteArray) : Lit := .string n.data.toList
theorem litS_inj {a b : ByteArray} (h : litS a = litS b) : a = b := by
  unfold litS at h
  injection h with h
  exact ByteArray.ext (Array.toList_inj.1 h)
theorem litS_key (n : ByteArray) : WideAt.IsKeyLit (litS n) := trivial
theorem litS_same (a b : ByteArray) : (litS a).sameKey (litS b) = decide (a = b) := by
  by_cases h : a = b
  · subst h; rw [WideAt.sameKey_self (litS_key a)]; simp
  · rw [sameKey_ne (fun e => h (litS_inj e))]; simp [h]
theorem litS_of {n : ByteArray} (hn : n.size ≤ maxLen) : keyOf Try.prog 9 (.string n) = some (litS n) := WideMaps.keyOf_string_mk Try.underlying9 hn
def entH (h : Hld) : Lit × DataW Hld := (litS h.name, .held h)
theorem entH_inj {x y : Hld} (h : entH x = entH y) : x = y := by
  unfold entH at h
  injection h with _ h
  injection h
/-- block b is a map of these holds -/
def MapIs (w : World) (b : Nat) (m : List Hld) : Prop := ∃ es, w.ownsMap Try.prog 9 readH b m.length (.map es) ∧ es.Perm (m.map entH)
theorem MapIs.lt {w : World} {b : Nat} {m : List Hld} (h : MapIs w b m) : b < w.heap.size := by obtain ⟨es, h1, _⟩ := h; exact h1.lt
theorem MapIs.obj {w : World} {b : Nat} {m : List Hld} (h : MapIs w b m) : ∃ es c, w.heap[b]? = some (.map es c) := by obtain ⟨es, ⟨e, c, h1, _⟩, _⟩ := h; exact ⟨e, c, h1⟩
theorem MapIs.ne {w : World} {b g : Nat} {m : List Hld} {cs : Array Value} {t : TypeId} {fr : Nat × Nat} (h : MapIs w b m) (hg : w.heap[g]? = some (.cells cs t fr)) : b ≠ g := by
  obtain ⟨es, c, hb⟩ := h.obj
  rintro rfl
  rw [hb] at hg
  cases hg
theorem MapIs.same {w w' : World} {b : Nat} {m : List Hld} (h : MapIs w b m) (hb : w'.heap[b]? = w.heap[b]?) : MapIs w' b m := by
  obtain ⟨es, ⟨e, c, h1, h2⟩, h3⟩ := h
  exact ⟨es, ⟨e, c, hb.trans h1, h2⟩, h3⟩
theorem MapIs.only {S : Nat → Prop} {w w' : World} {b : Nat} {m : List Hld} (h : MapIs w b m) (ho : Only S w w') (hS : ¬ S b) : MapIs w' b m := h.same (ho.block b h.lt hS)
theorem MapIs.below {w w' : World} {b : Nat} {m : List Hld} (h : MapIs w b m) (hb : Below w.heap.size w w') : MapIs w' b m := h.same (hb.block b h.lt)
theorem MapIs.new (w : World) : MapIs (w.alloc (.map #[] 0)) w.heap.size [] := ⟨[], World.ownsMap_made w _ _ _, .nil⟩
theorem perm_any {es : List (Lit × DataW Hld)} {m : List Hld} (h : es.Perm (m.map entH)) (n : ByteArray) : es.any (fun p => p.1.sameKey (litS n)) = hasH m n := by
  unfold hasH
  rw [Bool.eq_iff_iff]
  simp only [List.any_eq_true, decide_eq_true_eq]
  constructor
  · rintro ⟨p, hp, hk⟩
    obtain ⟨x, hx, rfl⟩ := List.mem_map.1 (h.mem_iff.1 hp)
    refine ⟨x, hx, ?_⟩
    have := litS_same x.name n
    simp only [entH] at hk
    rw [hk] at this
    simpa using this.symm
  · rintro ⟨x, hx, rfl⟩
    exact ⟨entH x, h.mem_iff.2 (List.mem_map.2 ⟨x, hx, rfl⟩), WideAt.sameKey_self (litS_key _)⟩
theorem perm_filter {es : List (Lit × DataW Hld)} {m : List Hld} (h : es.Perm (m.map entH)) (n : ByteArray) : (es.filter fun p => !p.1.sameKey (litS n)).Perm ((relM m n).map entH) := by
  refine (h.filter _).trans ?_
  rw [List.filter_map]
  unfold relM
  have : ((fun p : Lit × DataW Hld => !p.1.sameKey (litS n)) ∘ entH) = fun x => !decide (x.name = n) := by
    funext x
    simp only [Function.comp, entH, litS_same]
  rw [this]
theorem MapIs.has {es : List (Lit × DataW Hld)} {m : List Hld} (h : es.Perm (m.map entH)) (n : ByteArray) : Maps.has (.map es) (litS n) = hasH m n := perm_any h n
theorem MapIs.size {es : List (Lit × DataW Hld)} {m : List Hld} (h : es.Perm (m.map entH)) : Maps.size (.map es) = m.length := by
  unfold Maps.size; simpa using h.length_eq
theorem perm_insert {es r : List (Lit × DataW Hld)} (x : Lit × DataW Hld) (h : es.Perm r) : (DataW.insert x es).Perm (x :: r) := by
  refine List.Perm.trans ?_ (h.cons x)
  clear h
  induction es with
  | nil => exact .refl _
  | cons y l ih =>
    unfold DataW.insert
    split
    · exact .refl _
    · exact (ih.cons y).trans (.swap _ _ _)
/-- one that wasn't there is put -/
theorem MapIs.put {w' : World} {b : Nat} {m : List Hld} {es : List (Lit × DataW Hld)} {h : Hld} (hp : es.Perm (m.map entH)) (hno : hasH m h.name = false) (ho : w'.ownsMap Try.prog 9 readH b (m.length + 1) ((DataW.map es).put (litS h.name) (.held h))) : MapIs w' b (m ++ [h]) := by
  refine ⟨DataW.insert (entH h) (es.filter fun p => !p.1.sameKey (litS h.name)), ?_, ?_⟩
  · rw [show (m ++ [h]).length = m.length + 1 by simp]; exact ho
  · have h1 := perm_insert (entH h) (perm_filter hp h.name)
    rw [rel_none hno] at h1
    refine h1.trans ?_
    rw [List.map_append]
    simpa using (List.perm_append_comm (l₁ := [entH h]) (l₂ := m.map entH))
/-- one goes -/
theorem MapIs.drop {w' : World} {b : Nat} {m : List Hld} {es : List (Lit × DataW Hld)} {n : ByteArray} (hp : es.Perm (m.map entH)) (ho : w'.ownsMap Try.prog 9 readH b m.length ((DataW.map es).del (litS n))) : MapIs w' b (relM m n) := by
  refine ⟨es.filter fun p => !p.1.sameKey (litS n), ?_, perm_filter hp n⟩
  have ho' : w'.ownsMap Try.prog 9 readH b m.length (.map (es.filter fun p => !p.1.sameKey (litS n))) := ho
  obtain ⟨e, c, h1, h2, h3, h4⟩ := ho'
  refine ⟨e, c, h1, h2, ?_, h4⟩
  injection h4 with h4
  have h5 := congrArg List.length h4
  rw [length_sorted, (perm_filter hp n).length_eq] at h5
  simp at h5
  omega
end Go.Proofs.Ytphgkkdpdiiioaa
