/- Package roll, plainly: what the program does step by step, and that it comes to the plain aggregates. -/
import Derived.Test.YtdmlolagpbobeaaAgAt
import Derived.Test.YtdmlolagpbobeaaWiL
namespace Go.Proofs.Ytdmlolagpbobeaa

/-- an aggregate with the values of another one more -/
def withA (a b : Ag) : Ag := if b.n ≤ 0 then a else if a.n ≤ 0 then { b with at_ := a.at_ } else joinA2 a b
def oneA (v : Int) : Ag := ⟨0, 1, v, v, v⟩
def addA (a : Ag) (v : Int) : Ag := withA a (oneA v)
def zeroAg : Ag := ⟨0, 0, 0, 0, 0⟩
theorem noAg_fits {k : Int} (h0 : -9223372036854775808 ≤ k) (h1 : k ≤ 9223372036854775807) : (noAg k).fits := by
  unfold noAg
  exact ⟨h0, h1, by simp, by simp, by simp, by simp, by simp, by simp, by simp, by simp⟩
theorem oneA_fits {v : Int} (h0 : -9223372036854775808 ≤ v) (h1 : v ≤ 9223372036854775807) : (oneA v).fits := by
  unfold oneA
  exact ⟨by simp, by simp, by simp, by simp, h0, h1, h0, h1, h0, h1⟩
theorem join2_fits {a b : Ag} (ha : a.fits) (hb : b.fits) : (joinA2 a b).fits := by
  obtain ⟨a0, a1, a2, a3, a4, a5, a6, a7, a8, a9⟩ := ha
  obtain ⟨b0, b1, b2, b3, b4, b5, b6, b7, b8, b9⟩ := hb
  exact ⟨a0, a1, sat_lo _, sat_hi _, sat_lo _, sat_hi _, by unfold joinA2; simp only; split <;> omega, by unfold joinA2; simp only; split <;> omega, by unfold joinA2; simp only; split <;> omega, by unfold joinA2; simp only; split <;> omega⟩
theorem with_fits {a b : Ag} (ha : a.fits) (hb : b.fits) : (withA a b).fits := by
  unfold withA
  split
  · exact ha
  · split
    · exact ⟨ha.a0, ha.a1, hb.n0, hb.n1, hb.s0, hb.s1, hb.l0, hb.l1, hb.h0, hb.h1⟩
    · exact join2_fits ha hb
theorem add_fits {a : Ag} {v : Int} (ha : a.fits) (h0 : -9223372036854775808 ≤ v) (h1 : v ≤ 9223372036854775807) : (addA a v).fits := with_fits ha (oneA_fits h0 h1)
theorem with_at (a b : Ag) : (withA a b).at_ = a.at_ := by
  unfold withA joinA2
  split
  · rfl
  · split <;> rfl
/-! ### Of -/
/-- a value more, where the count is a count -/
theorem add_step {a : Ag} {v : Int} (h0 : 0 ≤ a.n) (h1 : a.n < 9223372036854775807) : addA a v = stepA a v := by
  unfold addA withA stepA oneA
  rw [if_neg (by simp only; omega)]
  by_cases h : a.n = 0
  · rw [if_pos (by omega), if_pos h]
  · rw [if_neg (by omega), if_neg h]
    unfold joinA2
    simp only
    rw [sat_in (x := a.n + 1) (by omega) (by omega)]
theorem step_n {a : Ag} {v : Int} : (stepA a v).n = a.n + 1 := by
  unfold stepA
  by_cases h : a.n = 0
  · rw [if_pos h]; simp only; omega
  · rw [if_neg h]
theorem ofA_snoc (k : Int) (g : List Pt) (p : Pt) : ofA k (g ++ [p]) = stepA (ofA k g) p.v := by unfold ofA; rw [List.foldl_append]; rfl
theorem rev_ind {α : Type} {P : List α → Prop} (h0 : P []) (h1 : ∀ l x, P l → P (l ++ [x])) : ∀ l, P l := by
  intro l
  have h : ∀ m : List α, P m.reverse := by
    intro m
    induction m with
    | nil => exact h0
    | cons x r ih => rw [List.reverse_cons]; exact h1 _ _ ih
  have := h l.reverse
  rwa [List.reverse_reverse] at this
theorem ofA_n (k : Int) (g : List Pt) : (ofA k g).n = g.length := by
  refine rev_ind (P := fun g => (ofA k g).n = g.length) rfl (fun l x ih => ?_) g
  rw [ofA_snoc, step_n, ih, List.length_append]; simp
theorem ofA_at (k : Int) (g : List Pt) : (ofA k g).at_ = k := by
  refine rev_ind (P := fun g => (ofA k g).at_ = k) rfl (fun l x ih => ?_) g
  rw [ofA_snoc]
  unfold stepA
  split <;> exact ih
theorem ofA_add {k : Int} {g : List Pt} {p : Pt} (h : g.length < 9223372036854775807) : addA (ofA k g) p.v = ofA k (g ++ [p]) := by
  rw [ofA_snoc]; exact add_step (by rw [ofA_n]; omega) (by rw [ofA_n]; omega)
theorem ofA_nil (k : Int) : ofA k [] = noAg k := rfl
theorem ofA_fits {k : Int} (h0 : -9223372036854775808 ≤ k) (h1 : k ≤ 9223372036854775807) {g : List Pt} (hg : ∀ p ∈ g, p.fits) (hl : g.length < 9223372036854775807) : (ofA k g).fits := by
  have key : ∀ g : List Pt, (∀ p ∈ g, p.fits) → g.length < 9223372036854775807 → (ofA k g).fits := by
    intro g
    refine rev_ind (P := fun g => (∀ p ∈ g, p.fits) → g.length < 9223372036854775807 → (ofA k g).fits) (fun _ _ => noAg_fits h0 h1) (fun l x ih hg hl => ?_) g
    rw [List.length_append] at hl
    simp only [List.length_cons, List.length_nil] at hl
    rw [← ofA_add (by omega)]
    have hx := hg x (by simp)
    exact add_fits (ih (fun p hp => hg p (by simp [hp])) (by omega)) hx.2.2.1 hx.2.2.2
  exact key g hg hl
theorem take_snoc {α : Type} {l : List α} {j : Nat} {x : α} (h : l[j]? = some x) : l.take (j + 1) = l.take j ++ [x] := by rw [List.take_add_one, h]; rfl
/-! ### Join -/
/-- joined so far -/
def accA (k : Int) (l : List Ag) : Ag := l.foldl withA (noAg k)
theorem accA_snoc (k : Int) (g : List Ag) (b : Ag) : accA k (g ++ [b]) = withA (accA k g) b := by unfold accA; rw [List.foldl_append]; rfl
theorem accA_fits {k : Int} (h0 : -9223372036854775808 ≤ k) (h1 : k ≤ 9223372036854775807) {g : List Ag} (hg : ∀ p ∈ g, p.fits) : (accA k g).fits := by
  have key : ∀ g : List Ag, (∀ p ∈ g, p.fits) → (accA k g).fits := by
    intro g
    refine rev_ind (P := fun g => (∀ p ∈ g, p.fits) → (accA k g).fits) (fun _ => noAg_fits h0 h1) (fun l x ih hg => ?_) g
    rw [accA_snoc]
    exact with_fits (ih fun p hp => hg p (by simp [hp])) (hg x (by simp))
  exact key g hg
theorem sat_pos {x : Int} (h : 1 ≤ x) : 1 ≤ sat x := by unfold sat; split <;> (try split) <;> omega
/-- what was joined so far, as the document has it -/
def joinedA (l : List Ag) : Option Ag := l.foldl joinStep none
theorem joinedA_snoc (g : List Ag) (b : Ag) : joinedA (g ++ [b]) = joinStep (joinedA g) b := by unfold joinedA; rw [List.foldl_append]; rfl
theorem joined_pos (l : List Ag) : ∀ a, joinedA l = some a → 1 ≤ a.n := by
  refine rev_ind (P := fun l => ∀ a, joinedA l = some a → 1 ≤ a.n) (fun a h => by cases h) (fun l x ih => ?_) l
  intro a h
  rw [joinedA_snoc] at h
  unfold joinStep at h
  by_cases hx : x.n < 1
  · rw [if_pos hx] at h; exact ih a h
  · rw [if_neg hx] at h
    cases hj : joinedA l with
    | none => rw [hj] at h; obtain rfl := Option.some.inj h; omega
    | some c =>
      rw [hj] at h
      obtain rfl := Option.some.inj h
      have := ih c hj
      exact sat_pos (by omega)
theorem acc_joined (k : Int) (l : List Ag) : accA k l = match joinedA l with | none => noAg k | some a => { a with at_ := k } := by
  refine rev_ind (P := fun l => accA k l = match joinedA l with | none => noAg k | some a => { a with at_ := k }) rfl (fun l x ih => ?_) l
  rw [accA_snoc, joinedA_snoc, ih]
  have hp := joined_pos l
  unfold joinStep withA
  by_cases hx : x.n < 1
  · rw [if_pos (by omega), if_pos hx]
  · rw [if_neg (by omega), if_neg hx]
    cases hj : joinedA l with
    | none => simp only; rw [if_pos (by unfold noAg; simp)]; rfl
    | some c =>
      have hc := hp c hj
      simp only
      rw [if_neg (by omega)]
      rfl
theorem acc_none {k : Int} {l : List Ag} (h : joinedA l = none) : accA k l = noAg k := by rw [acc_joined, h]
theorem acc_some {k : Int} {l : List Ag} {a : Ag} (h : joinedA l = some a) : accA k l = { a with at_ := k } := by rw [acc_joined, h]
theorem joinA_eq (k : Int) (l : List Ag) : joinA k l = (joinedA l).map fun a => { a with at_ := k } := rfl
/-- what Join tells: the aggregate, or nothing -/
def orZero (o : Option Ag) : Ag := o.getD zeroAg
theorem acc_told (k : Int) (l : List Ag) : (if 0 < (accA k l).n then some (accA k l) else none) = joinA k l := by
  rw [joinA_eq]
  have hp := joined_pos l
  cases hj : joinedA l with
  | none => rw [acc_none hj]; rfl
  | some a =>
    have := hp a hj
    rw [acc_some hj, if_pos (by simp only; omega)]; rfl
/-! ### Rising rows, and their groups -/
/-- each above the one ahead -/
def upFrom (last : Int) : List Int → Bool
  | [] => true
  | x :: r => decide (last < x) && upFrom x r
theorem up_cons (last x : Int) (r : List Int) : upFrom last (x :: r) = (decide (last < x) && upFrom x r) := rfl
theorem up_drop {l : List Int} {last : Int} {j : Nat} {x : Int} (h : l[j]? = some x) : upFrom last (l.drop j) = (decide (last < x) && upFrom x (l.drop (j + 1))) := by
  obtain ⟨hj, e⟩ := List.getElem?_eq_some_iff.1 h
  rw [List.drop_eq_getElem_cons hj, e, up_cons]
theorem up_end {l : List Int} {last : Int} {j : Nat} (h : l.length ≤ j) : upFrom last (l.drop j) = true := by rw [List.drop_of_length_le h]; rfl
/-- a rising row: all are above what it begins above -/
theorem up_all {l : List Int} : ∀ {last : Int}, upFrom last l = true → ∀ x ∈ l, last < x := by
  induction l with
  | nil => intro last _ x hx; simp at hx
  | cons y r ih =>
    intro last h x hx
    rw [up_cons, Bool.and_eq_true, decide_eq_true_iff] at h
    rcases List.mem_cons.1 hx with rfl | hx
    · exact h.1
    · have := ih h.2 x hx; omega
/-- a group ahead of what has another key, or of nothing -/
theorem runs_split {α : Type} (f : α → Int) (k : Int) (g rest : List α) (hg : g ≠ []) (hk : ∀ x ∈ g, f x = k) (hr : ∀ y, rest.head? = some y → f y ≠ k) : runs f (g ++ rest) = (k, g) :: runs f rest := by
  induction g with
  | nil => exact absurd rfl hg
  | cons x r ih =>
    have hx : f x = k := hk x (by simp)
    rw [List.cons_append, runs_cons]
    by_cases h0 : r = []
    · subst h0
      rw [List.nil_append]
      cases hrr : runs f rest with
      | nil => simp only; rw [hx]
      | cons kg t =>
        obtain ⟨k', g'⟩ := kg
        simp only
        have hne : ¬ f x = k' := by
          intro e
          obtain ⟨n0, n1⟩ := runs_keys f rest (k', g') (by rw [hrr]; simp)
          have hall := runs_all f rest
          rw [hrr, List.flatMap_cons] at hall
          cases g' with
          | nil => exact n0 rfl
          | cons y g2 =>
            refine hr y ?_ ?_
            · rw [← hall]; rfl
            · rw [n1 y (by simp), ← e, hx]
        rw [if_neg hne, hx]
    · rw [ih h0 (fun y hy => hk y (by simp [hy]))]
      simp only
      rw [if_pos hx]
/-- the groups from a place on: the one that stands there, and those behind it -/
theorem runs_at {α : Type} (f : α → Int) (k : Int) {l : List α} {i j : Nat} (hij : i < j) (hj : j ≤ l.length) (hk : ∀ m x, i ≤ m → m < j → l[m]? = some x → f x = k) (hr : ∀ y, l[j]? = some y → f y ≠ k) :
    runs f (l.drop i) = (k, (l.drop i).take (j - i)) :: runs f (l.drop j) := by
  have e : l.drop i = (l.drop i).take (j - i) ++ l.drop j := by
    conv => lhs; rw [← List.take_append_drop (j - i) (l.drop i)]
    rw [List.drop_drop, show i + (j - i) = j by omega]
  conv => lhs; rw [e]
  refine runs_split f k _ _ ?_ ?_ ?_
  · intro h0
    have := congrArg List.length h0
    rw [List.length_take, List.length_drop] at this
    simp only [List.length_nil] at this
    omega
  · intro x hx
    obtain ⟨m, hm⟩ := List.getElem?_of_mem hx
    rw [List.getElem?_take] at hm
    split at hm
    · rw [List.getElem?_drop] at hm
      exact hk (i + m) x (by omega) (by omega) hm
    · cases hm
  · intro y hy
    rw [List.head?_drop] at hy
    exact hr y hy
/-- what Points tells -/
def pointsR (t : Int) (l : List Pt) : List Ag := if widthW t = 0 ∨ upFrom (-1) (l.map Pt.a) = false then [] else (runs (fun p => startW t p.a) l).map fun e => ofA e.1 e.2
/-- what Aggs tells -/
def aggsR (t : Int) (l : List Ag) : List Ag := if widthW t = 0 ∨ upFrom (-1) (l.map Ag.at_) = false then [] else (runs (fun a => startW t a.at_) l).filterMap fun e => joinA e.1 e.2
end Go.Proofs.Ytdmlolagpbobeaa
