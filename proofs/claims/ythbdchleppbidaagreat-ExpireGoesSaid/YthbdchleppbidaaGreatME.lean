/- RoP, TiL, RoTier, TiG, TiP, TiR: laid into one. -/
import Derived.Test.YthbdchleppbidaaGreatMC
import Derived.Test.YthbdchleppbidaaGreatMB
/- Package roll, plainly: what the program does step by step, and that it comes to the plain aggregates. -/
namespace Go.Proofs.YthbdchleppbidaaGreat

/-- an aggregate with the values of another one more -/
def withA (a b : Ag) : Ag := if b.n ≤ 0 then a else if a.n ≤ 0 then { b with at_ := a.at_ } else joinA2 a b
def oneA (v : Int) : Ag := ⟨0, 1, v, v, v⟩
def addA (a : Ag) (v : Int) : Ag := withA a (oneA v)
def zeroAg : Ag := ⟨0, 0, 0, 0, 0⟩
theorem noAg_fits {k : Int} (h0 : -9223372036854775808 ≤ k) (h1 : k ≤ 9223372036854775807) : (noAg k).fits := by
  unfold noAg
  exact ⟨h0, h1, by simp, by simp, by simp, by simp, by simp, by simp, by simp, by simp⟩
theorem oneA_fits {v : Int} (h0 : -9223372036854775808 ≤ v) (h1 : v ≤ 9223372036854775807) : (oneA v).fits := by
  unfold oneA
  exact ⟨by simp, by simp, by simp, by simp, h0, h1, h0, h1, h0, h1⟩
theorem join2_fits {a b : Ag} (ha : a.fits) (hb : b.fits) : (joinA2 a b).fits := by
  obtain ⟨a0, a1, a2, a3, a4, a5, a6, a7, a8, a9⟩ := ha
  obtain ⟨b0, b1, b2, b3, b4, b5, b6, b7, b8, b9⟩ := hb
  exact ⟨a0, a1, sat_lo _, sat_hi _, sat_lo _, sat_hi _, by unfold joinA2; simp only; split <;> omega, by unfold joinA2; simp only; split <;> omega, by unfold joinA2; simp only; split <;> omega, by unfold joinA2; simp only; split <;> omega⟩
theorem with_fits {a b : Ag} (ha : a.fits) (hb : b.fits) : (withA a b).fits := by
  unfold withA
  split
  · exact ha
  · split
    · exact ⟨ha.a0, ha.a1, hb.n0, hb.n1, hb.s0, hb.s1, hb.l0, hb.l1, hb.h0, hb.h1⟩
    · exact join2_fits ha hb
theorem add_fits {a : Ag} {v : Int} (ha : a.fits) (h0 : -9223372036854775808 ≤ v) (h1 : v ≤ 9223372036854775807) : (addA a v).fits := with_fits ha (oneA_fits h0 h1)
theorem with_at (a b : Ag) : (withA a b).at_ = a.at_ := by
  unfold withA joinA2
  split
  · rfl
  · split <;> rfl
/-! ### Of -/
/-- a value more, where the count is a count -/
theorem add_step {a : Ag} {v : Int} (h0 : 0 ≤ a.n) (h1 : a.n < 9223372036854775807) : addA a v = stepA a v := by
  unfold addA withA stepA oneA
  rw [if_neg (by simp only; omega)]
  by_cases h : a.n = 0
  · rw [if_pos (by omega), if_pos h]
  · rw [if_neg (by omega), if_neg h]
    unfold joinA2
    simp only
    rw [sat_in (x := a.n + 1) (by omega) (by omega)]
theorem step_n {a : Ag} {v : Int} : (stepA a v).n = a.n + 1 := by
  unfold stepA
  by_cases h : a.n = 0
  · rw [if_pos h]; simp only; omega
  · rw [if_neg h]
theorem ofA_snoc (k : Int) (g : List Pt) (p : Pt) : ofA k (g ++ [p]) = stepA (ofA k g) p.v := by unfold ofA; rw [List.foldl_append]; rfl
theorem rev_ind {α : Type} {P : List α → Prop} (h0 : P []) (h1 : ∀ l x, P l → P (l ++ [x])) : ∀ l, P l := by
  intro l
  have h : ∀ m : List α, P m.reverse := by
    intro m
    induction m with
    | nil => exact h0
    | cons x r ih => rw [List.reverse_cons]; exact h1 _ _ ih
  have := h l.reverse
  rwa [List.reverse_reverse] at this
theorem ofA_n (k : Int) (g : List Pt) : (ofA k g).n = g.length := by
  refine rev_ind (P := fun g => (ofA k g).n = g.length) rfl (fun l x ih => ?_) g
  rw [ofA_snoc, step_n, ih, List.length_append]; simp
theorem ofA_at (k : Int) (g : List Pt) : (ofA k g).at_ = k := by
  refine rev_ind (P := fun g => (ofA k g).at_ = k) rfl (fun l x ih => ?_) g
  rw [ofA_snoc]
  unfold stepA
  split <;> exact ih
theorem ofA_add {k : Int} {g : List Pt} {p : Pt} (h : g.length < 9223372036854775807) : addA (ofA k g) p.v = ofA k (g ++ [p]) := by
  rw [ofA_snoc]; exact add_step (by rw [ofA_n]; omega) (by rw [ofA_n]; omega)
theorem ofA_nil (k : Int) : ofA k [] = noAg k := rfl
theorem ofA_fits {k : Int} (h0 : -9223372036854775808 ≤ k) (h1 : k ≤ 9223372036854775807) {g : List Pt} (hg : ∀ p ∈ g, p.fits) (hl : g.length < 9223372036854775807) : (ofA k g).fits := by
  have key : ∀ g : List Pt, (∀ p ∈ g, p.fits) → g.length < 9223372036854775807 → (ofA k g).fits := by
    intro g
    refine rev_ind (P := fun g => (∀ p ∈ g, p.fits) → g.length < 9223372036854775807 → (ofA k g).fits) (fun _ _ => noAg_fits h0 h1) (fun l x ih hg hl => ?_) g
    rw [List.length_append] at hl
    simp only [List.length_cons, List.length_nil] at hl
    rw [← ofA_add (by omega)]
    have hx := hg x (by simp)
    exact add_fits (ih (fun p hp => hg p (by simp [hp])) (by omega)) hx.2.2.1 hx.2.2.2
  exact key g hg hl
theorem take_snoc {α : Type} {l : List α} {j : Nat} {x : α} (h : l[j]? = some x) : l.take (j + 1) = l.take j ++ [x] := by rw [List.take_add_one, h]; rfl
/-! ### Join -/
/-- joined so far -/
def accA (k : Int) (l : List Ag) : Ag := l.foldl withA (noAg k)
theorem accA_snoc (k : Int) (g : List Ag) (b : Ag) : accA k (g ++ [b]) = withA (accA k g) b := by unfold accA; rw [List.foldl_append]; rfl
theorem accA_fits {k : Int} (h0 : -9223372036854775808 ≤ k) (h1 : k ≤ 9223372036854775807) {g : List Ag} (hg : ∀ p ∈ g, p.fits) : (accA k g).fits := by
  have key : ∀ g : List Ag, (∀ p ∈ g, p.fits) → (accA k g).fits := by
    intro g
    refine rev_ind (P := fun g => (∀ p ∈ g, p.fits) → (accA k g).fits) (fun _ => noAg_fits h0 h1) (fun l x ih hg => ?_) g
    rw [accA_snoc]
    exact with_fits (ih fun p hp => hg p (by simp [hp])) (hg x (by simp))
  exact key g hg
theorem sat_pos {x : Int} (h : 1 ≤ x) : 1 ≤ sat x := by unfold sat; split <;> (try split) <;> omega
/-- what was joined so far, as the document has it -/
def joinedA (l : List Ag) : Option Ag := l.foldl joinStep none
theorem joinedA_snoc (g : List Ag) (b : Ag) : joinedA (g ++ [b]) = joinStep (joinedA g) b := by unfold joinedA; rw [List.foldl_append]; rfl
theorem joined_pos (l : List Ag) : ∀ a, joinedA l = some a → 1 ≤ a.n := by
  refine rev_ind (P := fun l => ∀ a, joinedA l = some a → 1 ≤ a.n) (fun a h => by cases h) (fun l x ih => ?_) l
  intro a h
  rw [joinedA_snoc] at h
  unfold joinStep at h
  by_cases hx : x.n < 1
  · rw [if_pos hx] at h; exact ih a h
  · rw [if_neg hx] at h
    cases hj : joinedA l with
    | none => rw [hj] at h; obtain rfl := Option.some.inj h; omega
    | some c =>
      rw [hj] at h
      obtain rfl := Option.some.inj h
      have := ih c hj
      exact sat_pos (by omega)
theorem acc_joined (k : Int) (l : List Ag) : accA k l = match joinedA l with | none => noAg k | some a => { a with at_ := k } := by
  refine rev_ind (P := fun l => accA k l = match joinedA l with | none => noAg k | some a => { a with at_ := k }) rfl (fun l x ih => ?_) l
  rw [accA_snoc, joinedA_snoc, ih]
  have hp := joined_pos l
  unfold joinStep withA
  by_cases hx : x.n < 1
  · rw [if_pos (by omega), if_pos hx]
  · rw [if_neg (by omega), if_neg hx]
    cases hj : joinedA l with
    | none => simp only; rw [if_pos (by unfold noAg; simp)]; rfl
    | some c =>
      have hc := hp c hj
      simp only
      rw [if_neg (by omega)]
      rfl
theorem acc_none {k : Int} {l : List Ag} (h : joinedA l = none) : accA k l = noAg k := by rw [acc_joined, h]
theorem acc_some {k : Int} {l : List Ag} {a : Ag} (h : joinedA l = some a) : accA k l = { a with at_ := k } := by rw [acc_joined, h]
theorem joinA_eq (k : Int) (l : List Ag) : joinA k l = (joinedA l).map fun a => { a with at_ := k } := rfl
/-- what Join tells: the aggregate, or nothing -/
def orZero (o : Option Ag) : Ag := o.getD zeroAg
theorem acc_told (k : Int) (l : List Ag) : (if 0 < (accA k l).n then some (accA k l) else none) = joinA k l := by
  rw [joinA_eq]
  have hp := joined_pos l
  cases hj : joinedA l with
  | none => rw [acc_none hj]; rfl
  | some a =>
    have := hp a hj
    rw [acc_some hj, if_pos (by simp only; omega)]; rfl
/-! ### Rising rows, and their groups -/
/-- each above the one ahead -/
def upFrom (last : Int) : List Int → Bool
  | [] => true
  | x :: r => decide (last < x) && upFrom x r
theorem up_cons (last x : Int) (r : List Int) : upFrom last (x :: r) = (decide (last < x) && upFrom x r) := rfl
theorem up_drop {l : List Int} {last : Int} {j : Nat} {x : Int} (h : l[j]? = some x) : upFrom last (l.drop j) = (decide (last < x) && upFrom x (l.drop (j + 1))) := by
  obtain ⟨hj, e⟩ := List.getElem?_eq_some_iff.1 h
  rw [List.drop_eq_getElem_cons hj, e, up_cons]
theorem up_end {l : List Int} {last : Int} {j : Nat} (h : l.length ≤ j) : upFrom last (l.drop j) = true := by rw [List.drop_of_length_le h]; rfl
/-- a rising row: all are above what it begins above -/
theorem up_all {l : List Int} : ∀ {last : Int}, upFrom last l = true → ∀ x ∈ l, last < x := by
  induction l with
  | nil => intro last _ x hx; simp at hx
  | cons y r ih =>
    intro last h x hx
    rw [up_cons, Bool.and_eq_true, decide_eq_true_iff] at h
    rcases List.mem_cons.1 hx with rfl | hx
    · exact h.1
    · have := ih h.2 x hx; omega
/-- a group ahead of what has another key, or of nothing -/
theorem runs_split {α : Type} (f : α → Int) (k : Int) (g rest : List α) (hg : g ≠ []) (hk : ∀ x ∈ g, f x = k) (hr : ∀ y, rest.head? = some y → f y ≠ k) : runs f (g ++ rest) = (k, g) :: runs f rest := by
  induction g with
  | nil => exact absurd rfl hg
  | cons x r ih =>
    have hx : f x = k := hk x (by simp)
    rw [List.cons_append, runs_cons]
    by_cases h0 : r = []
    · subst h0
      rw [List.nil_append]
      cases hrr : runs f rest with
      | nil => simp only; rw [hx]
      | cons kg t =>
        obtain ⟨k', g'⟩ := kg
        simp only
        have hne : ¬ f x = k' := by
          intro e
          obtain ⟨n0, n1⟩ := runs_keys f rest (k', g') (by rw [hrr]; simp)
          have hall := runs_all f rest
          rw [hrr, List.flatMap_cons] at hall
          cases g' with
          | nil => exact n0 rfl
          | cons y g2 =>
            refine hr y ?_ ?_
            · rw [← hall]; rfl
            · rw [n1 y (by simp), ← e, hx]
        rw [if_neg hne, hx]
    · rw [ih h0 (fun y hy => hk y (by simp [hy]))]
      simp only
      rw [if_pos hx]
/-- the groups from a place on: the one that stands there, and those behind it -/
theorem runs_at {α : Type} (f : α → Int) (k : Int) {l : List α} {i j : Nat} (hij : i < j) (hj : j ≤ l.length) (hk : ∀ m x, i ≤ m → m < j → l[m]? = some x → f x = k) (hr : ∀ y, l[j]? = some y → f y ≠ k) :
    runs f (l.drop i) = (k, (l.drop i).take (j - i)) :: runs f (l.drop j) := by
  have e : l.drop i = (l.drop i).take (j - i) ++ l.drop j := by
    conv => lhs; rw [← List.take_append_drop (j - i) (l.drop i)]
    rw [List.drop_drop, show i + (j - i) = j by omega]
  conv => lhs; rw [e]
  refine runs_split f k _ _ ?_ ?_ ?_
  · intro h0
    have := congrArg List.length h0
    rw [List.length_take, List.length_drop] at this
    simp only [List.length_nil] at this
    omega
  · intro x hx
    obtain ⟨m, hm⟩ := List.getElem?_of_mem hx
    rw [List.getElem?_take] at hm
    split at hm
    · rw [List.getElem?_drop] at hm
      exact hk (i + m) x (by omega) (by omega) hm
    · cases hm
  · intro y hy
    rw [List.head?_drop] at hy
    exact hr y hy
/-- what Points tells -/
def pointsR (t : Int) (l : List Pt) : List Ag := if widthW t = 0 ∨ upFrom (-1) (l.map Pt.a) = false then [] else (runs (fun p => startW t p.a) l).map fun e => ofA e.1 e.2
/-- what Aggs tells -/
def aggsR (t : Int) (l : List Ag) : List Ag := if widthW t = 0 ∨ upFrom (-1) (l.map Ag.at_) = false then [] else (runs (fun a => startW t a.at_) l).filterMap fun e => joinA e.1 e.2
/-! ### What is right -/
def rightA (t : Ag) : Bool := decide (0 < t.n) && decide (t.lo ≤ t.hi)
theorem right_of {k : Int} {l : List Pt} (hne : l ≠ []) : rightA (ofA k l) = true := by
  have key : ∀ g : List Pt, g ≠ [] → (ofA k g).lo ≤ (ofA k g).hi := by
    intro g
    refine rev_ind (P := fun g => g ≠ [] → (ofA k g).lo ≤ (ofA k g).hi) (fun h => absurd rfl h) (fun g p ih _ => ?_) g
    rw [ofA_snoc]
    unfold stepA
    by_cases h0 : (ofA k g).n = 0
    · rw [if_pos h0]; exact Int.le_refl _
    · rw [if_neg h0]
      have h1 := ih (by rintro rfl; exact h0 rfl)
      simp only
      (repeat' split) <;> omega
  unfold rightA
  have hn : (0 : Int) < (ofA k l).n := by
    rw [ofA_n]
    have := List.length_pos_iff.2 hne; omega
  rw [decide_eq_true hn, decide_eq_true (key l hne)]; rfl
end Go.Proofs.YthbdchleppbidaaGreat
/- A stock in three tiers, plainly: what is rolled and purged; and that behind a purge nothing hangs on the values that went. -/
namespace Go.Proofs.YthbdchleppbidaaGreat

structure Stk where
  raw : List Pt
  mid : List Ag
  long : List Ag
  mm : Int
  ml : Int
deriving DecidableEq, Inhabited
/-- has the window at x, so wide, some of the range a to b? -/
def metA (w a b x : Int) : Bool := decide (x < b) && decide (a < x + w)
/-- groups that go in, so many at most; where the first one stops that doesn't, else up to where all is -/
def rollTo {α : Type} (gs : List (Int × List α)) (room : Nat) (M : Int) : List (Int × List α) × Int := (gs.take room, match gs[room]? with | some e => e.1 | none => M)
def upTo (w m now : Int) : Int := max m (now - now % w)
/-- Mid's groups, from its mark on -/
def midG (s : Stk) (now : Int) : List (Int × List Pt) := runs (fun p => startW 1 p.a) (s.raw.filter fun p => decide (s.mm ≤ p.a) && decide (p.a < upTo 300 s.mm now))
def rollM (s : Stk) (now : Int) : Stk :=
  let r := rollTo (midG s now) (256 - s.mid.length) (upTo 300 s.mm now)
  { s with mid := s.mid ++ r.1.map (fun e => ofA e.1 e.2), mm := r.2 }
/-- Long's groups, as far as Mid is rolled -/
def longC (s : Stk) (c : Int) : List (Int × List Ag) := runs (fun t => startW 2 t.at_) (s.mid.filter fun t => decide (s.ml ≤ t.at_) && decide (t.at_ < upTo 3600 s.ml c))
def longG (s : Stk) : List (Int × List Ag) := longC s s.mm
def rollC (s : Stk) (c : Int) : Stk :=
  let r := rollTo (longC s c) (256 - s.long.length) (upTo 3600 s.ml c)
  { s with long := s.long ++ r.1.filterMap (fun e => joinA e.1 e.2), ml := r.2 }
def rollL (s : Stk) : Stk := rollC s s.mm
/-- Long is rolled up to now, and up to Mid's mark at most -/
def rollS (s : Stk) (now : Int) : Stk := rollC (rollM s now) (min now (rollM s now).mm)
/-- a Mid aggregate behind a purge -/
def purM (raw : List Pt) (a b : Int) (t : Ag) : Option Ag := if metA 300 a b t.at_ = true then (if getL raw t.at_ (t.at_ + 300) = [] then none else some (ofA t.at_ (getL raw t.at_ (t.at_ + 300)))) else some t
def inW (mid : List Ag) (x : Int) : List Ag := mid.filter fun t => decide (x ≤ t.at_) && decide (t.at_ < x + 3600)
def purL (mid : List Ag) (a b : Int) (t : Ag) : Option Ag := if metA 3600 a b t.at_ = true then joinA t.at_ (inW mid t.at_) else some t
def purgeS (s : Stk) (a b : Int) : Stk :=
  let raw := cutL s.raw a b
  let mid := s.mid.filterMap (purM raw a b)
  { s with raw := raw, mid := mid, long := s.long.filterMap (purL mid a b) }

/-! ### Two lists that are alike as far as something of them counts -/
theorem map_two {α β γ : Type} {G : α → β} {H : α → γ} {l l' : List α} (h : l.map G = l'.map G) (hh : ∀ x y, x ∈ l → y ∈ l' → G x = G y → H x = H y) : l.map H = l'.map H := by
  induction l generalizing l' with
  | nil =>
    cases l' with
    | nil => rfl
    | cons y r' => simp at h
  | cons x r ih =>
    cases l' with
    | nil => simp at h
    | cons y r' =>
      rw [List.map_cons, List.map_cons] at h
      injection h with h1 h2
      rw [List.map_cons, List.map_cons, hh x y (by simp) (by simp) h1, ih h2 fun u v hu hv => hh u v (List.mem_cons_of_mem _ hu) (List.mem_cons_of_mem _ hv)]
theorem fmap_two {α β γ δ : Type} {G : α → β} {F F' : α → Option γ} {H : γ → δ} {l l' : List α} (h : l.map G = l'.map G) (hh : ∀ x y, x ∈ l → y ∈ l' → G x = G y → (F x).map H = (F' y).map H) : (l.filterMap F).map H = (l'.filterMap F').map H := by
  induction l generalizing l' with
  | nil =>
    cases l' with
    | nil => rfl
    | cons y r' => simp at h
  | cons x r ih =>
    cases l' with
    | nil => simp at h
    | cons y r' =>
      rw [List.map_cons, List.map_cons] at h
      injection h with h1 h2
      have hx := hh x y (by simp) (by simp) h1
      have hr := ih h2 fun u v hu hv => hh u v (List.mem_cons_of_mem _ hu) (List.mem_cons_of_mem _ hv)
      rw [List.filterMap_cons, List.filterMap_cons]
      cases hf : F x <;> cases hg : F' y <;> rw [hf, hg] at hx
      · exact hr
      · cases hx
      · cases hx
      · simp only [Option.map_some, Option.some.injEq] at hx
        simp only [List.map_cons]
        rw [hx, hr]
theorem filter_two {α β : Type} {G : α → β} (f : α → Bool) (hf : ∀ x y, G x = G y → f x = f y) {l l' : List α} (h : l.map G = l'.map G) : (l.filter f).map G = (l'.filter f).map G := by
  induction l generalizing l' with
  | nil =>
    cases l' with
    | nil => rfl
    | cons y r' => simp at h
  | cons x r ih =>
    cases l' with
    | nil => simp at h
    | cons y r' =>
      rw [List.map_cons, List.map_cons] at h
      injection h with h1 h2
      have e := hf x y h1
      rw [List.filter_cons, List.filter_cons, e]
      split
      · rw [List.map_cons, List.map_cons, h1, ih h2]
      · exact ih h2
theorem runs_map {α : Type} (f : α → Int) (b : α → α) (hb : ∀ x, f (b x) = f x) (l : List α) : runs f (l.map b) = (runs f l).map fun e => (e.1, e.2.map b) := by
  induction l with
  | nil => rfl
  | cons x r ih =>
    rw [List.map_cons, runs_cons, runs_cons, ih]
    cases runs f r with
    | nil => simp [hb]
    | cons kg t =>
      obtain ⟨k, g⟩ := kg
      simp only [List.map_cons, hb]
      by_cases h : f x = k
      · rw [if_pos h, if_pos h]; simp
      · rw [if_neg h, if_neg h]; simp
/-- the groups of two alike lists are alike -/
theorem runs_two {α : Type} (f : α → Int) (b : α → α) (hb : ∀ x, f (b x) = f x) {l l' : List α} (h : l.map b = l'.map b) : (runs f l).map (fun e => (e.1, e.2.map b)) = (runs f l').map (fun e => (e.1, e.2.map b)) := by
  rw [← runs_map f b hb, ← runs_map f b hb, h]
theorem roll_two {α β : Type} {G : Int × List α → β} (hG : ∀ x y, G x = G y → x.1 = y.1) {gs gs' : List (Int × List α)} (h : gs.map G = gs'.map G) (room : Nat) (M : Int) :
    (rollTo gs room M).1.map G = (rollTo gs' room M).1.map G ∧ (rollTo gs room M).2 = (rollTo gs' room M).2 := by
  unfold rollTo
  refine ⟨by simp only; rw [List.map_take, List.map_take, h], ?_⟩
  simp only
  have hr : gs[room]?.map G = gs'[room]?.map G := by rw [← List.getElem?_map, ← List.getElem?_map, h]
  revert hr
  cases gs[room]? <;> cases gs'[room]? <;> intro hr
  · rfl
  · cases hr
  · cases hr
  · simp only [Option.map_some, Option.some.injEq] at hr
    exact hG _ _ hr
/-! ### What is alike but for values in a range -/
def blurP (a b : Int) (p : Pt) : Pt := if a ≤ p.a ∧ p.a < b then ⟨p.a, 0⟩ else p
def blurA (w a b : Int) (t : Ag) : Ag := if metA w a b t.at_ = true then ⟨t.at_, 1, 0, 0, 0⟩ else t
theorem blurP_a (a b : Int) (p : Pt) : (blurP a b p).a = p.a := by unfold blurP; split <;> rfl
theorem blurA_at (w a b : Int) (t : Ag) : (blurA w a b t).at_ = t.at_ := by unfold blurA; split <;> rfl
theorem blurP_same {a b : Int} {p q : Pt} (h : blurP a b p = blurP a b q) : p.a = q.a := by rw [← blurP_a a b p, h, blurP_a]
theorem blurA_same {w a b : Int} {t u : Ag} (h : blurA w a b t = blurA w a b u) : t.at_ = u.at_ := by rw [← blurA_at w a b t, h, blurA_at]
theorem blurP_out {a b : Int} {p : Pt} (h : ¬ (a ≤ p.a ∧ p.a < b)) : blurP a b p = p := by unfold blurP; rw [if_neg h]
theorem blurA_out {w a b : Int} {t : Ag} (h : metA w a b t.at_ = false) : blurA w a b t = t := by unfold blurA; rw [if_neg (by rw [h]; simp)]
theorem blurA_in {w a b : Int} {t : Ag} (h : metA w a b t.at_ = true) : blurA w a b t = ⟨t.at_, 1, 0, 0, 0⟩ := by unfold blurA; rw [if_pos h]
/-- a window that doesn't meet the range has none of its points -/
theorem met_none {w a b x y : Int} (h : metA w a b x = false) (hy : x ≤ y) (hy2 : y < x + w) : ¬ (a ≤ y ∧ y < b) := by
  unfold metA at h
  rw [Bool.and_eq_false_iff, decide_eq_false_iff_not, decide_eq_false_iff_not] at h
  omega
/-- what may be of a stock's aggregates -/
structure GoodK (s : Stk) : Prop where
  val : ∀ t ∈ s.mid, 1 ≤ t.n ∧ 0 ≤ t.at_ ∧ t.at_ % 300 = 0
  tick : ∀ p ∈ s.raw, 0 ≤ p.a
  beg : ∀ t ∈ s.long, 0 ≤ t.at_ ∧ t.at_ % 3600 = 0
/-- two stocks that are alike but for values in the range, and what came of them -/
structure Alike (a b : Int) (s s' : Stk) : Prop where
  raw : s.raw.map (blurP a b) = s'.raw.map (blurP a b)
  mid : s.mid.map (blurA 300 a b) = s'.mid.map (blurA 300 a b)
  long : s.long.map (blurA 3600 a b) = s'.long.map (blurA 3600 a b)
  mm : s.mm = s'.mm
  ml : s.ml = s'.ml
theorem Alike.refl (a b : Int) (s : Stk) : Alike a b s s := ⟨rfl, rfl, rfl, rfl, rfl⟩
theorem len_two {α β : Type} {G : α → β} {l l' : List α} (h : l.map G = l'.map G) : l.length = l'.length := by
  have := congrArg List.length h; simpa using this
/-- BEHIND A PURGE NOTHING HANGS ON THE VALUES THAT WENT -/
theorem purge_forgets {a b : Int} {s s' : Stk} (h : Alike a b s s') : purgeS s a b = purgeS s' a b := by
  have hcut : ∀ l : List Pt, cutL l a b = cutL (l.map (blurP a b)) a b := fun l => by
    unfold cutL
    induction l with
    | nil => rfl
    | cons p r ih =>
      rw [List.map_cons, List.filter_cons, List.filter_cons, ih, blurP_a]
      by_cases hp : a ≤ p.a ∧ p.a < b
      · simp [hp.1, hp.2]
      · rw [blurP_out hp]
  have e1 : cutL s.raw a b = cutL s'.raw a b := by rw [hcut s.raw, hcut s'.raw, h.raw]
  have hfm : ∀ (w : Int) (F : Ag → Option Ag) (hF : ∀ t, F (blurA w a b t) = F t) (l : List Ag), l.filterMap F = (l.map (blurA w a b)).filterMap F := fun w F hF l => by
    rw [List.filterMap_map]
    congr 1
    funext t
    exact (hF t).symm
  have hm : ∀ (raw : List Pt) (t : Ag), purM raw a b (blurA 300 a b t) = purM raw a b t := fun raw t => by
    cases hmt : metA 300 a b t.at_ with
    | true => rw [blurA_in hmt]; unfold purM; simp only; rw [if_pos hmt, if_pos hmt]
    | false => rw [blurA_out hmt]
  have hl : ∀ (mid : List Ag) (t : Ag), purL mid a b (blurA 3600 a b t) = purL mid a b t := fun mid t => by
    cases hmt : metA 3600 a b t.at_ with
    | true => rw [blurA_in hmt]; unfold purL; simp only; rw [if_pos hmt, if_pos hmt]
    | false => rw [blurA_out hmt]
  unfold purgeS
  simp only
  rw [e1]
  have e2 : s.mid.filterMap (purM (cutL s'.raw a b) a b) = s'.mid.filterMap (purM (cutL s'.raw a b) a b) := by
    rw [hfm 300 _ (hm _) s.mid, hfm 300 _ (hm _) s'.mid, h.mid]
  rw [e2]
  rw [hfm 3600 _ (hl _) s.long, hfm 3600 _ (hl _) s'.long, h.long, h.mm, h.ml]
/-! ### What keeps them alike -/
theorem ofA_alike {a b k w : Int} {g g' : List Pt} (h : g.map (blurP a b) = g'.map (blurP a b)) (hg : ∀ p ∈ g, k ≤ p.a ∧ p.a < k + w) (hg' : ∀ p ∈ g', k ≤ p.a ∧ p.a < k + w) : blurA w a b (ofA k g) = blurA w a b (ofA k g') := by
  cases hm : metA w a b k with
  | true => rw [blurA_in (by rw [ofA_at]; exact hm), blurA_in (by rw [ofA_at]; exact hm), ofA_at, ofA_at]
  | false =>
    have e : ∀ l : List Pt, (∀ p ∈ l, k ≤ p.a ∧ p.a < k + w) → l.map (blurP a b) = l := fun l hl => by
      conv => rhs; rw [← List.map_id l]
      exact List.map_congr_left fun p hp => blurP_out (met_none hm (hl p hp).1 (hl p hp).2)
    rw [e g hg, e g' hg'] at h
    rw [h]
theorem start_in {x : Int} (h : 0 ≤ x) : startW 1 x ≤ x ∧ x < startW 1 x + 300 ∧ startW 1 x % 300 = 0 := by
  have e : startW 1 x = x - x % 300 := by unfold startW hasW widthW; simp [h]
  rw [e]; omega
theorem start_in2 {x : Int} (h : 0 ≤ x) : startW 2 x ≤ x ∧ x < startW 2 x + 3600 ∧ startW 2 x % 3600 = 0 := by
  have e : startW 2 x = x - x % 3600 := by unfold startW hasW widthW; simp [h]
  rw [e]; omega
/-- a group's members are in the list, and of its key -/
theorem runs_mem {α : Type} (f : α → Int) {l : List α} {e : Int × List α} (he : e ∈ runs f l) {x : α} (hx : x ∈ e.2) : x ∈ l ∧ f x = e.1 :=
  ⟨by rw [← runs_all f l]; exact List.mem_flatMap.2 ⟨e, he, hx⟩, (runs_keys f l e he).2 x hx⟩
theorem rollM_alike {a b : Int} {s s' : Stk} (h : Alike a b s s') (hk : GoodK s) (hk' : GoodK s') (now : Int) : Alike a b (rollM s now) (rollM s' now) := by
  have hfil : (s.raw.filter fun p => decide (s.mm ≤ p.a) && decide (p.a < upTo 300 s.mm now)).map (blurP a b) = (s'.raw.filter fun p => decide (s.mm ≤ p.a) && decide (p.a < upTo 300 s.mm now)).map (blurP a b) :=
    filter_two _ (fun x y hxy => by rw [blurP_same hxy]) h.raw
  have hgr := runs_two (fun p : Pt => startW 1 p.a) (blurP a b) (fun x => by rw [blurP_a]) hfil
  have hr := roll_two (fun x y (hxy : ((x.1, x.2.map (blurP a b)) : Int × List Pt) = (y.1, y.2.map (blurP a b))) => (Prod.mk.inj hxy).1) hgr (256 - s.mid.length) (upTo 300 s.mm now)
  have hmm := h.mm
  have hlen : s'.mid.length = s.mid.length := (len_two h.mid).symm
  unfold rollM midG
  simp only
  rw [← hmm, hlen]
  refine ⟨h.raw, ?_, h.long, hr.2, h.ml⟩
  simp only
  rw [List.map_append, List.map_append, h.mid]
  congr 1
  rw [List.map_map, List.map_map]
  refine map_two hr.1 fun e e' he he' hee => ?_
  obtain ⟨h1, h2⟩ := Prod.mk.inj hee
  have m1 : e ∈ runs (fun p : Pt => startW 1 p.a) (s.raw.filter fun p => decide (s.mm ≤ p.a) && decide (p.a < upTo 300 s.mm now)) := List.mem_of_mem_take he
  have m2 : e' ∈ runs (fun p : Pt => startW 1 p.a) (s'.raw.filter fun p => decide (s.mm ≤ p.a) && decide (p.a < upTo 300 s.mm now)) := List.mem_of_mem_take he'
  show blurA 300 a b (ofA e.1 e.2) = blurA 300 a b (ofA e'.1 e'.2)
  rw [← h1]
  refine ofA_alike h2 (fun p hp => ?_) (fun p hp => ?_)
  · obtain ⟨k1, k2⟩ := runs_mem _ m1 hp
    have := start_in (hk.tick p ((List.mem_filter.1 k1).1))
    rw [k2] at this; exact ⟨this.1, this.2.1⟩
  · obtain ⟨k1, k2⟩ := runs_mem _ m2 hp
    have := start_in (hk'.tick p ((List.mem_filter.1 k1).1))
    rw [k2, ← h1] at this; exact ⟨this.1, this.2.1⟩
/-- joined aggregates of Mid windows in one Long window -/
theorem joinA_alike {a b k : Int} {g g' : List Ag} (h : g.map (blurA 300 a b) = g'.map (blurA 300 a b)) (hk : k % 3600 = 0) (hg : ∀ t ∈ g, (1 ≤ t.n ∧ 0 ≤ t.at_ ∧ t.at_ % 300 = 0) ∧ k ≤ t.at_ ∧ t.at_ < k + 3600) (hg' : ∀ t ∈ g', (1 ≤ t.n ∧ 0 ≤ t.at_ ∧ t.at_ % 300 = 0) ∧ k ≤ t.at_ ∧ t.at_ < k + 3600) :
    (joinA k g).map (blurA 3600 a b) = (joinA k g').map (blurA 3600 a b) := by
  have hat : ∀ (l : List Ag) (t : Ag), joinA k l = some t → t.at_ = k := fun l t ht => by
    unfold joinA at ht
    cases hf : l.foldl joinStep none with
    | none => rw [hf] at ht; cases ht
    | some c => rw [hf] at ht; rw [← Option.some.inj ht]
  cases hm : metA 3600 a b k with
  | true =>
    have hsome : ∀ l : List Ag, (∀ t ∈ l, 1 ≤ t.n) → (joinA k l).map (blurA 3600 a b) = if l = [] then none else some ⟨k, 1, 0, 0, 0⟩ := fun l hl => by
      have key : ∀ (l : List Ag) (o : Option Ag), (∀ t ∈ l, 1 ≤ t.n) → (l.foldl joinStep o).isSome = (o.isSome || !l.isEmpty) := by
        intro l
        induction l with
        | nil => intro o _; simp
        | cons t r ih =>
          intro o hl
          have h1 := hl t (by simp)
          rw [List.foldl_cons, ih _ fun u hu => hl u (List.mem_cons_of_mem _ hu)]
          unfold joinStep
          rw [if_neg (by omega)]
          cases o <;> simp
      have h0 := key l none hl
      cases hj : joinA k l with
      | none =>
        have : (l.foldl joinStep none).isSome = false := by
          unfold joinA at hj
          cases hf : l.foldl joinStep none with
          | none => rfl
          | some c => rw [hf] at hj; cases hj
        rw [this] at h0
        cases l with
        | nil => rfl
        | cons t r => simp at h0
      | some c =>
        have hc := hat l c hj
        have : (l.foldl joinStep none).isSome = true := by
          unfold joinA at hj
          cases hf : l.foldl joinStep none with
          | none => rw [hf] at hj; cases hj
          | some c => rfl
        rw [this] at h0
        rw [if_neg (by rintro rfl; simp at h0), Option.map_some, blurA_in (by rw [hc]; exact hm), hc]
    rw [hsome g fun t ht => (hg t ht).1.1, hsome g' fun t ht => (hg' t ht).1.1]
    have hl := len_two h
    cases g with
    | nil =>
      cases g' with
      | nil => rfl
      | cons => simp at hl
    | cons =>
      cases g' with
      | nil => simp at hl
      | cons => simp
  | false =>
    have e : ∀ l : List Ag, (∀ t ∈ l, (1 ≤ t.n ∧ 0 ≤ t.at_ ∧ t.at_ % 300 = 0) ∧ k ≤ t.at_ ∧ t.at_ < k + 3600) → l.map (blurA 300 a b) = l := fun l hl => by
      conv => rhs; rw [← List.map_id l]
      refine List.map_congr_left fun t ht => blurA_out ?_
      obtain ⟨⟨_, h0, h1⟩, h2, h3⟩ := hl t ht
      unfold metA at hm ⊢
      rw [Bool.and_eq_false_iff, decide_eq_false_iff_not, decide_eq_false_iff_not] at hm ⊢
      omega
    rw [e g hg, e g' hg'] at h
    rw [h]
theorem rollC_alike {a b c : Int} {s s' : Stk} (h : Alike a b s s') (hk : GoodK s) (hk' : GoodK s') : Alike a b (rollC s c) (rollC s' c) := by
  have hfil : (s.mid.filter fun t => decide (s.ml ≤ t.at_) && decide (t.at_ < upTo 3600 s.ml c)).map (blurA 300 a b) = (s'.mid.filter fun t => decide (s.ml ≤ t.at_) && decide (t.at_ < upTo 3600 s.ml c)).map (blurA 300 a b) :=
    filter_two _ (fun x y hxy => by rw [blurA_same hxy]) h.mid
  have hgr := runs_two (fun t : Ag => startW 2 t.at_) (blurA 300 a b) (fun x => by rw [blurA_at]) hfil
  have hr := roll_two (fun x y (hxy : ((x.1, x.2.map (blurA 300 a b)) : Int × List Ag) = (y.1, y.2.map (blurA 300 a b))) => (Prod.mk.inj hxy).1) hgr (256 - s.long.length) (upTo 3600 s.ml c)
  have hml := h.ml
  have hlen : s'.long.length = s.long.length := (len_two h.long).symm
  unfold rollC longC
  simp only
  rw [← hml, hlen]
  refine ⟨h.raw, h.mid, ?_, h.mm, hr.2⟩
  simp only
  rw [List.map_append, List.map_append, h.long]
  congr 1
  refine fmap_two hr.1 fun e e' he he' hee => ?_
  obtain ⟨h1, h2⟩ := Prod.mk.inj hee
  have m1 : e ∈ runs (fun t : Ag => startW 2 t.at_) (s.mid.filter fun t => decide (s.ml ≤ t.at_) && decide (t.at_ < upTo 3600 s.ml c)) := List.mem_of_mem_take he
  have m2 : e' ∈ runs (fun t : Ag => startW 2 t.at_) (s'.mid.filter fun t => decide (s.ml ≤ t.at_) && decide (t.at_ < upTo 3600 s.ml c)) := List.mem_of_mem_take he'
  rw [← h1]
  have hne := (runs_keys _ _ e m1).1
  obtain ⟨x, hx⟩ := List.exists_mem_of_ne_nil _ hne
  obtain ⟨x1, x2⟩ := runs_mem _ m1 hx
  have hk0 := (start_in2 (hk.val x ((List.mem_filter.1 x1).1)).2.1).2.2
  rw [x2] at hk0
  refine joinA_alike h2 hk0 (fun t ht => ?_) (fun t ht => ?_)
  · obtain ⟨k1, k2⟩ := runs_mem _ m1 ht
    have hv := hk.val t ((List.mem_filter.1 k1).1)
    have := start_in2 hv.2.1
    rw [k2] at this; exact ⟨hv, this.1, this.2.1⟩
  · obtain ⟨k1, k2⟩ := runs_mem _ m2 ht
    have hv := hk'.val t ((List.mem_filter.1 k1).1)
    have := start_in2 hv.2.1
    rw [k2, ← h1] at this; exact ⟨hv, this.1, this.2.1⟩
/-- another purge -/
theorem purge_alike {a b c d : Int} {s s' : Stk} (h : Alike a b s s') (hk : GoodK s) (hk' : GoodK s') : Alike a b (purgeS s c d) (purgeS s' c d) := by
  have e1 : (cutL s.raw c d).map (blurP a b) = (cutL s'.raw c d).map (blurP a b) := filter_two _ (fun x y hxy => by rw [blurP_same hxy]) h.raw
  have e2 : (s.mid.filterMap (purM (cutL s.raw c d) c d)).map (blurA 300 a b) = (s'.mid.filterMap (purM (cutL s'.raw c d) c d)).map (blurA 300 a b) := by
    refine fmap_two h.mid fun t t' _ _ htt => ?_
    have hat := blurA_same htt
    unfold purM
    rw [← hat]
    cases hm : metA 300 c d t.at_ with
    | false => simp only [Bool.false_eq_true, if_false, Option.map_some]; rw [htt]
    | true =>
      simp only [if_true]
      have e3 : (getL (cutL s.raw c d) t.at_ (t.at_ + 300)).map (blurP a b) = (getL (cutL s'.raw c d) t.at_ (t.at_ + 300)).map (blurP a b) := filter_two _ (fun x y hxy => by rw [blurP_same hxy]) e1
      have hin : ∀ (l : List Pt), ∀ p ∈ getL l t.at_ (t.at_ + 300), t.at_ ≤ p.a ∧ p.a < t.at_ + 300 := fun l p hp => by
        have := (List.mem_filter.1 hp).2
        simpa using this
      have hl := len_two e3
      by_cases h0 : getL (cutL s.raw c d) t.at_ (t.at_ + 300) = []
      · rw [if_pos h0, if_pos (List.length_eq_zero_iff.1 (by rw [← hl, h0]; rfl))]
      · rw [if_neg h0, if_neg (fun h1 => h0 (List.length_eq_zero_iff.1 (by rw [hl, h1]; rfl)))]
        rw [Option.map_some, Option.map_some, ofA_alike e3 (hin _) (hin _)]
  have hv : ∀ (x : Stk), GoodK x → ∀ t ∈ x.mid.filterMap (purM (cutL x.raw c d) c d), 1 ≤ t.n ∧ 0 ≤ t.at_ ∧ t.at_ % 300 = 0 := fun x hx t ht => by
    obtain ⟨u, hu, hut⟩ := List.mem_filterMap.1 ht
    have hgu := hx.val u hu
    unfold purM at hut
    split at hut
    · split at hut
      · cases hut
      · rename_i hne
        rw [← Option.some.inj hut, ofA_n, ofA_at]
        have := List.length_pos_iff.2 hne
        exact ⟨by omega, hgu.2⟩
    · rw [← Option.some.inj hut]; exact hgu
  unfold purgeS
  refine ⟨e1, e2, ?_, h.mm, h.ml⟩
  simp only
  refine fmap_two h.long fun t t' ht _ htt => ?_
  have hat := blurA_same htt
  unfold purL
  rw [← hat]
  cases hm : metA 3600 c d t.at_ with
  | false => simp only [Bool.false_eq_true, if_false, Option.map_some]; rw [htt]
  | true =>
    simp only [if_true]
    have e3 : (inW (s.mid.filterMap (purM (cutL s.raw c d) c d)) t.at_).map (blurA 300 a b) = (inW (s'.mid.filterMap (purM (cutL s'.raw c d) c d)) t.at_).map (blurA 300 a b) := filter_two _ (fun x y hxy => by rw [blurA_same hxy]) e2
    refine joinA_alike e3 (hk.beg t ht).2 (fun u hu => ?_) (fun u hu => ?_)
    · obtain ⟨h1, h2⟩ := List.mem_filter.1 hu
      exact ⟨hv s hk u h1, by simpa using h2⟩
    · obtain ⟨h1, h2⟩ := List.mem_filter.1 hu
      exact ⟨hv s' hk' u h1, by simpa using h2⟩
/-- points put, alike but for values in the range -/
theorem putP_map (f : Pt → Pt) (hf : ∀ p, (f p).a = p.a) (s : List Pt) (p : Pt) : (putP s p).map f = putP (s.map f) (f p) := by
  induction s with
  | nil => rfl
  | cons q r ih =>
    show (if p.a < q.a then p :: q :: r else if q.a < p.a then q :: putP r p else p :: r).map f = if (f p).a < (f q).a then f p :: f q :: r.map f else if (f q).a < (f p).a then f q :: putP (r.map f) (f p) else f p :: r.map f
    rw [hf, hf]
    split
    · simp
    · split
      · rw [List.map_cons, ih]
      · simp
theorem putL_map (f : Pt → Pt) (hf : ∀ p, (f p).a = p.a) (l s : List Pt) : (putL s l).map f = putL (s.map f) (l.map f) := by
  induction l generalizing s with
  | nil => rfl
  | cons p l ih =>
    show (putL (putP s p) l).map f = putL (putP (s.map f) (f p)) (l.map f)
    rw [ih, putP_map f hf]
theorem putL_alike {a b : Int} {s s' l l' : List Pt} (h : s.map (blurP a b) = s'.map (blurP a b)) (hl : l.map (blurP a b) = l'.map (blurP a b)) : (putL s l).map (blurP a b) = (putL s' l').map (blurP a b) := by
  rw [putL_map _ (blurP_a a b), putL_map _ (blurP_a a b), h, hl]
end Go.Proofs.YthbdchleppbidaaGreat
/- Package roll, plainly: wide windows by points and by narrow windows. -/
namespace Go.Proofs.YthbdchleppbidaaGreat

theorem runs_head {α : Type} (f : α → Int) (y : α) (r : List α) : ∃ g t, runs f (y :: r) = (f y, g) :: t := by
  rw [runs_cons]
  cases runs f r with
  | nil => exact ⟨_, _, rfl⟩
  | cons kg t =>
    obtain ⟨k, g⟩ := kg
    simp only
    by_cases h : f y = k
    · rw [if_pos h, h]; exact ⟨_, _, rfl⟩
    · rw [if_neg h]; exact ⟨_, _, rfl⟩
theorem runs_len {α : Type} (f : α → Int) (l : List α) : (runs f l).length ≤ l.length := by
  induction l with
  | nil => exact Nat.le_refl _
  | cons x r ih =>
    rw [runs_cons]
    cases h : runs f r with
    | nil => simp
    | cons kg t =>
      obtain ⟨k, g⟩ := kg
      rw [h] at ih
      simp only
      split <;> simp only [List.length_cons] at ih ⊢ <;> omega
/-- where the key never falls, the groups' keys rise -/
theorem runs_up {α : Type} (f : α → Int) {l : List α} (h : l.Pairwise fun x y => f x ≤ f y) : ∀ z : Int, (∀ x, l.head? = some x → z < f x) → upFrom z ((runs f l).map Prod.fst) = true := by
  induction l with
  | nil => intro z _; rfl
  | cons x r ih =>
    intro z hz
    have hx := hz x rfl
    have hr := ih (List.Pairwise.of_cons h)
    rw [runs_cons]
    cases r with
    | nil =>
      show upFrom z [f x] = true
      rw [up_cons, decide_eq_true hx]; rfl
    | cons y r' =>
      obtain ⟨g, t, e⟩ := runs_head f y r'
      have hxy : f x ≤ f y := List.rel_of_pairwise_cons h (by simp)
      rw [e] at hr ⊢
      simp only
      by_cases hk : f x = f y
      · rw [if_pos hk]
        exact hr z fun w hw => by obtain rfl : y = w := by simpa using hw
                                  omega
      · rw [if_neg hk]
        have h2 := hr (f x) fun w hw => by obtain rfl : y = w := by simpa using hw
                                           omega
        rw [List.map_cons, up_cons, decide_eq_true hx, h2]; rfl
theorem up_pair {l : List Pt} : ∀ {z : Int}, upFrom z (l.map Pt.a) = true → l.Pairwise fun p q => p.a < q.a := by
  induction l with
  | nil => intro _ _; exact List.Pairwise.nil
  | cons p r ih =>
    intro z h
    rw [List.map_cons, up_cons, Bool.and_eq_true] at h
    refine List.Pairwise.cons (fun q hq => ?_) (ih h.2)
    exact up_all h.2 q.a (List.mem_map.2 ⟨q, hq, rfl⟩)
theorem up_nonneg {l : List Pt} (h : upFrom (-1) (l.map Pt.a) = true) : ∀ p ∈ l, 0 ≤ p.a := fun p hp => by
  have := up_all h p.a (List.mem_map.2 ⟨p, hp, rfl⟩); omega
theorem start_mid (a : Int) : startW 1 a = if 0 ≤ a then a - a % 300 else 0 := by
  unfold startW hasW widthW
  by_cases h : 0 ≤ a
  · simp [h]
  · simp [h]
theorem start_long (a : Int) : startW 2 a = if 0 ≤ a then a - a % 3600 else 0 := by
  unfold startW hasW widthW
  by_cases h : 0 ≤ a
  · simp [h]
  · simp [h]
theorem mid_long (a : Int) : startW 2 (startW 1 a) = startW 2 a := by
  rw [start_mid, start_long, start_long]
  by_cases h : 0 ≤ a
  · rw [if_pos h, if_pos h, if_pos (by omega)]; omega
  · rw [if_neg h, if_neg h]; rfl
theorem points_len (t : Int) (l : List Pt) : (pointsR t l).length ≤ l.length := by
  unfold pointsR
  split
  · simp
  · rw [List.length_map]; exact runs_len _ _
theorem points_fits (t : Int) {l : List Pt} (hf : ∀ p ∈ l, p.fits) (hl : l.length ≤ 1000000) : ∀ a ∈ pointsR t l, a.fits := by
  intro a ha
  unfold pointsR at ha
  split at ha
  · simp at ha
  · obtain ⟨e, he, rfl⟩ := List.mem_map.1 ha
    obtain ⟨hne, hk⟩ := runs_keys _ l e he
    have hsub : ∀ q ∈ e.2, q ∈ l := fun q hq => by
      rw [← runs_all (fun p => startW t p.a) l]; exact List.mem_flatMap.2 ⟨e, he, hq⟩
    have hlen : e.2.length ≤ l.length := by
      have h1 : ∀ (L : List (Int × List Pt)), e ∈ L → e.2.length ≤ (L.flatMap Prod.snd).length := fun L hL => by
        induction L with
        | nil => simp at hL
        | cons x T ih =>
          rw [List.flatMap_cons, List.length_append]
          rcases List.mem_cons.1 hL with rfl | hL
          · omega
          · have := ih hL; omega
      have := h1 _ he
      rwa [runs_all] at this
    obtain ⟨q, hq⟩ := List.exists_mem_of_ne_nil _ hne
    have hr := start_range t (hf q (hsub q hq)).2.1
    rw [hk q hq] at hr
    exact ofA_fits (by omega) hr.2 (fun p hp => hf p (hsub p hp)) (by omega)
/-- WIDE WINDOWS BY POINTS, AND BY NARROW WINDOWS -/
theorem tiers_same {l : List Pt} (hup : upFrom (-1) (l.map Pt.a) = true) (hs : SmallV 1125899906842624 l) (hl : l.length ≤ 60) : aggsR 2 (pointsR 1 l) = pointsR 2 l := by
  have h1 : pointsR 1 l = (runs (fun p => startW 1 p.a) l).map fun e => ofA e.1 e.2 := by
    unfold pointsR; rw [if_neg (by rw [hup]; rintro (h | h); exact absurd h (by decide); cases h)]
  have h2 : pointsR 2 l = (runs (fun p => startW 2 p.a) l).map fun e => ofA e.1 e.2 := by
    unfold pointsR; rw [if_neg (by rw [hup]; rintro (h | h); exact absurd h (by decide); cases h)]
  have hkeys : (pointsR 1 l).map Ag.at_ = (runs (fun p => startW 1 p.a) l).map Prod.fst := by
    rw [h1, List.map_map]
    exact List.map_congr_left fun e _ => ofA_at _ _
  have hup2 : upFrom (-1) ((pointsR 1 l).map Ag.at_) = true := by
    rw [hkeys]
    refine runs_up (fun p : Pt => startW 1 p.a) ?_ (-1) ?_
    · refine (up_pair hup).imp_of_mem fun {p q : Pt} hp hq hpq => ?_
      have a0 := up_nonneg hup p hp
      have b0 := up_nonneg hup q hq
      rw [start_mid, start_mid, if_pos a0, if_pos b0]; omega
    · intro p hp
      have hm : p ∈ l := List.mem_of_mem_head? (by rw [hp]; rfl)
      have a0 := up_nonneg hup p hm
      rw [start_mid, if_pos a0]; omega
  have hw := wide_narrow (b := 1125899906842624) (by omega) (fun p : Pt => startW 1 p.a) (fun p : Pt => startW 2 p.a) (startW 2) (fun x => mid_long x.a) hs (by omega) (by omega)
  unfold aggsR
  rw [if_neg (by rw [hup2]; rintro (h | h); exact absurd h (by decide); cases h), h1, h2]
  have hfm : ∀ L : List (Int × List Ag), L.filterMap (fun e => joinA e.1 e.2) = (L.map fun e => joinA e.1 e.2).filterMap id := fun L => by rw [List.filterMap_map]; rfl
  rw [hfm, hw]
  rw [List.filterMap_map]
  have hall : ∀ L : List (Int × List Pt), L.filterMap (id ∘ fun e => some (ofA e.1 e.2)) = L.map fun e => ofA e.1 e.2 := fun L => by
    induction L with
    | nil => rfl
    | cons e T ih => rw [List.filterMap_cons, ih]; rfl
  exact hall _
end Go.Proofs.YthbdchleppbidaaGreat
/- A stock in three tiers, plainly: what may be stays so. -/
namespace Go.Proofs.YthbdchleppbidaaGreat

/-- aggregates of windows so wide, rising, below a mark -/
structure GoodA (w m : Int) (l : List Ag) : Prop where
  right : ∀ t ∈ l, rightA t = true
  fits : ∀ t ∈ l, t.fits
  beg : ∀ t ∈ l, 0 ≤ t.at_ ∧ t.at_ % w = 0 ∧ t.at_ < m
  up : l.Pairwise fun t u => t.at_ < u.at_
  len : l.length ≤ 256
/-- a stock that may be -/
structure GoodT (s : Stk) : Prop where
  srt : Srt s.raw
  tick : ∀ p ∈ s.raw, 0 ≤ p.a ∧ p.a ≤ 1099511627776
  pfits : ∀ p ∈ s.raw, p.fits
  plen : s.raw.length ≤ 256
  mid : GoodA 300 s.mm s.mid
  long : GoodA 3600 s.ml s.long
  mm : 0 ≤ s.mm ∧ s.mm ≤ 1099511631376 ∧ s.mm % 300 = 0
  ml : 0 ≤ s.ml ∧ s.ml ≤ s.mm ∧ s.ml % 3600 = 0
theorem GoodA.nil (w m : Int) : GoodA w m [] := ⟨fun _ h => by simp at h, fun _ h => by simp at h, fun _ h => by simp at h, List.Pairwise.nil, by simp⟩
def newS : Stk := ⟨[], [], [], 0, 0⟩
theorem GoodT.new : GoodT newS := ⟨List.Pairwise.nil, fun _ h => by simp [newS] at h, fun _ h => by simp [newS] at h, by simp [newS], GoodA.nil _ _, GoodA.nil _ _, by simp [newS], by simp [newS]⟩
theorem right_n {t : Ag} (h : rightA t = true) : 1 ≤ t.n ∧ t.lo ≤ t.hi := by
  unfold rightA at h
  rw [Bool.and_eq_true, decide_eq_true_iff, decide_eq_true_iff] at h
  omega
theorem GoodT.good {s : Stk} (h : GoodT s) : GoodK s :=
  ⟨fun t ht => ⟨(right_n (h.mid.right t ht)).1, (h.mid.beg t ht).1, (h.mid.beg t ht).2.1⟩, fun p hp => (h.tick p hp).1, fun t ht => ⟨(h.long.beg t ht).1, (h.long.beg t ht).2.1⟩⟩
theorem joinedA_right {l : List Ag} (h : ∀ t ∈ l, t.lo ≤ t.hi) : ∀ a, joinedA l = some a → a.lo ≤ a.hi := by
  refine rev_ind (P := fun l => (∀ t ∈ l, t.lo ≤ t.hi) → ∀ a, joinedA l = some a → a.lo ≤ a.hi) (fun _ a h => by cases h) (fun g x ih hg => ?_) l h
  intro a ha
  rw [joinedA_snoc] at ha
  unfold joinStep at ha
  have hi := ih fun p hp => hg p (by simp [hp])
  have hx := hg x (by simp)
  by_cases hn : x.n < 1
  · rw [if_pos hn] at ha; exact hi a ha
  · rw [if_neg hn] at ha
    cases hj : joinedA g with
    | none => rw [hj] at ha; rw [← Option.some.inj ha]; exact hx
    | some c =>
      rw [hj] at ha
      have hc := hi c hj
      rw [← Option.some.inj ha]
      unfold joinA2
      simp only
      (repeat' split) <;> omega
theorem joinedA_fits {l : List Ag} (h : ∀ t ∈ l, t.fits) : ∀ a, joinedA l = some a → a.fits := by
  refine rev_ind (P := fun l => (∀ t ∈ l, t.fits) → ∀ a, joinedA l = some a → a.fits) (fun _ a h => by cases h) (fun g x ih hg => ?_) l h
  intro a ha
  rw [joinedA_snoc] at ha
  unfold joinStep at ha
  have hi := ih fun p hp => hg p (by simp [hp])
  by_cases hn : x.n < 1
  · rw [if_pos hn] at ha; exact hi a ha
  · rw [if_neg hn] at ha
    cases hj : joinedA g with
    | none => rw [hj] at ha; rw [← Option.some.inj ha]; exact hg x (by simp)
    | some c => rw [hj] at ha; rw [← Option.some.inj ha]; exact join2_fits (hi c hj) (hg x (by simp))
/-- what Join tells may be -/
theorem joinA_good {k : Int} {l : List Ag} {a : Ag} (hk0 : -9223372036854775808 ≤ k) (hk1 : k ≤ 9223372036854775807) (hr : ∀ t ∈ l, rightA t = true) (hf : ∀ t ∈ l, t.fits) (h : joinA k l = some a) : rightA a = true ∧ a.fits ∧ a.at_ = k := by
  rw [joinA_eq] at h
  cases hj : joinedA l with
  | none => rw [hj] at h; cases h
  | some c =>
    rw [hj] at h
    have h1 := joined_pos l c hj
    have h2 := joinedA_right (fun t ht => (right_n (hr t ht)).2) c hj
    have h3 := joinedA_fits hf c hj
    rw [← Option.some.inj h]
    refine ⟨?_, ⟨hk0, hk1, h3.n0, h3.n1, h3.s0, h3.s1, h3.l0, h3.l1, h3.h0, h3.h1⟩, rfl⟩
    unfold rightA
    simp only
    rw [decide_eq_true (by omega), decide_eq_true h2]; rfl
/-- of valued ones there is always one -/
theorem joinA_some {k : Int} {l : List Ag} (hne : l ≠ []) (hr : ∀ t ∈ l, 1 ≤ t.n) : ∃ a, joinA k l = some a := by
  have key : ∀ (l : List Ag) (o : Option Ag), (∀ t ∈ l, 1 ≤ t.n) → (l.foldl joinStep o).isSome = (o.isSome || !l.isEmpty) := by
    intro l
    induction l with
    | nil => intro o _; simp
    | cons t r ih =>
      intro o hl
      have h1 := hl t (by simp)
      rw [List.foldl_cons, ih _ fun u hu => hl u (List.mem_cons_of_mem _ hu)]
      unfold joinStep
      rw [if_neg (by omega)]
      cases o <;> simp
  have h0 := key l none hr
  unfold joinA
  cases hf : l.foldl joinStep none with
  | some c => exact ⟨_, rfl⟩
  | none =>
    rw [hf] at h0
    cases l with
    | nil => exact absurd rfl hne
    | cons t r => simp at h0
/-! ### The groups that are rolled -/
theorem up_pairs {l : List Int} : ∀ {z : Int}, upFrom z l = true → l.Pairwise (· < ·) := by
  induction l with
  | nil => intro _ _; exact List.Pairwise.nil
  | cons x r ih =>
    intro z h
    rw [up_cons, Bool.and_eq_true] at h
    exact List.Pairwise.cons (fun y hy => up_all h.2 y hy) (ih h.2)
/-- the keys rise -/
theorem runs_rise {α : Type} (f : α → Int) {l : List α} (h : l.Pairwise fun x y => f x ≤ f y) : (runs f l).Pairwise fun d e => d.1 < e.1 := by
  have hz : ∃ z : Int, ∀ x, l.head? = some x → z < f x := by
    cases l with
    | nil => exact ⟨0, fun x hx => by cases hx⟩
    | cons y r => exact ⟨f y - 1, fun x hx => by obtain rfl : y = x := by simpa using hx
                                                 omega⟩
  obtain ⟨z, hz⟩ := hz
  have h2 := up_pairs (runs_up f h z hz)
  exact List.pairwise_map.1 h2
/-- what a roll leaves of its groups' keys: all taken ones are below the new mark -/
theorem rollTo_below {α : Type} {gs : List (Int × List α)} (hp : gs.Pairwise fun d e => d.1 < e.1) {M : Int} (hM : ∀ e ∈ gs, e.1 < M) (room : Nat) : ∀ e ∈ (rollTo gs room M).1, e.1 < (rollTo gs room M).2 := by
  intro e he
  unfold rollTo at he ⊢
  simp only at he ⊢
  cases h : gs[room]? with
  | none => exact hM e (List.mem_of_mem_take he)
  | some d =>
    simp only
    obtain ⟨i, hi⟩ := List.getElem?_of_mem he
    rw [List.getElem?_take] at hi
    split at hi
    · rename_i hlt
      obtain ⟨hd, e1⟩ := List.getElem?_eq_some_iff.1 h
      obtain ⟨hl, e2⟩ := List.getElem?_eq_some_iff.1 hi
      have := List.pairwise_iff_getElem.1 hp i room hl hd hlt
      rw [e1, e2] at this; exact this
    · cases hi
/-- the new mark is at least the old one, and at most M -/
theorem rollTo_mark {α : Type} {gs : List (Int × List α)} {m M : Int} (hm : m ≤ M) (hg : ∀ e ∈ gs, m ≤ e.1 ∧ e.1 < M) (room : Nat) : m ≤ (rollTo gs room M).2 ∧ (rollTo gs room M).2 ≤ M ∧ ((rollTo gs room M).2 = M ∨ ∃ e ∈ gs, (rollTo gs room M).2 = e.1) := by
  unfold rollTo
  simp only
  cases h : gs[room]? with
  | none => exact ⟨hm, Int.le_refl _, .inl rfl⟩
  | some d =>
    have hd := List.mem_of_getElem? h
    have := hg d hd
    exact ⟨this.1, by simp only; omega, .inr ⟨d, hd, rfl⟩⟩
theorem upTo_mul {w m now : Int} (hm : m % w = 0) : upTo w m now % w = 0 := by
  unfold upTo
  rcases Int.le_total m (now - now % w) with h | h
  · rw [Int.max_eq_right h, Int.sub_emod, Int.emod_emod_of_dvd _ (Int.dvd_refl w), Int.sub_self, Int.zero_emod]
  · rw [Int.max_eq_left h, hm]
theorem upTo_ge (w m now : Int) : m ≤ upTo w m now := Int.le_max_left _ _
theorem midG_facts {s : Stk} (h : GoodT s) {now : Int} : (midG s now).Pairwise (fun d e => d.1 < e.1) ∧ ∀ e ∈ midG s now, (s.mm ≤ e.1 ∧ e.1 < upTo 300 s.mm now) ∧ e.1 % 300 = 0 ∧ e.2 ≠ [] ∧ ∀ p ∈ e.2, p ∈ s.raw := by
  have hM := upTo_mul (w := 300) (now := now) h.mm.2.2
  constructor
  · unfold midG
    refine runs_rise _ ?_
    refine (List.Pairwise.filter _ h.srt).imp_of_mem fun {p q : Pt} hp hq hpq => ?_
    have h1 := (h.tick p (List.mem_filter.1 hp).1).1
    have h2 := (h.tick q (List.mem_filter.1 hq).1).1
    rw [start_mid, start_mid, if_pos h1, if_pos h2]; omega
  · intro e he
    obtain ⟨hne, hk⟩ := runs_keys _ _ e he
    obtain ⟨x, hx⟩ := List.exists_mem_of_ne_nil _ hne
    obtain ⟨k1, k2⟩ := runs_mem _ he hx
    obtain ⟨k3, k4⟩ := List.mem_filter.1 k1
    have h0 := (h.tick x k3).1
    rw [Bool.and_eq_true, decide_eq_true_iff, decide_eq_true_iff] at k4
    have hs := start_mid x.a
    rw [if_pos h0] at hs
    have hmm := h.mm.2.2
    refine ⟨⟨by omega, by omega⟩, by omega, hne, fun p hp => ?_⟩
    exact (List.mem_filter.1 (runs_mem _ he hp).1).1
theorem rollM_good {s : Stk} (h : GoodT s) {now : Int} (h0 : 0 ≤ now) (h1 : now ≤ 1099511627776) : GoodT (rollM s now) := by
  obtain ⟨g1, g2⟩ := midG_facts h (now := now)
  have hM := upTo_mul (w := 300) (now := now) h.mm.2.2
  have hMl : upTo 300 s.mm now ≤ 1099511631376 := by
    unfold upTo
    have := h.mm.2.1
    rcases Int.le_total s.mm (now - now % 300) with hh | hh
    · rw [Int.max_eq_right hh]; omega
    · rw [Int.max_eq_left hh]; omega
  have hbel := rollTo_below g1 (fun e he => (g2 e he).1.2) (256 - s.mid.length)
  have hmk := rollTo_mark (upTo_ge 300 s.mm now) (fun e he => (g2 e he).1) (256 - s.mid.length)
  have hsub : ∀ e ∈ (rollTo (midG s now) (256 - s.mid.length) (upTo 300 s.mm now)).1, e ∈ midG s now := fun e he => List.mem_of_mem_take he
  have hnm : (rollTo (midG s now) (256 - s.mid.length) (upTo 300 s.mm now)).2 % 300 = 0 := by
    rcases hmk.2.2 with e | ⟨e, he, e'⟩
    · rw [e]; exact hM
    · rw [e']; exact (g2 e he).2.1
  obtain ⟨T, hT⟩ : ∃ T, T = rollTo (midG s now) (256 - s.mid.length) (upTo 300 s.mm now) := ⟨_, rfl⟩
  have hTl : T.1.length ≤ 256 - s.mid.length := by rw [hT]; exact List.length_take_le _ _
  have hTs : T.1.Sublist (midG s now) := by rw [hT]; exact List.take_sublist _ _
  rw [← hT] at hbel hmk hsub hnm
  have hR : rollM s now = ⟨s.raw, s.mid ++ T.1.map (fun e => ofA e.1 e.2), s.long, T.2, s.ml⟩ := by rw [hT]; rfl
  rw [hR]
  clear hR hT
  refine ⟨h.srt, h.tick, h.pfits, h.plen, ⟨?_, ?_, ?_, ?_, ?_⟩, h.long, ⟨by have := h.mm.1; simp only; omega, by simp only; omega, hnm⟩, ⟨h.ml.1, by have := h.ml.2.1; simp only; omega, h.ml.2.2⟩⟩
  · intro t ht
    rcases List.mem_append.1 ht with ht | ht
    · exact h.mid.right t ht
    · obtain ⟨e, he, rfl⟩ := List.mem_map.1 ht
      exact right_of (g2 e (hsub e he)).2.2.1
  · intro t ht
    rcases List.mem_append.1 ht with ht | ht
    · exact h.mid.fits t ht
    · obtain ⟨e, he, rfl⟩ := List.mem_map.1 ht
      obtain ⟨⟨a1, a2⟩, a3, a4, a5⟩ := g2 e (hsub e he)
      have hlen : e.2.length ≤ 256 := by
        have h3 : ∀ (L : List (Int × List Pt)), e ∈ L → e.2.length ≤ (L.flatMap Prod.snd).length := fun L hL => by
          induction L with
          | nil => simp at hL
          | cons x T ih =>
            rw [List.flatMap_cons, List.length_append]
            rcases List.mem_cons.1 hL with rfl | hL
            · omega
            · have := ih hL; omega
        have h4 := h3 _ (hsub e he)
        unfold midG at h4
        rw [runs_all] at h4
        have h5 : (s.raw.filter fun p => decide (s.mm ≤ p.a) && decide (p.a < upTo 300 s.mm now)).length ≤ s.raw.length := List.length_filter_le _ _
        have := h.plen
        omega
      have hm0 := h.mm.1
      exact ofA_fits (by omega) (by omega) (fun p hp => h.pfits p (a5 p hp)) (by omega)
  · intro t ht
    rcases List.mem_append.1 ht with ht | ht
    · have := h.mid.beg t ht
      exact ⟨this.1, this.2.1, by simp only; omega⟩
    · obtain ⟨e, he, rfl⟩ := List.mem_map.1 ht
      obtain ⟨⟨a1, a2⟩, a3, a4, a5⟩ := g2 e (hsub e he)
      rw [ofA_at]
      exact ⟨by have := h.mm.1; omega, a3, hbel e he⟩
  · refine List.pairwise_append.2 ⟨h.mid.up, ?_, fun t ht u hu => ?_⟩
    · refine List.pairwise_map.2 ?_
      have := List.Pairwise.sublist hTs g1
      exact this.imp fun {d e} hde => by rw [ofA_at, ofA_at]; exact hde
    · obtain ⟨e, he, rfl⟩ := List.mem_map.1 hu
      rw [ofA_at]
      have := (h.mid.beg t ht).2.2
      have := (g2 e (hsub e he)).1.1
      omega
  · rw [List.length_append, List.length_map]
    have := h.mid.len
    omega
/-! ### Long -/
theorem longC_facts {s : Stk} (h : GoodT s) {c : Int} : (longC s c).Pairwise (fun d e => d.1 < e.1) ∧ ∀ e ∈ longC s c, (s.ml ≤ e.1 ∧ e.1 < upTo 3600 s.ml c) ∧ e.1 % 3600 = 0 ∧ e.2 ≠ [] ∧ ∀ t ∈ e.2, t ∈ s.mid := by
  have hM := upTo_mul (w := 3600) (now := c) h.ml.2.2
  constructor
  · unfold longC
    refine runs_rise _ ?_
    refine (List.Pairwise.filter _ h.mid.up).imp_of_mem fun {p q : Ag} hp hq hpq => ?_
    have h1 := (h.mid.beg p (List.mem_filter.1 hp).1).1
    have h2 := (h.mid.beg q (List.mem_filter.1 hq).1).1
    rw [start_long, start_long, if_pos h1, if_pos h2]; omega
  · intro e he
    obtain ⟨hne, hk⟩ := runs_keys _ _ e he
    obtain ⟨x, hx⟩ := List.exists_mem_of_ne_nil _ hne
    obtain ⟨k1, k2⟩ := runs_mem _ he hx
    obtain ⟨k3, k4⟩ := List.mem_filter.1 k1
    have h0 := (h.mid.beg x k3).1
    rw [Bool.and_eq_true, decide_eq_true_iff, decide_eq_true_iff] at k4
    have hs := start_long x.at_
    rw [if_pos h0] at hs
    have hml := h.ml.2.2
    refine ⟨⟨by omega, by omega⟩, by omega, hne, fun p hp => ?_⟩
    exact (List.mem_filter.1 (runs_mem _ he hp).1).1
theorem rollC_good {s : Stk} (h : GoodT s) {c : Int} (hc : c ≤ s.mm) : GoodT (rollC s c) := by
  obtain ⟨g1, g2⟩ := longC_facts h (c := c)
  have hM := upTo_mul (w := 3600) (now := c) h.ml.2.2
  have hMl : upTo 3600 s.ml c ≤ s.mm := by
    unfold upTo
    have h1 := h.ml.2.1
    have h2 := h.mm.1
    rcases Int.le_total s.ml (c - c % 3600) with hh | hh
    · rw [Int.max_eq_right hh]; omega
    · rw [Int.max_eq_left hh]; omega
  have hbel := rollTo_below g1 (fun e he => (g2 e he).1.2) (256 - s.long.length)
  have hmk := rollTo_mark (upTo_ge 3600 s.ml c) (fun e he => (g2 e he).1) (256 - s.long.length)
  have hsub : ∀ e ∈ (rollTo (longC s c) (256 - s.long.length) (upTo 3600 s.ml c)).1, e ∈ longC s c := fun e he => List.mem_of_mem_take he
  have hnm : (rollTo (longC s c) (256 - s.long.length) (upTo 3600 s.ml c)).2 % 3600 = 0 := by
    rcases hmk.2.2 with e | ⟨e, he, e'⟩
    · rw [e]; exact hM
    · rw [e']; exact (g2 e he).2.1
  obtain ⟨T, hT⟩ : ∃ T, T = rollTo (longC s c) (256 - s.long.length) (upTo 3600 s.ml c) := ⟨_, rfl⟩
  have hTl : T.1.length ≤ 256 - s.long.length := by rw [hT]; exact List.length_take_le _ _
  have hTs : T.1.Sublist (longC s c) := by rw [hT]; exact List.take_sublist _ _
  rw [← hT] at hbel hmk hsub hnm
  have hR : rollC s c = ⟨s.raw, s.mid, s.long ++ T.1.filterMap (fun e => joinA e.1 e.2), s.mm, T.2⟩ := by rw [hT]; rfl
  rw [hR]
  clear hR hT
  have hmm := h.mm
  have hml := h.ml
  have hg : ∀ e ∈ T.1, ∀ a, joinA e.1 e.2 = some a → rightA a = true ∧ a.fits ∧ a.at_ = e.1 := fun e he a ha => by
    obtain ⟨⟨a1, a2⟩, a3, a4, a5⟩ := g2 e (hsub e he)
    exact joinA_good (by omega) (by omega) (fun t ht => h.mid.right t (a5 t ht)) (fun t ht => h.mid.fits t (a5 t ht)) ha
  refine ⟨h.srt, h.tick, h.pfits, h.plen, h.mid, ⟨?_, ?_, ?_, ?_, ?_⟩, h.mm, ⟨by simp only; omega, by simp only; omega, hnm⟩⟩
  · intro t ht
    rcases List.mem_append.1 ht with ht | ht
    · exact h.long.right t ht
    · obtain ⟨e, he, ha⟩ := List.mem_filterMap.1 ht
      exact (hg e he t ha).1
  · intro t ht
    rcases List.mem_append.1 ht with ht | ht
    · exact h.long.fits t ht
    · obtain ⟨e, he, ha⟩ := List.mem_filterMap.1 ht
      exact (hg e he t ha).2.1
  · intro t ht
    rcases List.mem_append.1 ht with ht | ht
    · have := h.long.beg t ht
      exact ⟨this.1, this.2.1, by simp only; omega⟩
    · obtain ⟨e, he, ha⟩ := List.mem_filterMap.1 ht
      obtain ⟨⟨a1, a2⟩, a3, a4, a5⟩ := g2 e (hsub e he)
      rw [(hg e he t ha).2.2]
      exact ⟨by omega, a3, hbel e he⟩
  · refine List.pairwise_append.2 ⟨h.long.up, ?_, fun t ht u hu => ?_⟩
    · have h2 := List.Pairwise.sublist hTs g1
      have key : ∀ L : List (Int × List Ag), (∀ e ∈ L, e ∈ T.1) → L.Pairwise (fun d e => d.1 < e.1) → (L.filterMap fun e => joinA e.1 e.2).Pairwise fun t u => t.at_ < u.at_ := fun L => by
        induction L with
        | nil => intro _ _; exact List.Pairwise.nil
        | cons e r ih =>
          intro hL hp
          have hr := ih (fun x hx => hL x (List.mem_cons_of_mem _ hx)) (List.Pairwise.of_cons hp)
          rw [List.filterMap_cons]
          cases hj : joinA e.1 e.2 with
          | none => exact hr
          | some a =>
            refine List.Pairwise.cons (fun u hu => ?_) hr
            obtain ⟨d, hd, hda⟩ := List.mem_filterMap.1 hu
            rw [(hg e (hL e (by simp)) a hj).2.2, (hg d (hL d (List.mem_cons_of_mem _ hd)) u hda).2.2]
            exact List.rel_of_pairwise_cons hp hd
      exact key T.1 (fun e he => he) h2
    · obtain ⟨e, he, ha⟩ := List.mem_filterMap.1 hu
      rw [(hg e he u ha).2.2]
      have := (h.long.beg t ht).2.2
      have := (g2 e (hsub e he)).1.1
      omega
  · rw [List.length_append]
    have h1 := h.long.len
    have h2 : (T.1.filterMap fun e => joinA e.1 e.2).length ≤ T.1.length := List.length_filterMap_le _ _
    omega
/-- what is made of Long's -/
def longR (s : Stk) (now : Int) : List (Int × List Ag) := longC (rollM s now) (min now (rollM s now).mm)
/-- Mid's mark isn't ahead of now, if it wasn't -/
theorem rollM_low {s : Stk} (h : GoodT s) {now : Int} (_h0 : 0 ≤ now) (hm : s.mm ≤ now) : (rollM s now).mm ≤ now := by
  obtain ⟨_, g2⟩ := midG_facts h (now := now)
  have hmk := rollTo_mark (upTo_ge 300 s.mm now) (fun e he => (g2 e he).1) (256 - s.mid.length)
  have e : (rollM s now).mm = (rollTo (midG s now) (256 - s.mid.length) (upTo 300 s.mm now)).2 := rfl
  have hU : upTo 300 s.mm now ≤ now := by
    unfold upTo
    rcases Int.le_total s.mm (now - now % 300) with hh | hh
    · rw [Int.max_eq_right hh]; omega
    · rw [Int.max_eq_left hh]; exact hm
  rw [e]; omega
theorem rollS_low {s : Stk} (h : GoodT s) {now : Int} (h0 : 0 ≤ now) (hm : s.mm ≤ now) : rollS s now = rollL (rollM s now) := by
  unfold rollS rollL
  rw [Int.min_eq_right (rollM_low h h0 hm)]
theorem longR_low {s : Stk} (h : GoodT s) {now : Int} (h0 : 0 ≤ now) (hm : s.mm ≤ now) : longR s now = longG (rollM s now) := by
  unfold longR longG
  rw [Int.min_eq_right (rollM_low h h0 hm)]
theorem rollS_good {s : Stk} (h : GoodT s) {now : Int} (h0 : 0 ≤ now) (h1 : now ≤ 1099511627776) : GoodT (rollS s now) := rollC_good (rollM_good h h0 h1) (Int.min_le_right _ _)
/-! ### Behind a purge -/
theorem goodA_fmap {w m : Int} {l : List Ag} (h : GoodA w m l) {F : Ag → Option Ag} (hF : ∀ t ∈ l, ∀ u, F t = some u → u.at_ = t.at_ ∧ rightA u = true ∧ u.fits) : GoodA w m (l.filterMap F) := by
  refine ⟨fun u hu => ?_, fun u hu => ?_, fun u hu => ?_, ?_, Nat.le_trans (List.length_filterMap_le _ _) h.len⟩
  · obtain ⟨t, ht, e⟩ := List.mem_filterMap.1 hu
    exact (hF t ht u e).2.1
  · obtain ⟨t, ht, e⟩ := List.mem_filterMap.1 hu
    exact (hF t ht u e).2.2
  · obtain ⟨t, ht, e⟩ := List.mem_filterMap.1 hu
    rw [(hF t ht u e).1]; exact h.beg t ht
  · have key : ∀ L : List Ag, (∀ t ∈ L, t ∈ l) → L.Pairwise (fun t u => t.at_ < u.at_) → (L.filterMap F).Pairwise fun t u => t.at_ < u.at_ := fun L => by
      induction L with
      | nil => intro _ _; exact List.Pairwise.nil
      | cons t r ih =>
        intro hL hp
        have hr := ih (fun x hx => hL x (List.mem_cons_of_mem _ hx)) (List.Pairwise.of_cons hp)
        rw [List.filterMap_cons]
        cases hf : F t with
        | none => exact hr
        | some a =>
          refine List.Pairwise.cons (fun u hu => ?_) hr
          obtain ⟨d, hd, hda⟩ := List.mem_filterMap.1 hu
          rw [(hF t (hL t (by simp)) a hf).1, (hF d (hL d (List.mem_cons_of_mem _ hd)) u hda).1]
          exact List.rel_of_pairwise_cons hp hd
    exact key l (fun t ht => ht) h.up
theorem purge_good {s : Stk} (h : GoodT s) (a b : Int) : GoodT (purgeS s a b) := by
  have hcs : ∀ p ∈ cutL s.raw a b, p ∈ s.raw := fun p hp => (List.mem_filter.1 hp).1
  have hclen : (cutL s.raw a b).length ≤ 256 := Nat.le_trans (List.length_filter_le _ _) h.plen
  have hm : GoodA 300 s.mm (s.mid.filterMap (purM (cutL s.raw a b) a b)) := by
    refine goodA_fmap h.mid fun t ht u hu => ?_
    unfold purM at hu
    split at hu
    · split at hu
      · cases hu
      · rename_i hne
        rw [← Option.some.inj hu, ofA_at]
        have hf := h.mid.fits t ht
        refine ⟨rfl, right_of hne, ofA_fits hf.a0 hf.a1 (fun p hp => h.pfits p (hcs p (List.mem_filter.1 hp).1)) ?_⟩
        have : (getL (cutL s.raw a b) t.at_ (t.at_ + 300)).length ≤ (cutL s.raw a b).length := List.length_filter_le _ _
        omega
    · rw [← Option.some.inj hu]; exact ⟨rfl, h.mid.right t ht, h.mid.fits t ht⟩
  have hl : GoodA 3600 s.ml (s.long.filterMap (purL (s.mid.filterMap (purM (cutL s.raw a b) a b)) a b)) := by
    refine goodA_fmap h.long fun t ht u hu => ?_
    unfold purL at hu
    split at hu
    · have hf := h.long.fits t ht
      obtain ⟨r1, r2, r3⟩ := joinA_good hf.a0 hf.a1 (fun x hx => hm.right x (List.mem_filter.1 hx).1) (fun x hx => hm.fits x (List.mem_filter.1 hx).1) hu
      exact ⟨r3, r1, r2⟩
    · rw [← Option.some.inj hu]; exact ⟨rfl, h.long.right t ht, h.long.fits t ht⟩
  exact ⟨cutL_srt h.srt a b, fun p hp => h.tick p (hcs p hp), fun p hp => h.pfits p (hcs p hp), hclen, hm, hl, h.mm, h.ml⟩
theorem upFrom_of {l : List Int} {z : Int} (h : l.Pairwise (· < ·)) (hz : ∀ x ∈ l, z < x) : upFrom z l = true := by
  induction l generalizing z with
  | nil => rfl
  | cons x r ih =>
    rw [up_cons, decide_eq_true (hz x (by simp)), ih (List.Pairwise.of_cons h) fun y hy => List.rel_of_pairwise_cons h hy]; rfl
end Go.Proofs.YthbdchleppbidaaGreat
/- A stock in three tiers, plainly: acts, one behind the other; what of two rows of acts that are alike but for values in a range comes to. -/
namespace Go.Proofs.YthbdchleppbidaaGreat

/-- an act -/
structure TActL where
  kind : Int
  at_ : Int
  l : List Pt
  a : Int
  b : Int
def offT (p : Pt) : Bool := !(decide (0 ≤ p.a) && decide (p.a ≤ 1099511627776))
/-- is it refused? -/
def putBad (s : Stk) (l : List Pt) : Bool := l.any (fun p => decide (p.a < s.mm)) || l.any offT || decide (256 < (putL s.raw l).length)
def putT (s : Stk) (l : List Pt) : Stk := if putBad s l = true then s else { s with raw := putL s.raw l }
def rightT (a b : Int) : Bool := decide (0 ≤ a) && decide (a < b) && decide (b ≤ 1099511627777)
def rollT (s : Stk) (now : Int) : Stk := if 0 ≤ now ∧ now ≤ 1099511627776 then rollS s now else s
def purgeT (s : Stk) (a b : Int) : Stk := if rightT a b = true then purgeS s a b else s
def stepT (s : Stk) (x : TActL) : Stk := if 0 ≤ x.kind ∧ x.kind ≤ 2 then putT s x.l else if 3 ≤ x.kind ∧ x.kind ≤ 4 then rollT s x.at_ else if x.kind = 5 then purgeT s x.a x.b else s
def playT (l : List TActL) : Stk := l.foldl stepT newS
/-- how many points go -/
def goneT (s : Stk) (a b : Int) : Nat := (getL s.raw a b).length
theorem putL_mem {l s : List Pt} {p : Pt} (h : p ∈ putL s l) : p ∈ s ∨ p ∈ l := by
  induction l generalizing s with
  | nil => exact .inl h
  | cons q r ih =>
    rcases ih (s := putP s q) h with h1 | h1
    · rcases putP_mem h1 with rfl | h2
      · exact .inr (by simp)
      · exact .inl h2
    · exact .inr (List.mem_cons_of_mem _ h1)
theorem putT_good {s : Stk} (h : GoodT s) {l : List Pt} (hf : ∀ p ∈ l, p.fits) : GoodT (putT s l) := by
  unfold putT
  by_cases hb : putBad s l = true
  · rw [if_pos hb]; exact h
  · rw [if_neg hb]
    have hb' : putBad s l = false := by simpa using hb
    unfold putBad at hb'
    rw [Bool.or_eq_false_iff, Bool.or_eq_false_iff, decide_eq_false_iff_not] at hb'
    have hoff : ∀ p ∈ l, 0 ≤ p.a ∧ p.a ≤ 1099511627776 := fun p hp => by
      have h1 := List.any_eq_false.1 hb'.1.2 p hp
      unfold offT at h1
      simp at h1
      exact h1
    refine ⟨putL_srt h.srt l, fun p hp => ?_, fun p hp => ?_, by simp only; omega, h.mid, h.long, h.mm, h.ml⟩
    · rcases putL_mem hp with h1 | h1
      · exact h.tick p h1
      · exact hoff p h1
    · rcases putL_mem hp with h1 | h1
      · exact h.pfits p h1
      · exact hf p h1
theorem rollT_good {s : Stk} (h : GoodT s) (now : Int) : GoodT (rollT s now) := by
  unfold rollT
  split
  · rename_i hn
    exact rollS_good h hn.1 hn.2
  · exact h
theorem purgeT_good {s : Stk} (h : GoodT s) (a b : Int) : GoodT (purgeT s a b) := by
  unfold purgeT
  split
  · exact purge_good h a b
  · exact h
theorem stepT_good {s : Stk} (h : GoodT s) {x : TActL} (hf : ∀ p ∈ x.l, p.fits) : GoodT (stepT s x) := by
  unfold stepT
  split
  · exact putT_good h hf
  · split
    · exact rollT_good h _
    · split
      · exact purgeT_good h _ _
      · exact h
theorem playT_snoc (l : List TActL) (x : TActL) : playT (l ++ [x]) = stepT (playT l) x := by unfold playT; rw [List.foldl_append]; rfl
theorem playT_good {l : List TActL} (hf : ∀ x ∈ l, ∀ p ∈ x.l, p.fits) : GoodT (playT l) := by
  refine rev_ind (P := fun l => (∀ x ∈ l, ∀ p ∈ x.l, p.fits) → GoodT (playT l)) (fun _ => GoodT.new) (fun l x ih hl => ?_) l hf
  rw [playT_snoc]
  exact stepT_good (ih fun y hy => hl y (by simp [hy])) (hl x (by simp))
/-- an act with other points -/
def mapAct (f : Pt → Pt) (x : TActL) : TActL := { x with l := x.l.map f }
theorem mapAct_id (L : List TActL) : L.map (mapAct fun p => p) = L := by
  conv => rhs; rw [← List.map_id L]
  refine List.map_congr_left fun x _ => ?_
  show ({ x with l := x.l.map fun p => p } : TActL) = x
  rw [show (x.l.map fun p => p) = x.l from List.map_id' x.l]
theorem stepT_put {s : Stk} {x : TActL} (h : 0 ≤ x.kind ∧ x.kind ≤ 2) : stepT s x = putT s x.l := by unfold stepT; rw [if_pos h]
theorem stepT_roll {s : Stk} {x : TActL} (h : 3 ≤ x.kind ∧ x.kind ≤ 4) : stepT s x = rollT s x.at_ := by unfold stepT; rw [if_neg (by omega), if_pos h]
theorem stepT_purge {s : Stk} {x : TActL} (h : x.kind = 5) : stepT s x = purgeT s x.a x.b := by unfold stepT; rw [if_neg (by omega), if_neg (by omega), if_pos h]
theorem stepT_none {s : Stk} {x : TActL} (h : ¬ (0 ≤ x.kind ∧ x.kind ≤ 5)) : stepT s x = s := by unfold stepT; rw [if_neg (by omega), if_neg (by omega), if_neg (by omega)]
/-! ### Alike but for values in a range -/
/-- the same act, with other values in the range -/
structure ActTwo (a b : Int) (x y : TActL) : Prop where
  kind : x.kind = y.kind
  at_ : x.at_ = y.at_
  l : x.l.map (blurP a b) = y.l.map (blurP a b)
  ra : x.a = y.a
  rb : x.b = y.b
theorem any_two {a b : Int} {l l' : List Pt} (h : l.map (blurP a b) = l'.map (blurP a b)) (f : Pt → Bool) (hf : ∀ p q : Pt, p.a = q.a → f p = f q) : l.any f = l'.any f := by
  have e : ∀ k : List Pt, k.any f = (k.map (blurP a b)).any f := fun k => by
    rw [List.any_map]
    congr 1
    funext p
    exact (hf _ _ (blurP_a a b p)).symm
  rw [e l, e l', h]
theorem putBad_two {a b : Int} {s s' : Stk} (h : Alike a b s s') {l l' : List Pt} (hl : l.map (blurP a b) = l'.map (blurP a b)) : putBad s l = putBad s' l' := by
  unfold putBad
  rw [any_two hl (fun p => decide (p.a < s.mm)) (fun p q e => by rw [e]), any_two hl offT (fun p q e => by unfold offT; rw [e]), len_two (putL_alike h.raw hl), h.mm]
theorem putT_alike {a b : Int} {s s' : Stk} (h : Alike a b s s') {l l' : List Pt} (hl : l.map (blurP a b) = l'.map (blurP a b)) : Alike a b (putT s l) (putT s' l') := by
  unfold putT
  rw [putBad_two h hl]
  split
  · exact h
  · exact ⟨putL_alike h.raw hl, h.mid, h.long, h.mm, h.ml⟩
theorem rollS_alike {a b : Int} {s s' : Stk} (h : Alike a b s s') (hk : GoodT s) (hk' : GoodT s') {now : Int} (h0 : 0 ≤ now) (h1 : now ≤ 1099511627776) : Alike a b (rollS s now) (rollS s' now) :=
  by
  have hm := rollM_alike h hk.good hk'.good now
  unfold rollS
  rw [hm.mm]
  exact rollC_alike hm (rollM_good hk h0 h1).good (rollM_good hk' h0 h1).good
theorem stepT_alike {a b : Int} {s s' : Stk} (h : Alike a b s s') (hk : GoodT s) (hk' : GoodT s') {x y : TActL} (hxy : ActTwo a b x y) : Alike a b (stepT s x) (stepT s' y) := by
  unfold stepT
  rw [← hxy.kind, ← hxy.at_, ← hxy.ra, ← hxy.rb]
  split
  · exact putT_alike h hxy.l
  · split
    · unfold rollT
      split
      · rename_i hn
        exact rollS_alike h hk hk' hn.1 hn.2
      · exact h
    · split
      · unfold purgeT
        split
        · exact purge_alike h hk.good hk'.good
        · exact h
      · exact h
/-- two rows of acts, one by one -/
inductive RowTwo (a b : Int) : List TActL → List TActL → Prop where
  | nil : RowTwo a b [] []
  | snoc {l l' : List TActL} {x y : TActL} (h : RowTwo a b l l') (hx : ActTwo a b x y) : RowTwo a b (l ++ [x]) (l' ++ [y])
theorem playT_alike {a b : Int} {l l' : List TActL} (h : RowTwo a b l l') : (∀ x ∈ l, ∀ p ∈ x.l, p.fits) → (∀ x ∈ l', ∀ p ∈ x.l, p.fits) → Alike a b (playT l) (playT l') := by
  induction h with
  | nil => intro _ _; exact Alike.refl _ _ _
  | snoc h hx ih =>
    intro hf hf'
    rw [playT_snoc, playT_snoc]
    have f1 := fun y hy => hf y (List.mem_append_left _ hy)
    have f2 := fun y hy => hf' y (List.mem_append_left _ hy)
    exact stepT_alike (ih f1 f2) (playT_good f1) (playT_good f2) hx
/-- as many go -/
theorem gone_alike {a b c d : Int} {s s' : Stk} (h : Alike a b s s') : goneT s c d = goneT s' c d := by
  unfold goneT
  exact len_two (filter_two (G := blurP a b) _ (fun x y hxy => by rw [blurP_same hxy]) h.raw)
/-- BEHIND THE PURGE BOTH ARE THE SAME -/
theorem play_forgets {a b : Int} {l l' : List TActL} (h : RowTwo a b l l') (hf : ∀ x ∈ l, ∀ p ∈ x.l, p.fits) (hf' : ∀ x ∈ l', ∀ p ∈ x.l, p.fits) : purgeS (playT l) a b = purgeS (playT l') a b ∧ goneT (playT l) a b = goneT (playT l') a b :=
  ⟨purge_forgets (playT_alike h hf hf'), gone_alike (playT_alike h hf hf')⟩
/-- points with other values in the range are alike -/
theorem other_alike {a b : Int} (f : Pt → Pt) (hf : ∀ p, (f p).a = p.a) (ho : ∀ p : Pt, ¬ (a ≤ p.a ∧ p.a < b) → f p = p) (l : List Pt) : l.map (blurP a b) = (l.map f).map (blurP a b) := by
  rw [List.map_map]
  refine List.map_congr_left fun p _ => ?_
  show blurP a b p = blurP a b (f p)
  by_cases h : a ≤ p.a ∧ p.a < b
  · unfold blurP
    rw [hf, if_pos h, if_pos h]
  · rw [ho p h]
end Go.Proofs.YthbdchleppbidaaGreat
/- A stock in three tiers, plainly: to roll in two steps is to roll in one. -/
namespace Go.Proofs.YthbdchleppbidaaGreat

theorem runs_append {α : Type} (f : α → Int) {A B : List α} (h : ∀ x ∈ A, ∀ y ∈ B, f x ≠ f y) : runs f (A ++ B) = runs f A ++ runs f B := by
  induction A with
  | nil => rfl
  | cons x r ih =>
    have hr := ih fun u hu v hv => h u (List.mem_cons_of_mem _ hu) v hv
    rw [List.cons_append, runs_cons, hr, runs_cons]
    cases r with
    | nil =>
      show (match [] ++ runs f B with
        | [] => [(f x, [x])]
        | (k, g) :: t => if f x = k then (k, x :: g) :: t else (f x, [x]) :: (k, g) :: t) = _
      rw [List.nil_append]
      cases B with
      | nil => rfl
      | cons y B' =>
        obtain ⟨g, t, e⟩ := runs_head f y B'
        rw [e]
        simp only
        rw [if_neg (h x (by simp) y (by simp))]
        rfl
    | cons z r' =>
      obtain ⟨g, t, e⟩ := runs_head f z r'
      rw [e]
      simp only [List.cons_append]
      by_cases hk : f x = f z
      · rw [if_pos hk, if_pos hk]; rfl
      · rw [if_neg hk, if_neg hk]; rfl
/-- a rising list, cut at a place between -/
theorem filter_cut {α : Type} (key : α → Int) {l : List α} (hs : l.Pairwise fun x y => key x < key y) {lo c hi : Int} (h1 : lo ≤ c) (h2 : c ≤ hi) :
    (l.filter fun x => decide (lo ≤ key x) && decide (key x < hi)) = (l.filter fun x => decide (lo ≤ key x) && decide (key x < c)) ++ l.filter fun x => decide (c ≤ key x) && decide (key x < hi) := by
  induction l with
  | nil => rfl
  | cons x r ih =>
    have hr := ih (List.Pairwise.of_cons hs)
    have hx : ∀ y ∈ r, key x < key y := fun y hy => List.rel_of_pairwise_cons hs hy
    by_cases ha : lo ≤ key x ∧ key x < c
    · rw [List.filter_cons_of_pos (by simp; omega), List.filter_cons_of_pos (by simp; omega), List.filter_cons_of_neg (by simp; omega), hr]
      rfl
    · by_cases hb : c ≤ key x ∧ key x < hi
      · have he : (r.filter fun x => decide (lo ≤ key x) && decide (key x < c)) = [] := List.filter_eq_nil_iff.2 fun y hy => by
          have := hx y hy
          simp; omega
        rw [List.filter_cons_of_pos (by simp; omega), List.filter_cons_of_neg (by simp; omega), List.filter_cons_of_pos (by simp; omega), hr, he]
        rfl
      · rw [List.filter_cons_of_neg (by simp; omega), List.filter_cons_of_neg (by simp; omega), List.filter_cons_of_neg (by simp; omega), hr]
theorem rollTo_all {α : Type} {gs : List (Int × List α)} {room : Nat} {M : Int} (h : gs.length ≤ room) : rollTo gs room M = (gs, M) := by
  unfold rollTo
  rw [List.take_of_length_le h, List.getElem?_eq_none h]
theorem upTo_step {w m x y : Int} (hxy : x - x % w ≤ y - y % w) : upTo w (upTo w m x) y = upTo w m y := by
  unfold upTo
  rw [Int.max_assoc, Int.max_eq_right hxy]
theorem rollM_all {s : Stk} {now : Int} (h : (midG s now).length ≤ 256 - s.mid.length) : rollM s now = ⟨s.raw, s.mid ++ (midG s now).map (fun e => ofA e.1 e.2), s.long, upTo 300 s.mm now, s.ml⟩ := by
  unfold rollM
  rw [rollTo_all h]
theorem rollL_all {s : Stk} (h : (longG s).length ≤ 256 - s.long.length) : rollL s = ⟨s.raw, s.mid, s.long ++ (longG s).filterMap (fun e => joinA e.1 e.2), s.mm, upTo 3600 s.ml s.mm⟩ := by
  unfold longG at h
  unfold rollL rollC longG
  rw [rollTo_all h]
/-- Mid's groups up to a later tick: those up to an earlier one, and those from there on -/
theorem midG_step {s t : Stk} (h : GoodT s) {x y : Int} (hx : x ≤ y) (hr : t.raw = s.raw) (hm : t.mm = upTo 300 s.mm x) : midG s y = midG s x ++ midG t y := by
  have hX := upTo_mul (w := 300) (now := x) h.mm.2.2
  have hle : upTo 300 s.mm x ≤ upTo 300 s.mm y := by rw [← upTo_step (w := 300) (m := s.mm) (x := x) (y := y) (by omega)]; exact upTo_ge _ _ _
  have e : upTo 300 t.mm y = upTo 300 s.mm y := by rw [hm]; exact upTo_step (by omega)
  unfold midG
  rw [e, hr, hm, filter_cut Pt.a h.srt (upTo_ge 300 s.mm x) hle]
  refine runs_append _ fun p hp q hq => ?_
  obtain ⟨p1, p2⟩ := List.mem_filter.1 hp
  obtain ⟨q1, q2⟩ := List.mem_filter.1 hq
  rw [Bool.and_eq_true, decide_eq_true_iff, decide_eq_true_iff] at p2 q2
  have a0 := (h.tick p p1).1
  have b0 := (h.tick q q1).1
  rw [start_mid, start_mid, if_pos a0, if_pos b0]
  omega
/-- Long's groups likewise -/
theorem longG_step {s t u : Stk} (h : GoodT u) {m : Int} (hml : s.ml % 3600 = 0) (hs : s.mid = u.mid.filter fun a => decide (a.at_ < m)) (hsm : s.mm = m) (hul : u.ml = s.ml) (hm : m ≤ u.mm) (htm : t.mid = u.mid) (htl : t.ml = upTo 3600 s.ml m) (htt : t.mm = u.mm) (hlm : s.ml ≤ m) : longG u = longG s ++ longG t := by
  have hX := upTo_mul (w := 3600) (now := m) hml
  have hle : upTo 3600 s.ml m ≤ upTo 3600 s.ml u.mm := by rw [← upTo_step (w := 3600) (m := s.ml) (x := m) (y := u.mm) (by omega)]; exact upTo_ge _ _ _
  have e : upTo 3600 t.ml t.mm = upTo 3600 s.ml u.mm := by rw [htl, htt]; exact upTo_step (by omega)
  have hub : upTo 3600 s.ml m ≤ m := by
    unfold upTo
    rcases Int.le_total s.ml (m - m % 3600) with hh | hh
    · rw [Int.max_eq_right hh]; omega
    · rw [Int.max_eq_left hh]; exact hlm
  have hsf : (s.mid.filter fun a => decide (s.ml ≤ a.at_) && decide (a.at_ < upTo 3600 s.ml m)) = u.mid.filter fun a => decide (s.ml ≤ a.at_) && decide (a.at_ < upTo 3600 s.ml m) := by
    rw [hs, List.filter_filter]
    refine List.filter_congr fun a _ => ?_
    by_cases h1 : a.at_ < upTo 3600 s.ml m
    · rw [decide_eq_true h1, decide_eq_true (show a.at_ < m by omega)]; simp
    · rw [decide_eq_false h1]; simp
  unfold longG longC
  rw [e, hul, hsm, hsf, htm, htl, filter_cut Ag.at_ h.mid.up (upTo_ge 3600 s.ml m) hle]
  refine runs_append _ fun p hp q hq => ?_
  obtain ⟨p1, p2⟩ := List.mem_filter.1 hp
  obtain ⟨q1, q2⟩ := List.mem_filter.1 hq
  rw [Bool.and_eq_true, decide_eq_true_iff, decide_eq_true_iff] at p2 q2
  have a0 := (h.mid.beg p p1).1
  have b0 := (h.mid.beg q q1).1
  rw [start_long, start_long, if_pos a0, if_pos b0]
  omega
/-- TO ROLL IN TWO STEPS IS TO ROLL IN ONE, where all goes in -/
theorem roll_twice {s : Stk} (h : GoodT s) {x y : Int} (h0 : 0 ≤ x) (hxy : x ≤ y) (h1 : y ≤ 1099511627776) (hx0 : s.mm ≤ x) (hr : s.mid.length + (midG s y).length ≤ 256) (hl : s.long.length + (longG (rollM s y)).length ≤ 256) :
    rollS (rollS s x) y = rollS s y ∧ (midG s y).length = (midG s x).length + (midG (rollS s x) y).length ∧ (longG (rollM s y)).length = (longG (rollM s x)).length + (longG (rollM (rollS s x) y)).length := by
  have gy := rollM_good h (show 0 ≤ y by omega) h1
  have gx := rollM_good h h0 (show x ≤ 1099511627776 by omega)
  have hle : upTo 300 s.mm x ≤ upTo 300 s.mm y := by rw [← upTo_step (w := 300) (m := s.mm) (x := x) (y := y) (by omega)]; exact upTo_ge _ _ _
  -- Mid
  have ms := midG_step (t := rollS s x) h hxy
  have e0 : midG s y = midG s x ++ midG ⟨s.raw, [], [], upTo 300 s.mm x, 0⟩ y := midG_step h hxy rfl rfl
  have hxl : (midG s x).length ≤ 256 - s.mid.length := by rw [e0, List.length_append] at hr; omega
  have hyl : (midG s y).length ≤ 256 - s.mid.length := by omega
  have ex := rollM_all hxl
  have ey := rollM_all hyl
  -- Long: what was rolled at x is what of it lies below x's mark
  have hbe := h.mid.beg
  have fx := (midG_facts h (now := x)).2
  have gU := gy
  rw [ey] at gU hl
  rw [ex] at gx
  have hmidx : s.mid ++ (midG s x).map (fun e => ofA e.1 e.2) = (s.mid ++ (midG s y).map (fun e => ofA e.1 e.2)).filter fun a => decide (a.at_ < upTo 300 s.mm x) := by
    rw [e0, List.map_append, ← List.append_assoc, List.filter_append]
    have k1 : ((s.mid ++ (midG s x).map fun e => ofA e.1 e.2).filter fun a => decide (a.at_ < upTo 300 s.mm x)) = s.mid ++ (midG s x).map fun e => ofA e.1 e.2 := List.filter_eq_self.2 fun a ha => by
      have := (gx.mid.beg a ha).2.2
      exact decide_eq_true this
    have k2 : (((midG ⟨s.raw, [], [], upTo 300 s.mm x, 0⟩ y).map fun e => ofA e.1 e.2).filter fun a => decide (a.at_ < upTo 300 s.mm x)) = [] := List.filter_eq_nil_iff.2 fun a ha => by
      obtain ⟨e, he, rfl⟩ := List.mem_map.1 ha
      rw [ofA_at]
      obtain ⟨hne, _⟩ := runs_keys _ _ e he
      obtain ⟨z, hz⟩ := List.exists_mem_of_ne_nil _ hne
      obtain ⟨z1, z2⟩ := runs_mem _ he hz
      obtain ⟨z3, z4⟩ := List.mem_filter.1 z1
      rw [Bool.and_eq_true, decide_eq_true_iff, decide_eq_true_iff] at z4
      have hz0 := (h.tick z z3).1
      have hst := start_mid z.a
      rw [if_pos hz0] at hst
      have hX := upTo_mul (w := 300) (now := x) h.mm.2.2
      simp only at z4
      simp only [decide_eq_true_eq]
      omega
    rw [k1, k2, List.append_nil]
  have hsm : s.ml ≤ upTo 300 s.mm x := Int.le_trans h.ml.2.1 (upTo_ge _ _ _)
  -- the stock rolled at x, then Mid at y
  have hlx : (longG (rollM s x)).length ≤ 256 - s.long.length ∧ longG ⟨s.raw, s.mid ++ (midG s y).map (fun e => ofA e.1 e.2), s.long, upTo 300 s.mm y, s.ml⟩ = longG (rollM s x) ++ longG ⟨s.raw, s.mid ++ (midG s y).map (fun e => ofA e.1 e.2), [], upTo 300 s.mm y, upTo 3600 s.ml (upTo 300 s.mm x)⟩ := by
    have hst := longG_step (s := rollM s x) (t := ⟨s.raw, s.mid ++ (midG s y).map (fun e => ofA e.1 e.2), [], upTo 300 s.mm y, upTo 3600 s.ml (upTo 300 s.mm x)⟩) gU (m := upTo 300 s.mm x) (by rw [ex]; exact h.ml.2.2) (by rw [ex]; exact hmidx) (by rw [ex]) (by rw [ex]) hle rfl (by rw [ex]) rfl (by rw [ex]; exact hsm)
    refine ⟨?_, hst⟩
    rw [hst, List.length_append] at hl
    omega
  have esx : rollS s x = ⟨s.raw, s.mid ++ (midG s x).map (fun e => ofA e.1 e.2), s.long ++ (longG (rollM s x)).filterMap (fun e => joinA e.1 e.2), upTo 300 s.mm x, upTo 3600 s.ml (upTo 300 s.mm x)⟩ := by
    rw [rollS_low h h0 hx0]
    have hlx1 : (longG (rollM s x)).length ≤ 256 - (rollM s x).long.length := by rw [ex]; rw [ex] at hlx; exact hlx.1
    rw [rollL_all hlx1]
    rw [ex]
  have hm2 : midG s y = midG s x ++ midG (rollS s x) y := midG_step h hxy (by rw [esx]) (by rw [esx])
  have hyl2 : (midG (rollS s x) y).length ≤ 256 - (rollS s x).mid.length := by
    rw [hm2, List.length_append] at hr
    rw [esx] at hr ⊢
    simp only [List.length_append, List.length_map] at hr ⊢
    omega
  have ey2 : rollM (rollS s x) y = ⟨s.raw, s.mid ++ (midG s y).map (fun e => ofA e.1 e.2), s.long ++ (longG (rollM s x)).filterMap (fun e => joinA e.1 e.2), upTo 300 s.mm y, upTo 3600 s.ml (upTo 300 s.mm x)⟩ := by
    rw [rollM_all hyl2]
    rw [hm2, List.map_append, ← List.append_assoc]
    rw [esx]
    simp only
    rw [upTo_step (by omega)]
  have hjl : ((longG (rollM s x)).filterMap fun e => joinA e.1 e.2).length ≤ (longG (rollM s x)).length := List.length_filterMap_le _ _
  have hlg : longG (rollM (rollS s x) y) = longG ⟨s.raw, s.mid ++ (midG s y).map (fun e => ofA e.1 e.2), [], upTo 300 s.mm y, upTo 3600 s.ml (upTo 300 s.mm x)⟩ := by rw [ey2]; rfl
  have hl' := hl
  rw [hlx.2, List.length_append] at hl'
  have hyl3 : (longG (rollM (rollS s x) y)).length ≤ 256 - (rollM (rollS s x) y).long.length := by
    rw [hlg, ey2]
    simp only [List.length_append]
    omega
  refine ⟨?_, by rw [hm2, List.length_append], by rw [hlg, ey, hlx.2, List.length_append]⟩
  have gsx := rollS_good h h0 (show x ≤ 1099511627776 by omega)
  have e1 : rollS (rollS s x) y = rollL (rollM (rollS s x) y) := rollS_low gsx (by omega) (by have := rollM_low h h0 hx0; show (rollM s x).mm ≤ y; omega)
  have e2 : rollS s y = rollL (rollM s y) := rollS_low h (by omega) (by omega)
  rw [e1, e2, rollL_all hyl3, rollL_all (by rw [ey]; simp only; omega), hlg, ey2, ey, hlx.2, List.filterMap_append, ← List.append_assoc]
  simp only
  rw [upTo_step (by omega)]
/-- a second time at one tick nothing is made -/
theorem upTo_again (w m now : Int) : upTo w (upTo w m now) now = upTo w m now := upTo_step (Int.le_refl _)
theorem midG_again {s : Stk} {now : Int} (h : s.mm = upTo 300 s.mm now) : midG s now = [] := by
  unfold midG
  rw [← h]
  have : (s.raw.filter fun p => decide (s.mm ≤ p.a) && decide (p.a < s.mm)) = [] := List.filter_eq_nil_iff.2 fun p _ => by simp
  rw [this]; rfl
theorem longG_again {s : Stk} (h : s.ml = upTo 3600 s.ml s.mm) : longG s = [] := by
  unfold longG longC
  rw [← h]
  have : (s.mid.filter fun p => decide (s.ml ≤ p.at_) && decide (p.at_ < s.ml)) = [] := List.filter_eq_nil_iff.2 fun p _ => by simp
  rw [this]; rfl
end Go.Proofs.YthbdchleppbidaaGreat
