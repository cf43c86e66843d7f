/- Aggregates, plainly: what points come to, saturated step by step; groups of one window; wide windows by narrow ones. -/
import Derived.Test.YtdmlolagpbobeaaPtL
import Derived.Test.YtdmlolagpbobeaaSatL
namespace Go.Proofs.Ytdmlolagpbobeaa

structure Ag where
  at_ : Int
  n : Int
  s : Int
  lo : Int
  hi : Int
deriving DecidableEq, Inhabited
/-- a value more -/
def stepA (a : Ag) (v : Int) : Ag := if a.n = 0 then ⟨a.at_, 1, v, v, v⟩ else ⟨a.at_, a.n + 1, sat (a.s + v), if v < a.lo then v else a.lo, if a.hi < v then v else a.hi⟩
def noAg (k : Int) : Ag := ⟨k, 0, 0, 0, 0⟩
/-- the aggregate of points -/
def ofA (k : Int) (g : List Pt) : Ag := g.foldl (fun a p => stepA a p.v) (noAg k)
/-- two aggregates together -/
def joinA2 (a b : Ag) : Ag := ⟨a.at_, sat (a.n + b.n), sat (a.s + b.s), if b.lo < a.lo then b.lo else a.lo, if a.hi < b.hi then b.hi else a.hi⟩
/-- the next one joined: those without values don't count -/
def joinStep (acc : Option Ag) (b : Ag) : Option Ag := if b.n < 1 then acc else match acc with
  | none => some b
  | some a => some (joinA2 a b)
def joinA (k : Int) (l : List Ag) : Option Ag := (l.foldl joinStep none).map fun a => { a with at_ := k }
/-- groups of one key, one behind the other -/
def runs {α : Type} (f : α → Int) : List α → List (Int × List α)
  | [] => []
  | x :: r => match runs f r with
    | [] => [(f x, [x])]
    | (k, g) :: t => if f x = k then (k, x :: g) :: t else (f x, [x]) :: (k, g) :: t
theorem runs_cons {α : Type} (f : α → Int) (x : α) (r : List α) : runs f (x :: r) = match runs f r with
    | [] => [(f x, [x])]
    | (k, g) :: t => if f x = k then (k, x :: g) :: t else (f x, [x]) :: (k, g) :: t := rfl
theorem runs_nil_iff {α : Type} (f : α → Int) (l : List α) : runs f l = [] ↔ l = [] := by
  cases l with
  | nil => simp [runs]
  | cons x r =>
    rw [runs_cons]
    constructor
    · intro h
      split at h
      · cases h
      · split at h <;> cases h
    · intro h; cases h
/-- a group has something, and all of its key -/
theorem runs_keys {α : Type} (f : α → Int) (l : List α) : ∀ e ∈ runs f l, e.2 ≠ [] ∧ ∀ x ∈ e.2, f x = e.1 := by
  induction l with
  | nil => simp [runs]
  | cons x r ih =>
    rw [runs_cons]
    cases h : runs f r with
    | nil =>
      intro e he
      obtain rfl : e = (f x, [x]) := by simpa using he
      simp
    | cons kg t =>
      obtain ⟨k, g⟩ := kg
      rw [h] at ih
      simp only
      by_cases hk : f x = k
      · rw [if_pos hk]
        intro e he
        rcases List.mem_cons.1 he with rfl | he
        · refine ⟨by simp, fun y hy => ?_⟩
          rcases List.mem_cons.1 hy with rfl | hy
          · exact hk
          · exact (ih (k, g) (by simp)).2 y hy
        · exact ih e (List.mem_cons_of_mem _ he)
      · rw [if_neg hk]
        intro e he
        rcases List.mem_cons.1 he with rfl | he
        · simp
        · exact ih e he
/-- all groups together are the list -/
theorem runs_all {α : Type} (f : α → Int) (l : List α) : (runs f l).flatMap Prod.snd = l := by
  induction l with
  | nil => rfl
  | cons x r ih =>
    rw [runs_cons]
    cases h : runs f r with
    | nil =>
      rw [(runs_nil_iff f r).1 h]; rfl
    | cons kg t =>
      obtain ⟨k, g⟩ := kg
      rw [h] at ih
      simp only
      by_cases hk : f x = k
      · rw [if_pos hk, List.flatMap_cons, List.cons_append]
        rw [List.flatMap_cons] at ih
        rw [ih]
      · rw [if_neg hk, List.flatMap_cons, ih]; rfl
/-- groups by a wide key of the groups by a narrow one are the narrow groups of the wide ones -/
theorem runs_wide {α : Type} (f g : α → Int) (F : Int → Int) (hF : ∀ x, F (f x) = g x) (l : List α) :
    runs (fun e : Int × List α => F e.1) (runs f l) = (runs g l).map fun e => (e.1, runs f e.2) := by
  induction l with
  | nil => rfl
  | cons x r ih =>
    rw [runs_cons f x r, runs_cons g x r]
    cases hf : runs f r with
    | nil =>
      have hr := (runs_nil_iff f r).1 hf
      subst hr
      have e : runs g ([] : List α) = [] := rfl
      rw [e]
      simp only [List.map_cons, List.map_nil]
      show runs (fun e : Int × List α => F e.1) [(f x, [x])] = [(g x, runs f [x])]
      simp [runs, hF]
    | cons kg t =>
      obtain ⟨k, h⟩ := kg
      rw [hf] at ih
      cases hg : runs g r with
      | nil =>
        have hr := (runs_nil_iff g r).1 hg
        subst hr
        cases hf
      | cons KG T =>
        obtain ⟨K, G⟩ := KG
        rw [hg] at ih
        rw [List.map_cons] at ih
        -- what is at the head of both
        obtain ⟨hne, hkey⟩ := runs_keys f r (k, h) (by rw [hf]; simp)
        obtain ⟨gne, gkey⟩ := runs_keys g r (K, G) (by rw [hg]; simp)
        have hrall := runs_all f r
        have grall := runs_all g r
        rw [hf, List.flatMap_cons] at hrall
        rw [hg, List.flatMap_cons] at grall
        obtain ⟨y, h', rfl⟩ : ∃ y h', h = y :: h' := by
          cases h with
          | nil => exact absurd rfl hne
          | cons y h' => exact ⟨y, h', rfl⟩
        obtain ⟨z, G', rfl⟩ : ∃ z G', G = z :: G' := by
          cases G with
          | nil => exact absurd rfl gne
          | cons z G' => exact ⟨z, G', rfl⟩
        have hyz : y = z := by
          have e1 : r = y :: (h' ++ t.flatMap Prod.snd) := by rw [← hrall]; rfl
          have e2 : r = z :: (G' ++ T.flatMap Prod.snd) := by rw [← grall]; rfl
          rw [e1] at e2
          injection e2
        subst hyz
        have hky : f y = k := hkey y (by simp)
        have hKy : g y = K := gkey y (by simp)
        have hFk : F k = K := by rw [← hky, hF, hKy]
        simp only
        by_cases hx : f x = k
        · have hgx : g x = K := by rw [← hF, hx, hFk]
          rw [if_pos hx, if_pos hgx, List.map_cons]
          rw [runs_cons] at ih ⊢
          -- the narrow groups of the wide one, with x ahead
          have e3 : runs f (x :: y :: G') = match runs f (y :: G') with
              | [] => [(f x, [x])]
              | (k, g) :: t => if f x = k then (k, x :: g) :: t else (f x, [x]) :: (k, g) :: t := rfl
          cases ht : runs (fun e : Int × List α => F e.1) t with
          | nil =>
            rw [ht] at ih
            simp only at ih ⊢
            injection ih with i1 i2
            injection i1 with i3 i4
            rw [e3, ← i4]
            simp only
            rw [if_pos hx, hFk, i2]
          | cons KE TE =>
            obtain ⟨KK, EE⟩ := KE
            rw [ht] at ih
            simp only at ih ⊢
            by_cases hkk : F k = KK
            · rw [if_pos hkk] at ih ⊢
              injection ih with i1 i2
              injection i1 with i3 i4
              rw [e3, ← i4]
              simp only
              rw [if_pos hx, i2, i3]
            · rw [if_neg hkk] at ih ⊢
              injection ih with i1 i2
              injection i1 with i3 i4
              rw [e3, ← i4]
              simp only
              rw [if_pos hx, i2, i3]
        · rw [if_neg hx]
          rw [runs_cons]
          have e4 : runs (fun e : Int × List α => F e.1) ((k, y :: h') :: t) = (K, runs f (y :: G')) :: T.map fun e => (e.1, runs f e.2) := ih
          rw [e4]
          simp only
          by_cases hgx : g x = K
          · rw [if_pos (by rw [hF]; exact hgx), if_pos hgx, List.map_cons]
            have hhead : ∃ h2 t2, runs f (y :: G') = (k, h2) :: t2 := by
              cases hc : runs f (y :: G') with
              | nil => exact absurd ((runs_nil_iff f _).1 hc) (by simp)
              | cons a b =>
                obtain ⟨k2, h2⟩ := a
                obtain ⟨n2, s2⟩ := runs_keys f (y :: G') (k2, h2) (by rw [hc]; simp)
                have a2 := runs_all f (y :: G')
                rw [hc, List.flatMap_cons] at a2
                cases h2 with
                | nil => exact absurd rfl n2
                | cons q h3 =>
                  have : q = y := by
                    have := congrArg List.head? a2
                    simpa using this
                  subst this
                  have hk2 : k2 = k := (s2 q (by simp)).symm.trans hky
                  exact ⟨_, _, by rw [hk2]⟩
            obtain ⟨h2, t2, e5⟩ := hhead
            have e6 : runs f (x :: y :: G') = (f x, [x]) :: runs f (y :: G') := by
              rw [runs_cons, e5]
              simp only
              rw [if_neg hx]
            rw [e6]
          · rw [if_neg (by rw [hF]; exact hgx), if_neg hgx, List.map_cons, List.map_cons, hF]
            rfl
/-! ### Where nothing saturates -/
def minF (m : Int) (g : List Pt) : Int := g.foldl (fun m p => if p.v < m then p.v else m) m
def maxF (m : Int) (g : List Pt) : Int := g.foldl (fun m p => if m < p.v then p.v else m) m
def sumF (g : List Pt) : Int := (g.map Pt.v).sum
theorem minF_min (m q : Int) (g : List Pt) : minF (if q < m then q else m) g = if minF q g < m then minF q g else m := by
  induction g generalizing m q with
  | nil => rfl
  | cons p r ih =>
    show minF (if p.v < (if q < m then q else m) then p.v else (if q < m then q else m)) r = if minF (if p.v < q then p.v else q) r < m then minF (if p.v < q then p.v else q) r else m
    rw [← ih m (if p.v < q then p.v else q)]
    congr 1
    (repeat' split) <;> omega
theorem maxF_max (m q : Int) (g : List Pt) : maxF (if m < q then q else m) g = if m < maxF q g then maxF q g else m := by
  induction g generalizing m q with
  | nil => rfl
  | cons p r ih =>
    show maxF (if (if m < q then q else m) < p.v then p.v else (if m < q then q else m)) r = if m < maxF (if q < p.v then p.v else q) r then maxF (if q < p.v then p.v else q) r else m
    rw [← ih m (if q < p.v then p.v else q)]
    congr 1
    (repeat' split) <;> omega
/-- values of at most so much -/
def SmallV (b : Int) (g : List Pt) : Prop := ∀ p ∈ g, -b ≤ p.v ∧ p.v ≤ b
theorem small_cons {b : Int} {p : Pt} {g : List Pt} : SmallV b (p :: g) ↔ (-b ≤ p.v ∧ p.v ≤ b) ∧ SmallV b g := by
  unfold SmallV; simp
theorem sum_small {b : Int} {g : List Pt} (h : SmallV b g) : -(b * g.length) ≤ sumF g ∧ sumF g ≤ b * g.length := by
  induction g with
  | nil => simp [sumF]
  | cons p r ih =>
    obtain ⟨h1, h2⟩ := small_cons.1 h
    obtain ⟨h3, h4⟩ := ih h2
    have e : sumF (p :: r) = p.v + sumF r := by simp [sumF]
    have e2 : b * ((p :: r).length : Nat) = b * (r.length : Nat) + b := by
      rw [List.length_cons, Int.natCast_add, Int.mul_add]; simp
    rw [e, e2]; omega
/-- more values, where nothing saturates -/
theorem step_fold {b : Int} (hb : 0 ≤ b) {a : Ag} {g : List Pt} (ha : 1 ≤ a.n) (h : SmallV b g) {N : Nat} (hs : -(b * N) ≤ a.s ∧ a.s ≤ b * N) (hN : b * (N + g.length : Nat) ≤ 9223372036854775807) :
    g.foldl (fun a p => stepA a p.v) a = ⟨a.at_, a.n + g.length, a.s + sumF g, minF a.lo g, maxF a.hi g⟩ := by
  induction g generalizing a N with
  | nil => simp [sumF, minF, maxF]
  | cons p r ih =>
    obtain ⟨h1, h2⟩ := small_cons.1 h
    have e1 : b * (N + (p :: r).length : Nat) = b * ((N + 1) + r.length : Nat) := by rw [List.length_cons]; congr 2; omega
    have e2 : b * ((N + 1 : Nat) : Int) = b * (N : Nat) + b := by rw [Int.natCast_add, Int.mul_add]; simp
    have e3 : b * ((N + 1 : Nat) : Int) ≤ b * ((N + 1) + r.length : Nat) := Int.mul_le_mul_of_nonneg_left (by omega) hb
    have hsat : sat (a.s + p.v) = a.s + p.v := sat_in (by omega) (by omega)
    have hst : stepA a p.v = ⟨a.at_, a.n + 1, a.s + p.v, if p.v < a.lo then p.v else a.lo, if a.hi < p.v then p.v else a.hi⟩ := by
      unfold stepA
      rw [if_neg (by omega), hsat]
    rw [List.foldl_cons, hst, ih (N := N + 1) (by simp only; omega) h2 (by simp only; omega) (by omega)]
    have e4 : sumF (p :: r) = p.v + sumF r := by simp [sumF]
    rw [e4]
    simp only [List.length_cons, Int.natCast_add]
    refine congr (congr (congr (congr (congrArg Ag.mk rfl) (by omega)) (by omega)) rfl) rfl
theorem ofA_is {b : Int} (hb : 0 ≤ b) {k : Int} {p : Pt} {r : List Pt} (h : SmallV b (p :: r)) (hN : b * ((p :: r).length : Nat) ≤ 9223372036854775807) :
    ofA k (p :: r) = ⟨k, (p :: r).length, sumF (p :: r), minF p.v r, maxF p.v r⟩ := by
  obtain ⟨h1, h2⟩ := small_cons.1 h
  unfold ofA
  have e : stepA (noAg k) p.v = ⟨k, 1, p.v, p.v, p.v⟩ := by unfold stepA noAg; rw [if_pos rfl]
  rw [List.foldl_cons, e, step_fold hb (N := 1) (by simp) h2 (by simp only; omega) (by rw [List.length_cons] at hN; rw [Nat.add_comm]; exact hN)]
  have e4 : sumF (p :: r) = p.v + sumF r := by simp [sumF]
  rw [e4]
  simp only [List.length_cons, Int.natCast_add]
  refine congr (congr (congr (congr (congrArg Ag.mk rfl) (by omega)) rfl) rfl) rfl
theorem sumF_append (g h : List Pt) : sumF (g ++ h) = sumF g + sumF h := by simp [sumF]
/-- aggregates joined are the aggregate of all -/
theorem join_parts {b : Int} (hb : 0 ≤ b) {L : List (Int × List Pt)} (hne : ∀ e ∈ L, e.2 ≠ []) (h : SmallV b (L.flatMap Prod.snd)) {a : Ag} (ha : 1 ≤ a.n) {N : Nat} (hs : -(b * N) ≤ a.s ∧ a.s ≤ b * N) (hn : a.n ≤ N) (hN : b * (N + (L.flatMap Prod.snd).length : Nat) ≤ 9223372036854775807) (hN2 : N + (L.flatMap Prod.snd).length ≤ 1000000) :
    (L.map fun e => ofA e.1 e.2).foldl joinStep (some a) = some ((L.flatMap Prod.snd).foldl (fun a p => stepA a p.v) a) := by
  induction L generalizing a N with
  | nil => rfl
  | cons e T ih =>
    obtain ⟨k, g⟩ := e
    rw [List.flatMap_cons] at h hN hN2 ⊢
    simp only at h hN hN2 ⊢
    obtain ⟨p, r, rfl⟩ : ∃ p r, g = p :: r := by
      cases g with
      | nil => exact absurd rfl (hne (k, []) (by simp))
      | cons p r => exact ⟨p, r, rfl⟩
    have hg : SmallV b (p :: r) := fun q hq => h q (List.mem_append_left _ hq)
    have ht : SmallV b (T.flatMap Prod.snd) := fun q hq => h q (List.mem_append_right _ hq)
    rw [List.length_append] at hN hN2
    have m1 : b * ((p :: r).length : Nat) ≤ b * (N + ((p :: r).length + (T.flatMap Prod.snd).length) : Nat) := Int.mul_le_mul_of_nonneg_left (by omega) hb
    have m2 : b * ((N + (p :: r).length : Nat) : Int) ≤ b * (N + ((p :: r).length + (T.flatMap Prod.snd).length) : Nat) := Int.mul_le_mul_of_nonneg_left (by omega) hb
    have m3 : b * ((N + (p :: r).length : Nat) : Int) = b * (N : Nat) + b * ((p :: r).length : Nat) := by rw [Int.natCast_add, Int.mul_add]
    have hsum := sum_small hg
    have e1 : (p :: r).foldl (fun a p => stepA a p.v) a = ⟨a.at_, a.n + (p :: r).length, a.s + sumF (p :: r), minF a.lo (p :: r), maxF a.hi (p :: r)⟩ := step_fold hb ha hg hs (by omega)
    have e2 : joinStep (some a) (ofA k (p :: r)) = some ((p :: r).foldl (fun a p => stepA a p.v) a) := by
      rw [ofA_is hb hg (by omega), e1]
      unfold joinStep
      rw [if_neg (by simp only [List.length_cons]; omega)]
      simp only
      unfold joinA2
      simp only
      rw [sat_in (x := a.n + ((p :: r).length : Nat)) (by omega) (by omega), sat_in (x := a.s + sumF (p :: r)) (by omega) (by omega)]
      have mm : minF a.lo (p :: r) = if minF p.v r < a.lo then minF p.v r else a.lo := minF_min a.lo p.v r
      have mx : maxF a.hi (p :: r) = if a.hi < maxF p.v r then maxF p.v r else a.hi := maxF_max a.hi p.v r
      rw [mm, mx]
    rw [List.map_cons, List.foldl_cons, e2, List.foldl_append]
    refine ih (fun e he => hne e (List.mem_cons_of_mem _ he)) ht (N := N + (p :: r).length) ?_ ?_ ?_ ?_ ?_
    · rw [e1]; simp only; omega
    · rw [e1]; simp only; omega
    · rw [e1]; simp only; omega
    · rw [Nat.add_assoc]; exact hN
    · omega
theorem join_runs {b : Int} (hb : 0 ≤ b) (f : Pt → Int) (k : Int) {g : List Pt} (hg : g ≠ []) (h : SmallV b g) (hN : b * (g.length : Nat) ≤ 9223372036854775807) (hN2 : g.length ≤ 1000000) :
    joinA k ((runs f g).map fun e => ofA e.1 e.2) = some (ofA k g) := by
  have hall := runs_all f g
  have hkeys := runs_keys f g
  cases hr : runs f g with
  | nil => exact absurd ((runs_nil_iff f g).1 hr) hg
  | cons e T =>
    obtain ⟨k0, g0⟩ := e
    rw [hr] at hall hkeys
    rw [List.flatMap_cons] at hall
    simp only at hall
    obtain ⟨p, r, rfl⟩ : ∃ p r, g0 = p :: r := by
      cases g0 with
      | nil => exact absurd rfl (hkeys (k0, []) (by simp)).1
      | cons p r => exact ⟨p, r, rfl⟩
    subst hall
    have hg0 : SmallV b (p :: r) := fun q hq => h q (List.mem_append_left _ hq)
    have ht : SmallV b (T.flatMap Prod.snd) := fun q hq => h q (List.mem_append_right _ hq)
    rw [List.length_append] at hN hN2
    have m1 : b * ((p :: r).length : Nat) ≤ b * ((p :: r).length + (T.flatMap Prod.snd).length : Nat) := Int.mul_le_mul_of_nonneg_left (by omega) hb
    have hsum := sum_small hg0
    have e1 := ofA_is hb (k := k0) hg0 (by omega)
    unfold joinA
    rw [List.map_cons, List.foldl_cons]
    have e2 : joinStep none (ofA k0 (p :: r)) = some (ofA k0 (p :: r)) := by
      rw [e1]; unfold joinStep; rw [if_neg (by simp only [List.length_cons]; omega)]
    rw [e2, join_parts hb (fun e he => (hkeys e (List.mem_cons_of_mem _ he)).1) ht (N := (p :: r).length) (by rw [e1]; simp only [List.length_cons]; omega) (by rw [e1]; exact hsum) (by rw [e1]; exact Int.le_refl _) hN hN2]
    simp only [Option.map_some]
    congr 1
    -- where it begins counts for nothing else
    have hat : ∀ (l : List Pt) (a : Ag), ({ l.foldl (fun a p => stepA a p.v) a with at_ := k } : Ag) = l.foldl (fun a p => stepA a p.v) { a with at_ := k } := fun l => by
      induction l with
      | nil => intro a; rfl
      | cons q l ih =>
        intro a
        rw [List.foldl_cons, List.foldl_cons, ih]
        congr 1
        unfold stepA
        by_cases h0 : a.n = 0
        · rw [if_pos h0, if_pos h0]
        · rw [if_neg h0, if_neg h0]
    rw [hat]
    unfold ofA
    rw [hat, ← List.foldl_append]
    rfl
/-- WIDE WINDOWS BY NARROW ONES -/
theorem wide_narrow {b : Int} (hb : 0 ≤ b) (f g : Pt → Int) (F : Int → Int) (hF : ∀ x, F (f x) = g x) {l : List Pt} (h : SmallV b l) (hN : b * (l.length : Nat) ≤ 9223372036854775807) (hN2 : l.length ≤ 1000000) :
    (runs (fun a : Ag => F a.at_) ((runs f l).map fun e => ofA e.1 e.2)).map (fun e => joinA e.1 e.2) = (runs g l).map fun e => some (ofA e.1 e.2) := by
  have hat : ∀ (k : Int) (q : List Pt), (ofA k q).at_ = k := fun k q => by
    unfold ofA
    have : ∀ (l : List Pt) (a : Ag), (l.foldl (fun a p => stepA a p.v) a).at_ = a.at_ := fun l => by
      induction l with
      | nil => intro a; rfl
      | cons p l ih =>
        intro a
        rw [List.foldl_cons, ih]
        unfold stepA
        by_cases h0 : a.n = 0
        · rw [if_pos h0]
        · rw [if_neg h0]
    rw [this]; rfl
  -- groups of the mapped list are the mapped groups
  have hmap : ∀ (L : List (Int × List Pt)), runs (fun a : Ag => F a.at_) (L.map fun e => ofA e.1 e.2) = (runs (fun e : Int × List Pt => F e.1) L).map fun E => (E.1, E.2.map fun e => ofA e.1 e.2) := fun L => by
    induction L with
    | nil => rfl
    | cons e T ih =>
      rw [List.map_cons, runs_cons, runs_cons, ih]
      cases runs (fun e : Int × List Pt => F e.1) T with
      | nil => simp [hat]
      | cons KG TT =>
        obtain ⟨K, G⟩ := KG
        simp only [List.map_cons, hat]
        by_cases hk : F e.1 = K
        · rw [if_pos hk, if_pos hk]; simp
        · rw [if_neg hk, if_neg hk]; simp
  rw [hmap, runs_wide f g F hF l, List.map_map, List.map_map]
  refine List.map_congr_left fun e he => ?_
  obtain ⟨hne, _⟩ := runs_keys g l e he
  have hsub : ∀ q ∈ e.2, q ∈ l := fun q hq => by
    rw [← runs_all g l]; exact List.mem_flatMap.2 ⟨e, he, hq⟩
  have hlen : e.2.length ≤ l.length := by
    have h1 : ∀ (L : List (Int × List Pt)), e ∈ L → e.2.length ≤ (L.flatMap Prod.snd).length := fun L hL => by
      induction L with
      | nil => simp at hL
      | cons x T ih =>
        rw [List.flatMap_cons, List.length_append]
        rcases List.mem_cons.1 hL with rfl | hL
        · omega
        · have := ih hL; omega
    have := h1 _ he
    rwa [runs_all] at this
  have m1 : b * (e.2.length : Nat) ≤ b * (l.length : Nat) := Int.mul_le_mul_of_nonneg_left (by omega) hb
  exact join_runs hb f e.1 hne (fun q hq => h q (hsub q hq)) (by omega) (by omega)
/-! ### The mean -/
theorem minF_le (m : Int) (g : List Pt) : minF m g ≤ m ∧ ∀ p ∈ g, minF m g ≤ p.v := by
  induction g generalizing m with
  | nil => exact ⟨Int.le_refl _, fun p hp => by simp at hp⟩
  | cons q r ih =>
    obtain ⟨h1, h2⟩ := ih (if q.v < m then q.v else m)
    have e : minF m (q :: r) = minF (if q.v < m then q.v else m) r := rfl
    rw [e]
    have h3 : (if q.v < m then q.v else m) ≤ m ∧ (if q.v < m then q.v else m) ≤ q.v := by split <;> omega
    refine ⟨by omega, fun p hp => ?_⟩
    rcases List.mem_cons.1 hp with rfl | hp
    · omega
    · exact h2 p hp
theorem maxF_ge (m : Int) (g : List Pt) : m ≤ maxF m g ∧ ∀ p ∈ g, p.v ≤ maxF m g := by
  induction g generalizing m with
  | nil => exact ⟨Int.le_refl _, fun p hp => by simp at hp⟩
  | cons q r ih =>
    obtain ⟨h1, h2⟩ := ih (if m < q.v then q.v else m)
    have e : maxF m (q :: r) = maxF (if m < q.v then q.v else m) r := rfl
    rw [e]
    have h3 : m ≤ (if m < q.v then q.v else m) ∧ q.v ≤ (if m < q.v then q.v else m) := by split <;> omega
    refine ⟨by omega, fun p hp => ?_⟩
    rcases List.mem_cons.1 hp with rfl | hp
    · omega
    · exact h2 p hp
theorem sum_between {c d : Int} {g : List Pt} (h : ∀ p ∈ g, c ≤ p.v ∧ p.v ≤ d) : c * g.length ≤ sumF g ∧ sumF g ≤ d * g.length := by
  induction g with
  | nil => simp [sumF]
  | cons p r ih =>
    obtain ⟨h3, h4⟩ := ih fun q hq => h q (List.mem_cons_of_mem _ hq)
    have h1 := h p (by simp)
    have e : sumF (p :: r) = p.v + sumF r := by simp [sumF]
    have e2 : ∀ b : Int, b * ((p :: r).length : Nat) = b * (r.length : Nat) + b := fun b => by
      rw [List.length_cons, Int.natCast_add, Int.mul_add]; simp
    rw [e, e2, e2]; omega
/-- the mean lies between the least and the greatest value -/
theorem mean_between {p : Pt} {r : List Pt} : minF p.v r ≤ sumF (p :: r) / ((p :: r).length : Nat) ∧ sumF (p :: r) / ((p :: r).length : Nat) ≤ maxF p.v r := by
  have h1 := minF_le p.v r
  have h2 := maxF_ge p.v r
  have hb := sum_between (c := minF p.v r) (d := maxF p.v r) (g := p :: r) fun q hq => by
    rcases List.mem_cons.1 hq with rfl | hq
    · exact ⟨h1.1, h2.1⟩
    · exact ⟨h1.2 q hq, h2.2 q hq⟩
  have hn : (0 : Int) < ((p :: r).length : Nat) := by rw [List.length_cons]; omega
  constructor
  · exact (Int.le_ediv_iff_mul_le hn).2 hb.1
  · have h3 : sumF (p :: r) / ((p :: r).length : Nat) < maxF p.v r + 1 := (Int.ediv_lt_iff_lt_mul hn).2 (by rw [Int.add_mul]; omega)
    omega
/-- how the law tells it -/
theorem mean_tells {s n : Int} (hn : 0 < n) : s / n * n ≤ s ∧ s < (s / n + 1) * n := by
  have h1 := Int.emod_add_mul_ediv s n
  have h2 := Int.emod_nonneg s (show n ≠ 0 by omega)
  have h3 := Int.emod_lt_of_pos s hn
  rw [Int.add_mul, Int.mul_comm (s / n) n]
  constructor <;> omega
end Go.Proofs.Ytdmlolagpbobeaa
