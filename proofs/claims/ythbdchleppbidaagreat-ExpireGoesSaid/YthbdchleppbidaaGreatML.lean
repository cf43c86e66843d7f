/- PoL, ExL, ExNextL: laid into one. -/
import Derived.Test.YthbdchleppbidaaGreatMA
import Derived.Test.YthbdchleppbidaaGreatMT
import Derived.Test.YthbdchleppbidaaGreatMH
/- Policies as plain numbers. No function of the program. -/
namespace Go.Proofs.YthbdchleppbidaaGreat
open Go.RowKit

/-- the number of a tier -/
def ofP (a b c k : Int) : Int := if k = 0 then a else if k = 1 then b else if k = 2 then c else 0
/-- is there a bound? -/
def someP (n now : Int) : Bool := decide (0 < n) && decide (n ≤ now)
/-- up to where it isn't kept any more -/
def boundP (n now : Int) : Int := if someP n now = true then now - n else 0
/-- isn't it kept any more? -/
def goneP (n hi now : Int) : Bool := someP n now && decide (hi ≤ now - n)
/-- the stricter one of two numbers -/
def lessP (x y : Int) : Int := if decide (0 < x) = decide (0 < y) then min x y else max x y
/-- may a policy be? -/
def RightP (a b c : Int) : Prop := (0 ≤ a ∧ a ≤ 1099511627776) ∧ (0 ≤ b ∧ b ≤ 1099511627776) ∧ (0 ≤ c ∧ c ≤ 1099511627776) ∧ (a = 0 → b = 0) ∧ (b = 0 → c = 0) ∧ (b = 0 ∨ a ≤ b) ∧ (c = 0 ∨ b ≤ c)
instance (a b c : Int) : Decidable (RightP a b c) := by unfold RightP; infer_instance
def rightP (a b c : Int) : Bool := decide (RightP a b c)
theorem polRight_of {a b c : Int} (h : rightP a b c = true) : RightP a b c := of_decide_eq_true h
theorem of_zero (a b c : Int) : ofP a b c 0 = a := rfl
theorem of_one (a b c : Int) : ofP a b c 1 = b := rfl
theorem of_two (a b c : Int) : ofP a b c 2 = c := rfl
theorem of_range {a b c k : Int} (ha : -9223372036854775808 ≤ a ∧ a ≤ 9223372036854775807) (hb : -9223372036854775808 ≤ b ∧ b ≤ 9223372036854775807) (hc : -9223372036854775808 ≤ c ∧ c ≤ 9223372036854775807) :
    -9223372036854775808 ≤ ofP a b c k ∧ ofP a b c k ≤ 9223372036854775807 := by
  unfold ofP; split
  · exact ha
  · split
    · exact hb
    · split
      · exact hc
      · omega
theorem less_range {x y lo hi : Int} (h1 : lo ≤ x ∧ x ≤ hi) (h2 : lo ≤ y ∧ y ≤ hi) : lo ≤ lessP x y ∧ lessP x y ≤ hi := by
  unfold lessP; split <;> omega
/-- of numbers that may be the stricter one is the lesser, 0 more than any -/
theorem less_may {x y : Int} (hx : 0 ≤ x) (hy : 0 ≤ y) : lessP x y = if x = 0 then y else if y = 0 then x else min x y := by
  unfold lessP
  by_cases h1 : x = 0
  · subst h1
    by_cases h2 : y = 0
    · subst h2; rfl
    · rw [if_neg (by rw [decide_eq_false (by omega), decide_eq_true (by omega)]; simp), if_pos rfl]; omega
  · by_cases h2 : y = 0
    · subst h2
      rw [if_neg (by rw [decide_eq_true (by omega), decide_eq_false (by omega)]; simp), if_neg h1, if_pos rfl]; omega
    · rw [if_pos (by rw [decide_eq_true (by omega), decide_eq_true (by omega)]), if_neg h1, if_neg h2]
/-- the stricter one of two that may be may be -/
theorem right_less {a b c x y z : Int} (h1 : RightP a b c) (h2 : RightP x y z) : RightP (lessP a x) (lessP b y) (lessP c z) := by
  obtain ⟨p1, p2, p3, p4, p5, p6, p7⟩ := h1
  obtain ⟨q1, q2, q3, q4, q5, q6, q7⟩ := h2
  rw [less_may p1.1 q1.1, less_may p2.1 q2.1, less_may p3.1 q3.1]
  unfold RightP
  refine ⟨?_, ?_, ?_, ?_, ?_, ?_, ?_⟩ <;> (repeat' split) <;> omega
/-- what is gone by one of two is gone by the stricter one, and nothing else -/
theorem gone_less {m n : Int} (hm : 0 ≤ m) (hn : 0 ≤ n) (hi now : Int) : goneP (lessP m n) hi now = (goneP m hi now || goneP n hi now) := by
  rw [less_may hm hn]
  unfold goneP someP
  by_cases h1 : m = 0
  · subst h1; simp
  · by_cases h2 : n = 0
    · subst h2; simp [h1]
    · rw [if_neg h1, if_neg h2, Bool.eq_iff_iff]
      simp only [Bool.or_eq_true, Bool.and_eq_true, decide_eq_true_eq]
      omega
/-- what is gone stays so -/
theorem gone_later {n hi now x : Int} (hx : 0 ≤ x) (h : goneP n hi now = true) : goneP n hi (now + x) = true := by
  unfold goneP someP at *
  simp only [Bool.and_eq_true, decide_eq_true_eq] at *
  omega
/-- what is gone by a greater number is gone by a lesser one above 0 -/
theorem gone_wider {m n hi now : Int} (hm : 0 < m ∨ n ≤ 0) (h : n ≤ 0 ∨ m ≤ n) (hg : goneP n hi now = true) : goneP m hi now = true := by
  unfold goneP someP at *
  simp only [Bool.and_eq_true, decide_eq_true_eq] at *
  omega
end Go.Proofs.YthbdchleppbidaaGreat
/- What goes by itself, plainly. No function of the program. -/
namespace Go.Proofs.YthbdchleppbidaaGreat
open Go.RowKit

/-- below the mark, as far as a tier has one -/
def belowX (s : Stk) (t til : Int) : Bool := if t = 0 then decide (til ≤ s.mm) else if t = 1 then decide (til ≤ s.ml) else true
/-- does what begins at a tick go? -/
def goX (s : Stk) (m : List Hld) (sr : ByteArray) (a b c now t x : Int) : Bool := belowX s t (endW t x) && (goneP (ofP a b c t) (endW t x) now && !(someH m sr fun p q => meetsR p q (startW t x) (endW t x)))
/-- is it refused? -/
def badX (a b c now : Int) : Bool := !rightP a b c || !(decide (0 ≤ now) && decide (now ≤ 1099511627776))
/-- what stays -/
def stayX (s : Stk) (m : List Hld) (sr : ByteArray) (a b c now : Int) : Stk :=
  ⟨s.raw.filter fun q => !goX s m sr a b c now 0 q.a, s.mid.filter fun x => !goX s m sr a b c now 1 x.at_, s.long.filter fun x => !goX s m sr a b c now 2 x.at_, s.mm, s.ml⟩
def serX (s : Stk) (m : List Hld) (sr : ByteArray) (a b c now : Int) : Stk := if badX a b c now = true then s else stayX s m sr a b c now
def errX (a b c now : Int) : Int := if badX a b c now = true then 1 else 0
/-- how many of each tier went -/
def wentX (s s' : Stk) : Value := .agg #[.int .i64 ((s.raw.length - s'.raw.length : Nat) : Int), .int .i64 ((s.mid.length - s'.mid.length : Nat) : Int), .int .i64 ((s.long.length - s'.long.length : Nat) : Int)]
theorem GoodA.filterX {w m : Int} {l : List Ag} (h : GoodA w m l) (p : Ag → Bool) : GoodA w m (l.filter p) :=
  ⟨fun t ht => h.right t (List.mem_filter.1 ht).1, fun t ht => h.fits t (List.mem_filter.1 ht).1, fun t ht => h.beg t (List.mem_filter.1 ht).1, h.up.filter p, Nat.le_trans (List.length_filter_le _ _) h.len⟩
theorem stay_good {s : Stk} (h : GoodT s) (m : List Hld) (sr : ByteArray) (a b c now : Int) : GoodT (stayX s m sr a b c now) :=
  ⟨filter_srt h.srt _, fun p hp => h.tick p (List.mem_filter.1 hp).1, fun p hp => h.pfits p (List.mem_filter.1 hp).1, Nat.le_trans (List.length_filter_le _ _) h.plen, h.mid.filterX _, h.long.filterX _, h.mm, h.ml⟩
theorem ser_good {s : Stk} (h : GoodT s) (m : List Hld) (sr : ByteArray) (a b c now : Int) : GoodT (serX s m sr a b c now) := by
  unfold serX; split
  · exact h
  · exact stay_good h ..
theorem meets_swap (a b c d : Int) : meetsR a b c d = meetsR c d a b := by
  unfold meetsR; rw [Int.max_comm, Int.min_comm]
theorem raw_win {x : Int} (h : 0 ≤ x ∧ x ≤ 1099511627776) : startW 0 x = x ∧ endW 0 x = x + 1 := by
  have e1 : hasW 0 x = true := by unfold hasW widthW; rw [if_pos rfl, decide_eq_true (show (0 : Int) < 1 by omega), decide_eq_true h.1]; rfl
  have e2 : startW 0 x = x := by unfold startW widthW; rw [if_pos e1, if_pos rfl]; omega
  exact ⟨e2, by unfold endW; rw [if_pos e1, e2]; unfold widthW; rw [if_pos rfl]; omega⟩
/-- one hold of all series -/
theorem some_oneX (n : ByteArray) (ra rb : Int) (sr : ByteArray) (c d : Int) : someH [⟨n, ⟨#[]⟩, ra, rb⟩] sr (fun p q => meetsR p q c d) = meetsR ra rb c d := by
  unfold someH ofH
  rw [List.any_cons, List.any_nil, Bool.or_false]
  rw [show decide ((⟨n, ⟨#[]⟩, ra, rb⟩ : Hld).ser.size = 0) = true from rfl, Bool.true_or, Bool.true_and]
/-- what a hold meets stays -/
theorem held_raw {s : Stk} (h : GoodT s) {n sr : ByteArray} {ra rb a b c now : Int} : getL (serX s [⟨n, ⟨#[]⟩, ra, rb⟩] sr a b c now).raw ra rb = getL s.raw ra rb := by
  unfold serX; split
  · rfl
  · unfold stayX getL
    dsimp only
    rw [List.filter_filter]
    refine List.filter_congr fun q hq => ?_
    have ht := raw_win (h.tick q hq)
    cases hc : (decide (ra ≤ q.a) && decide (q.a < rb)) with
    | false => rfl
    | true =>
      rw [Bool.true_and]
      unfold goX
      rw [some_oneX, ht.1, ht.2]
      have : meetsR ra rb q.a (q.a + 1) = true := by
        unfold meetsR
        simp only [Bool.and_eq_true, decide_eq_true_eq] at hc
        exact decide_eq_true (by omega)
      rw [this]; simp
theorem held_ags {W t m : Int} {l : List Ag} (ht : t = 1 ∧ W = 300 ∨ t = 2 ∧ W = 3600) (hg : GoodA W m l) (hm : m ≤ 1099511631376) {s : Stk} {n sr : ByteArray} {ra rb a b c now : Int} :
    (l.filter fun x => !goX s [⟨n, ⟨#[]⟩, ra, rb⟩] sr a b c now t x.at_).filter (fun x => decide (ra < rb) && metA W ra rb x.at_) = l.filter fun x => decide (ra < rb) && metA W ra rb x.at_ := by
  rw [List.filter_filter]
  refine List.filter_congr fun x hx => ?_
  have hq := met_win (a := ra) (b := rb) ht hg hm hx
  cases hc : (decide (ra < rb) && metA W ra rb x.at_) with
  | false => rfl
  | true =>
    rw [Bool.true_and]
    unfold goX
    rw [some_oneX, hq.1, hq.2.1, meets_swap, hq.2.2, hc]; simp
theorem held_mid {s : Stk} (h : GoodT s) {n sr : ByteArray} {ra rb a b c now : Int} : aggsT (serX s [⟨n, ⟨#[]⟩, ra, rb⟩] sr a b c now) 1 ra rb = aggsT s 1 ra rb := by
  unfold serX; split
  · rfl
  · exact held_ags (.inl ⟨rfl, rfl⟩) h.mid h.mm.2.1
theorem held_long {s : Stk} (h : GoodT s) {n sr : ByteArray} {ra rb a b c now : Int} : aggsT (serX s [⟨n, ⟨#[]⟩, ra, rb⟩] sr a b c now) 2 ra rb = aggsT s 2 ra rb := by
  unfold serX; split
  · rfl
  · exact held_ags (.inr ⟨rfl, rfl⟩) h.long (by have := h.mm.2.1; have := h.ml.2.1; omega)
/-- at one tick behind the other -/
def manyX (s : Stk) (m : List Hld) (sr : ByteArray) (a b c : Int) (ticks : List Int) : Stk := ticks.foldl (fun s now => serX s m sr a b c now) s
theorem manyX_snoc (s : Stk) (m : List Hld) (sr : ByteArray) (a b c : Int) (ticks : List Int) (x : Int) : manyX s m sr a b c (ticks ++ [x]) = serX (manyX s m sr a b c ticks) m sr a b c x := by unfold manyX; rw [List.foldl_append]; rfl
theorem many_good {s : Stk} (h : GoodT s) (m : List Hld) (sr : ByteArray) (a b c : Int) (ticks : List Int) : GoodT (manyX s m sr a b c ticks) := by
  unfold manyX
  induction ticks generalizing s with
  | nil => exact h
  | cons x r ih => exact ih (ser_good h m sr a b c x)
theorem many_held {s : Stk} (h : GoodT s) {n sr : ByteArray} {ra rb a b c : Int} (ticks : List Int) :
    getL (manyX s [⟨n, ⟨#[]⟩, ra, rb⟩] sr a b c ticks).raw ra rb = getL s.raw ra rb ∧ aggsT (manyX s [⟨n, ⟨#[]⟩, ra, rb⟩] sr a b c ticks) 1 ra rb = aggsT s 1 ra rb ∧ aggsT (manyX s [⟨n, ⟨#[]⟩, ra, rb⟩] sr a b c ticks) 2 ra rb = aggsT s 2 ra rb := by
  unfold manyX
  induction ticks generalizing s with
  | nil => exact ⟨rfl, rfl, rfl⟩
  | cons x r ih =>
    have := ih (ser_good h [⟨n, ⟨#[]⟩, ra, rb⟩] sr a b c x)
    exact ⟨this.1.trans (held_raw h), this.2.1.trans (held_mid h), this.2.2.trans (held_long h)⟩
end Go.Proofs.YthbdchleppbidaaGreat
/- The tick that is told next, plainly. No function of the program. -/
namespace Go.Proofs.YthbdchleppbidaaGreat
open Go.RowKit

/-- the first one that a tier has -/
def firstX (s : Stk) (t : Int) : Option Int := if t = 0 then s.raw.head?.map Pt.a else if t = 1 then s.mid.head?.map Ag.at_ else if t = 2 then s.long.head?.map Ag.at_ else none
/-- from which tick on what ends there is gone -/
def sinceX (n til : Int) : Option Int := if 0 < n ∧ til ≤ 9223372036854775807 - n then some (til + n) else none
def tickX (s : Stk) (a b c t : Int) : Option Int := (firstX s t).bind fun x => sinceX (ofP a b c t) (endW t x)
def nextL (s : Stk) (a b c : Int) : List Int := (tickX s a b c 0).toList ++ (tickX s a b c 1).toList ++ (tickX s a b c 2).toList
def minL : List Int → Int
  | [] => 0
  | x :: r => r.foldl min x
theorem foldl_min (l : List Int) : ∀ x : Int, (l.foldl min x ≤ x ∧ ∀ y ∈ l, l.foldl min x ≤ y) ∧ (l.foldl min x = x ∨ l.foldl min x ∈ l) := by
  induction l with
  | nil => intro x; exact ⟨⟨Int.le_refl _, fun y h => by cases h⟩, .inl rfl⟩
  | cons z r ih =>
    intro x
    obtain ⟨⟨h1, h2⟩, h3⟩ := ih (min x z)
    rw [List.foldl_cons]
    refine ⟨⟨by omega, fun y hy => ?_⟩, ?_⟩
    · rcases List.mem_cons.1 hy with rfl | hy
      · omega
      · exact h2 y hy
    · rcases h3 with h3 | h3
      · rw [h3]
        rcases Int.le_total x z with h | h
        · rw [Int.min_eq_left h]; exact .inl rfl
        · rw [Int.min_eq_right h]; exact .inr List.mem_cons_self
      · exact .inr (List.mem_cons_of_mem _ h3)
theorem minL_le {l : List Int} {y : Int} (h : y ∈ l) : minL l ≤ y := by
  cases l with
  | nil => cases h
  | cons x r =>
    rcases List.mem_cons.1 h with rfl | h
    · exact (foldl_min r _).1.1
    · exact (foldl_min r x).1.2 y h
theorem minL_mem {l : List Int} (h : l ≠ []) : minL l ∈ l := by
  cases l with
  | nil => exact absurd rfl h
  | cons x r =>
    rcases (foldl_min r x).2 with h | h
    · show r.foldl min x ∈ _; rw [h]; exact List.mem_cons_self
    · exact List.mem_cons_of_mem _ h
theorem mem_next {s : Stk} {a b c y : Int} : y ∈ nextL s a b c ↔ tickX s a b c 0 = some y ∨ tickX s a b c 1 = some y ∨ tickX s a b c 2 = some y := by
  unfold nextL
  rw [List.mem_append, List.mem_append, Option.mem_toList, Option.mem_toList, Option.mem_toList, or_assoc]
/-- where windows end -/
theorem end_raw {s : Stk} (h : GoodT s) {q : Pt} (hq : q ∈ s.raw) : endW 0 q.a = q.a + 1 ∧ startW 0 q.a = q.a := ⟨(raw_win (h.tick q hq)).2, (raw_win (h.tick q hq)).1⟩
theorem end_mid {s : Stk} (h : GoodT s) {x : Ag} (hx : x ∈ s.mid) : endW 1 x.at_ = x.at_ + 300 := (met_win (a := 0) (b := 0) (.inl ⟨rfl, rfl⟩) h.mid h.mm.2.1 hx).2.1
theorem end_long {s : Stk} (h : GoodT s) {x : Ag} (hx : x ∈ s.long) : endW 2 x.at_ = x.at_ + 3600 := (met_win (a := 0) (b := 0) (.inr ⟨rfl, rfl⟩) h.long (by have := h.mm.2.1; have := h.ml.2.1; omega) hx).2.1
theorem since_some {n til now : Int} (hg : goneP n til now = true) (hn : now ≤ 1099511627776) : sinceX n til = some (til + n) ∧ til + n ≤ now := by
  unfold goneP someP at hg
  simp only [Bool.and_eq_true, decide_eq_true_eq] at hg
  unfold sinceX
  rw [if_pos (by omega)]
  exact ⟨rfl, by omega⟩
theorem since_less {n til til' now : Int} (hg : goneP n til' now = true) (hl : til ≤ til') : goneP n til now = true := by
  unfold goneP at *
  simp only [Bool.and_eq_true, decide_eq_true_eq] at *
  exact ⟨hg.1, by omega⟩
/-- what begins first, of what rises -/
theorem head_le {α : Type} {l : List α} {f : α → Int} (h : l.Pairwise fun x y => f x < f y) {x : α} (hx : x ∈ l) : ∃ y r, l = y :: r ∧ f y ≤ f x := by
  cases l with
  | nil => cases hx
  | cons y r =>
    refine ⟨y, r, rfl, ?_⟩
    rcases List.mem_cons.1 hx with rfl | hx
    · exact Int.le_refl _
    · exact Int.le_of_lt ((List.pairwise_cons.1 h).1 x hx)
theorem go_gone {s : Stk} {sr : ByteArray} {a b c now t x : Int} (h : goX s [] sr a b c now t x = true) : goneP (ofP a b c t) (endW t x) now = true := by
  unfold goX at h
  simp only [Bool.and_eq_true] at h
  exact h.2.1
theorem srt_lt {l : List Pt} (h : Srt l) : l.Pairwise fun p q => p.a < q.a := h
/-- ahead of all that are told nothing goes -/
theorem ser_still {s : Stk} (h : GoodT s) {sr : ByteArray} {a b c now : Int} (hn : now ≤ 1099511627776) (hb : ∀ y ∈ nextL s a b c, now < y) : serX s [] sr a b c now = s := by
  unfold serX
  split
  · rfl
  unfold stayX
  have r : s.raw.filter (fun q => !goX s [] sr a b c now 0 q.a) = s.raw := by
    refine List.filter_eq_self.2 fun q hq => ?_
    cases hg : goX s [] sr a b c now 0 q.a with
    | false => rfl
    | true =>
      exfalso
      obtain ⟨y, r, hl, hle⟩ := head_le (f := Pt.a) (srt_lt h.srt) hq
      have hy : y ∈ s.raw := by rw [hl]; exact List.mem_cons_self
      have h1 := since_less (til := endW 0 y.a) (go_gone hg) (by rw [(end_raw h hq).1, (end_raw h hy).1]; omega)
      obtain ⟨h2, h3⟩ := since_some h1 hn
      have h4 := hb (endW 0 y.a + ofP a b c 0) (mem_next.2 (.inl (by unfold tickX firstX; rw [if_pos rfl, hl]; exact h2)))
      omega
  have m : s.mid.filter (fun x => !goX s [] sr a b c now 1 x.at_) = s.mid := by
    refine List.filter_eq_self.2 fun q hq => ?_
    cases hg : goX s [] sr a b c now 1 q.at_ with
    | false => rfl
    | true =>
      exfalso
      obtain ⟨y, r, hl, hle⟩ := head_le (f := Ag.at_) h.mid.up hq
      have hy : y ∈ s.mid := by rw [hl]; exact List.mem_cons_self
      have h1 := since_less (til := endW 1 y.at_) (go_gone hg) (by rw [end_mid h hq, end_mid h hy]; omega)
      obtain ⟨h2, h3⟩ := since_some h1 hn
      have h4 := hb (endW 1 y.at_ + ofP a b c 1) (mem_next.2 (.inr (.inl (by unfold tickX firstX; rw [if_neg (by omega), if_pos rfl, hl]; exact h2))))
      omega
  have l : s.long.filter (fun x => !goX s [] sr a b c now 2 x.at_) = s.long := by
    refine List.filter_eq_self.2 fun q hq => ?_
    cases hg : goX s [] sr a b c now 2 q.at_ with
    | false => rfl
    | true =>
      exfalso
      obtain ⟨y, r, hl, hle⟩ := head_le (f := Ag.at_) h.long.up hq
      have hy : y ∈ s.long := by rw [hl]; exact List.mem_cons_self
      have h1 := since_less (til := endW 2 y.at_) (go_gone hg) (by rw [end_long h hq, end_long h hy]; omega)
      obtain ⟨h2, h3⟩ := since_some h1 hn
      have h4 := hb (endW 2 y.at_ + ofP a b c 2) (mem_next.2 (.inr (.inr (by unfold tickX firstX; rw [if_neg (by omega), if_neg (by omega), if_pos rfl, hl]; exact h2))))
      omega
  rw [r, m, l]
theorem end_posX (t x : Int) : 0 ≤ endW t x := by
  unfold endW startW
  split
  · rename_i h1
    unfold hasW at h1
    rw [Bool.and_eq_true, decide_eq_true_eq, decide_eq_true_eq] at h1
    have h2 := Int.emod_nonneg x (show widthW t ≠ 0 by omega)
    have h3 := Int.mul_ediv_add_emod x (widthW t)
    have h4 : 0 ≤ x / widthW t := Int.ediv_nonneg h1.2 (by omega)
    have h5 : 0 ≤ widthW t * (x / widthW t) := Int.mul_nonneg (by omega) h4
    have h6 : widthW t ≤ 3600 := by unfold widthW; split <;> (try split) <;> (try split) <;> omega
    omega
  · omega
theorem went_same (s : Stk) : wentX s s = .agg #[.int .i64 0, .int .i64 0, .int .i64 0] := by
  unfold wentX
  rw [Nat.sub_self, Nat.sub_self, Nat.sub_self]; rfl
theorem tick_some {s : Stk} {a b c t y : Int} (h : tickX s a b c t = some y) : ∃ x, firstX s t = some x ∧ 0 < ofP a b c t ∧ y = endW t x + ofP a b c t := by
  unfold tickX at h
  obtain ⟨x, h1, h2⟩ := Option.bind_eq_some_iff.1 h
  refine ⟨x, h1, ?_⟩
  unfold sinceX at h2
  split at h2
  · rename_i h3
    injection h2 with h2
    exact ⟨h3.1, h2.symm⟩
  · cases h2
theorem drop_less {α : Type} {l : List α} {f : α → Bool} {x : α} (hx : x ∈ l) (hf : f x = true) : (l.filter fun y => !f y).length < l.length := by
  refine Nat.lt_of_le_of_ne (List.length_filter_le _ _) fun e => ?_
  have := List.length_filter_eq_length_iff.1 e x hx
  rw [hf] at this; cases this
/-- at the tick that is told something goes, or isn't rolled yet -/
theorem next_goes {s : Stk} (h : GoodT s) {sr : ByteArray} {a b c : Int} (hr : RightP a b c) (hne : nextL s a b c ≠ []) (hat : minL (nextL s a b c) ≤ 1099511627776) {c0 c1 c2 : Int} (hw : wentX s (serX s [] sr a b c (minL (nextL s a b c))) = .agg #[.int .i64 c0, .int .i64 c1, .int .i64 c2]) :
    (c0 == 0 && (c1 == 0 && c2 == 0)) = false ∨ (getL s.raw 0 1099511627777).any (fun q => decide (s.mm ≤ q.a)) = true ∨ (aggsT s 1 0 1099511627777).any (fun x => decide (s.ml ≤ x.at_)) = true := by
  obtain ⟨N, hN⟩ : ∃ N, N = minL (nextL s a b c) := ⟨_, rfl⟩
  rw [← hN] at hat hw
  have hmem := minL_mem hne
  rw [← hN] at hmem
  have hof : ∀ t x, firstX s t = some x → 0 ≤ endW t x := fun t x _ => by
    unfold endW startW
    split
    · rename_i h1
      unfold hasW at h1
      rw [Bool.and_eq_true, decide_eq_true_eq, decide_eq_true_eq] at h1
      have h2 := Int.emod_nonneg x (show widthW t ≠ 0 by omega)
      have h3 := Int.mul_ediv_add_emod x (widthW t)
      have h4 : 0 ≤ x / widthW t := Int.ediv_nonneg h1.2 (by omega)
      have h5 : 0 ≤ widthW t * (x / widthW t) := Int.mul_nonneg (by omega) h4
      have h6 : widthW t ≤ 3600 := by unfold widthW; split <;> (try split) <;> (try split) <;> omega
      omega
    · omega
  have hser : 0 ≤ N → serX s [] sr a b c N = stayX s [] sr a b c N := fun h0 => by
    unfold serX
    rw [if_neg]
    unfold badX rightP
    rw [decide_eq_true hr, decide_eq_true h0, decide_eq_true hat]; simp
  have hgo : ∀ t x, 0 < ofP a b c t → N = endW t x + ofP a b c t → 0 ≤ endW t x → belowX s t (endW t x) = true → goX s [] sr a b c N t x = true := fun t x h1 h2 h3 h4 => by
    unfold goX goneP someP
    rw [h4]
    rw [decide_eq_true h1, decide_eq_true (show ofP a b c t ≤ N by omega), decide_eq_true (show endW t x ≤ N - ofP a b c t by omega)]
    rfl
  have hcnt : ∀ {k : Nat} {x y z : Int}, (x = k ∨ y = k ∨ z = k) → 0 < k → (x == 0 && (y == 0 && z == 0)) = false := fun {k x y z} h1 h2 => by
    rw [Bool.eq_false_iff]
    intro h3
    simp only [Bool.and_eq_true, beq_iff_eq] at h3
    omega
  rcases mem_next.1 hmem with h1 | h1 | h1
  · obtain ⟨x, hx, hn, hy⟩ := tick_some h1
    have h0 := hof 0 x hx
    unfold firstX at hx
    rw [if_pos rfl] at hx
    obtain ⟨q, hq, rfl⟩ := Option.map_eq_some_iff.1 hx
    have hq := List.mem_of_head? hq
    have he := (end_raw h hq).1
    by_cases hb : q.a + 1 ≤ s.mm
    · left
      have hg := hgo 0 q.a hn hy h0 (by unfold belowX; rw [if_pos rfl, he]; exact decide_eq_true hb)
      rw [hser (by omega)] at hw
      unfold wentX stayX at hw
      simp only [Value.agg.injEq, Array.mk.injEq, List.cons.injEq, Value.int.injEq, true_and, and_true] at hw
      have := drop_less (f := fun q : Pt => goX s [] sr a b c N 0 q.a) hq hg
      exact hcnt (.inl hw.1.symm) (by omega)
    · right; left
      refine List.any_eq_true.2 ⟨q, List.mem_filter.2 ⟨hq, ?_⟩, decide_eq_true (by omega)⟩
      have := h.tick q hq
      rw [decide_eq_true (by omega), decide_eq_true (by omega)]; rfl
  · obtain ⟨x, hx, hn, hy⟩ := tick_some h1
    have h0 := hof 1 x hx
    unfold firstX at hx
    rw [if_neg (by omega), if_pos rfl] at hx
    obtain ⟨q, hq, rfl⟩ := Option.map_eq_some_iff.1 hx
    have hq := List.mem_of_head? hq
    have he := end_mid h hq
    by_cases hb : q.at_ + 300 ≤ s.ml
    · left
      have hg := hgo 1 q.at_ hn hy h0 (by unfold belowX; rw [if_neg (by omega), if_pos rfl, he]; exact decide_eq_true hb)
      rw [hser (by omega)] at hw
      unfold wentX stayX at hw
      simp only [Value.agg.injEq, Array.mk.injEq, List.cons.injEq, Value.int.injEq, true_and, and_true] at hw
      have := drop_less (f := fun q : Ag => goX s [] sr a b c N 1 q.at_) hq hg
      exact hcnt (.inr (.inl hw.2.1.symm)) (by omega)
    · right; right
      have hbeg := h.mid.beg q hq
      have hml := h.ml
      refine List.any_eq_true.2 ⟨q, List.mem_filter.2 ⟨hq, ?_⟩, decide_eq_true (by omega)⟩
      unfold metA
      rw [decide_eq_true (show (0 : Int) < 1099511627777 by omega), decide_eq_true (show q.at_ < 1099511627777 by omega), decide_eq_true (show 0 < q.at_ + 300 by omega)]; rfl
  · obtain ⟨x, hx, hn, hy⟩ := tick_some h1
    have h0 := hof 2 x hx
    unfold firstX at hx
    rw [if_neg (by omega), if_neg (by omega), if_pos rfl] at hx
    obtain ⟨q, hq, rfl⟩ := Option.map_eq_some_iff.1 hx
    have hq := List.mem_of_head? hq
    left
    have hg := hgo 2 q.at_ hn hy h0 (by unfold belowX; rw [if_neg (by omega), if_neg (by omega)])
    rw [hser (by omega)] at hw
    unfold wentX stayX at hw
    simp only [Value.agg.injEq, Array.mk.injEq, List.cons.injEq, Value.int.injEq, true_and, and_true] at hw
    have := drop_less (f := fun q : Ag => goX s [] sr a b c N 2 q.at_) hq hg
    exact hcnt (.inr (.inr hw.2.2.symm)) (by omega)
end Go.Proofs.YthbdchleppbidaaGreat
