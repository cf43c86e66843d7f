/- What goes, as the law tells it, plainly. No function of the program. -/
import Derived.Test.YthbdchleppbidaaGreatML
import Derived.Test.YthbdchleppbidaaGreatZExGoes
import Derived.Test.YthbdchleppbidaaGreatZExHeld
import Derived.Test.YthbdchleppbidaaGreatZExTab
namespace Go.Proofs.YthbdchleppbidaaGreat
open Go.RowKit

theorem tabX_right (L : List Hld) : ∀ h ∈ tabX L, h.a < h.b := by
  have key : ∀ (L : List Hld) (m : List Hld), (∀ h ∈ m, h.a < h.b) → ∀ h ∈ L.foldl addM m, h.a < h.b := by
    intro L
    induction L with
    | nil => intro m h; exact h
    | cons x r ih =>
      intro m h
      refine ih _ fun y hy => ?_
      unfold addM at hy
      split at hy
      · rename_i he
        rcases List.mem_append.1 hy with hy | hy
        · exact h y hy
        · obtain rfl := List.mem_singleton.1 hy
          unfold addE at he
          split at he
          · omega
          · split at he
            · omega
            · rename_i h2
              have h3 : rightR y.a y.b = true := by simpa using h2
              unfold rightR at h3
              simp only [Bool.and_eq_true, decide_eq_true_eq] at h3
              omega
      · exact h y hy
  exact key L [] (fun h hh => by cases hh)
theorem hit_some {m : List Hld} (hm : ∀ h ∈ m, h.a < h.b) {c d : Int} (hcd : c < d) (sr : ByteArray) : m.any (hitX sr c d) = someH m sr fun p q => meetsR p q c d := by
  unfold someH
  rw [Bool.eq_iff_iff, List.any_eq_true, List.any_eq_true]
  refine exists_congr fun h => and_congr_right fun hh => ?_
  have := hm h hh
  unfold hitX meetsR
  rw [Bool.and_eq_true, Bool.and_eq_true, Bool.and_eq_true, decide_eq_true_eq, decide_eq_true_eq, decide_eq_true_eq]
  refine and_congr_right fun _ => ?_
  omega
/-- as the law asks -/
def lawX (m : List Hld) (sr : ByteArray) (n mark now x W : Int) : Bool := goesX n (x + W) mark now && !(m.any (hitX sr x (x + W)))
theorem law_go {s : Stk} {m : List Hld} (hm : ∀ h ∈ m, h.a < h.b) {sr : ByteArray} {a b c now t x W mark : Int} (hs : startW t x = x) (he : endW t x = x + W) (hW : 0 < W) (hx : 0 ≤ x) (hk : belowX s t (x + W) = decide (x + W ≤ mark)) : goX s m sr a b c now t x = lawX m sr (ofP a b c t) mark now x W := by
  unfold goX lawX
  rw [hs, he, hk, hit_some hm (show x < x + W by omega)]
  unfold goesX goneP someP
  rw [← Bool.and_assoc]
  congr 1
  rw [Bool.eq_iff_iff]
  simp only [Bool.and_eq_true, decide_eq_true_eq]
  omega
theorem count_two {α : Type} (l : List α) (f : α → Bool) : l.length - (l.filter fun x => !f x).length = (l.filter f).length := by
  induction l with
  | nil => rfl
  | cons x r ih =>
    have h1 := List.length_filter_le (fun x => !f x) r
    cases h : f x with
    | true => rw [List.filter_cons_of_neg (by simp [h]), List.filter_cons_of_pos h, List.length_cons, List.length_cons]; omega
    | false => rw [List.filter_cons_of_pos (by simp [h]), List.filter_cons_of_neg (by simp [h]), List.length_cons, List.length_cons]; omega
/-- what is left at a place is what stands there -/
theorem left_at {α : Type} {l : List α} {f : α → Bool} {k : Nat} {x : α} (hx : l[k]? = some x) (hf : f x = true) : (l.filter f)[((l.take k).filter f).length]? = some x ∧ ((l.take k).filter f).length < (l.filter f).length := by
  have h1 : l = l.take k ++ (x :: l.drop (k + 1)) := by
    have h2 := List.getElem?_eq_some_iff.1 hx
    obtain ⟨h3, h4⟩ := h2
    rw [← h4, List.getElem_cons_drop, List.take_append_drop]
  have h5 : l.filter f = (l.take k).filter f ++ (x :: (l.drop (k + 1)).filter f) := by
    conv => lhs; rw [h1]
    rw [List.filter_append, List.filter_cons_of_pos hf]
  rw [h5]
  refine ⟨?_, by rw [List.length_append, List.length_cons]; omega⟩
  rw [List.getElem?_append_right (Nat.le_refl _), Nat.sub_self]; rfl
theorem take_filter {α : Type} {l : List α} {k : Nat} {x : α} (hx : l[k]? = some x) (f : α → Bool) : (l.take (k + 1)).filter f = (l.take k).filter f ++ if f x = true then [x] else [] := by
  rw [take_snoc hx, List.filter_append]
  cases h : f x with
  | true => rw [List.filter_cons_of_pos h, if_pos rfl]; rfl
  | false => rw [List.filter_cons_of_neg (by simp [h]), if_neg (by simp)]; rfl
/-- the rows that the law looks at -/
theorem raw_left (s : Stk) (m : List Hld) (sr : ByteArray) (a b c now u v : Int) : getL (stayX s m sr a b c now).raw u v = (getL s.raw u v).filter fun q => !goX s m sr a b c now 0 q.a := by
  unfold getL stayX
  rw [List.filter_filter, List.filter_filter]
  exact List.filter_congr fun x _ => Bool.and_comm _ _
theorem mid_left (s : Stk) (m : List Hld) (sr : ByteArray) (a b c now u v : Int) : aggsT (stayX s m sr a b c now) 1 u v = (aggsT s 1 u v).filter fun q => !goX s m sr a b c now 1 q.at_ := by
  show ((s.mid.filter _).filter _) = ((s.mid.filter _).filter _)
  rw [List.filter_filter, List.filter_filter]
  exact List.filter_congr fun x _ => Bool.and_comm _ _
theorem long_left (s : Stk) (m : List Hld) (sr : ByteArray) (a b c now u v : Int) : aggsT (stayX s m sr a b c now) 2 u v = (aggsT s 2 u v).filter fun q => !goX s m sr a b c now 2 q.at_ := by
  show ((s.long.filter _).filter _) = ((s.long.filter _).filter _)
  rw [List.filter_filter, List.filter_filter]
  exact List.filter_congr fun x _ => Bool.and_comm _ _
theorem go_end {s : Stk} {m : List Hld} {sr : ByteArray} {a b c now t x : Int} (h : goX s m sr a b c now t x = true) : endW t x < now := by
  unfold goX goneP someP at h
  simp only [Bool.and_eq_true, decide_eq_true_eq] at h
  omega
/-- how many go -/
theorem went_count {s : Stk} (h : GoodT s) (m : List Hld) (sr : ByteArray) {a b c now : Int} (hb : badX a b c now = false) (hn : now ≤ 1099511627776) : wentX s (serX s m sr a b c now) =
    .agg #[.int .i64 (((getL s.raw 0 1099511627777).filter fun q => goX s m sr a b c now 0 q.a).length : Nat), .int .i64 (((aggsT s 1 0 1099511627777).filter fun q => goX s m sr a b c now 1 q.at_).length : Nat), .int .i64 (((aggsT s 2 0 1099511627777).filter fun q => goX s m sr a b c now 2 q.at_).length : Nat)] := by
  have hs : serX s m sr a b c now = stayX s m sr a b c now := by unfold serX; rw [hb, if_neg (by simp)]
  rw [hs]
  unfold wentX stayX
  dsimp only
  rw [count_two, count_two, count_two]
  have e0 : (getL s.raw 0 1099511627777).filter (fun q => goX s m sr a b c now 0 q.a) = s.raw.filter fun q => goX s m sr a b c now 0 q.a := by
    unfold getL
    rw [List.filter_filter]
    refine List.filter_congr fun q hq => ?_
    have := h.tick q hq
    rw [decide_eq_true (show 0 ≤ q.a by omega), decide_eq_true (show q.a < 1099511627777 by omega)]; simp
  have e1 : (aggsT s 1 0 1099511627777).filter (fun q => goX s m sr a b c now 1 q.at_) = s.mid.filter fun q => goX s m sr a b c now 1 q.at_ := by
    show (s.mid.filter _).filter _ = _
    rw [List.filter_filter]
    refine List.filter_congr fun q hq => ?_
    have hbeg := h.mid.beg q hq
    have he := end_mid h hq
    cases hg : goX s m sr a b c now 1 q.at_ with
    | false => rfl
    | true =>
      have := go_end hg
      unfold metA
      rw [decide_eq_true (show (0 : Int) < 1099511627777 by omega), decide_eq_true (show q.at_ < 1099511627777 by omega), decide_eq_true (show 0 < q.at_ + 300 by omega)]; rfl
  have e2 : (aggsT s 2 0 1099511627777).filter (fun q => goX s m sr a b c now 2 q.at_) = s.long.filter fun q => goX s m sr a b c now 2 q.at_ := by
    show (s.long.filter _).filter _ = _
    rw [List.filter_filter]
    refine List.filter_congr fun q hq => ?_
    have hbeg := h.long.beg q hq
    have he := end_long h hq
    cases hg : goX s m sr a b c now 2 q.at_ with
    | false => rfl
    | true =>
      have := go_end hg
      unfold metA
      rw [decide_eq_true (show (0 : Int) < 1099511627777 by omega), decide_eq_true (show q.at_ < 1099511627777 by omega), decide_eq_true (show 0 < q.at_ + 3600 by omega)]; rfl
  rw [e0, e1, e2]
/-- behind it nothing goes -/
theorem ser_twice (s : Stk) (m : List Hld) (sr : ByteArray) (a b c now : Int) : wentX (serX s m sr a b c now) (serX (serX s m sr a b c now) m sr a b c now) = .agg #[.int .i64 0, .int .i64 0, .int .i64 0] := by
  have e : serX (serX s m sr a b c now) m sr a b c now = serX s m sr a b c now := by
    by_cases hb : badX a b c now = true
    · unfold serX; rw [if_pos hb, if_pos hb]
    · have hs : ∀ s : Stk, serX s m sr a b c now = stayX s m sr a b c now := fun s => by unfold serX; rw [if_neg hb]
      rw [hs, hs]
      show (⟨(s.raw.filter _).filter _, (s.mid.filter _).filter _, (s.long.filter _).filter _, s.mm, s.ml⟩ : Stk) = ⟨s.raw.filter _, s.mid.filter _, s.long.filter _, s.mm, s.ml⟩
      rw [List.filter_filter, List.filter_filter, List.filter_filter]
      have hg : ∀ t x, goX (stayX s m sr a b c now) m sr a b c now t x = goX s m sr a b c now t x := fun _ _ => rfl
      simp only [hg, Bool.and_self]
  rw [e]
  exact went_same _
/-- each of them, as the law asks -/
theorem raw_law {s : Stk} (h : GoodT s) {m : List Hld} (hm : ∀ h ∈ m, h.a < h.b) (sr : ByteArray) (a b c now : Int) {q : Pt} (hq : q ∈ getL s.raw 0 1099511627777) : goX s m sr a b c now 0 q.a = lawX m sr (ofP a b c 0) s.mm now q.a 1 := by
  have hq := (List.mem_filter.1 hq).1
  have he := end_raw h hq
  exact law_go hm he.2 he.1 (by omega) (h.tick q hq).1 rfl
theorem mid_law {s : Stk} (h : GoodT s) {m : List Hld} (hm : ∀ h ∈ m, h.a < h.b) (sr : ByteArray) (a b c now : Int) {q : Ag} (hq : q ∈ aggsT s 1 0 1099511627777) : goX s m sr a b c now 1 q.at_ = lawX m sr (ofP a b c 1) s.ml now q.at_ 300 := by
  have hq : q ∈ s.mid := (List.mem_filter.1 hq).1
  have he := met_win (a := 0) (b := 0) (.inl ⟨rfl, rfl⟩) h.mid h.mm.2.1 hq
  exact law_go hm he.1 he.2.1 (by omega) (h.mid.beg q hq).1 rfl
theorem long_law {s : Stk} (h : GoodT s) {m : List Hld} (hm : ∀ h ∈ m, h.a < h.b) (sr : ByteArray) (a b c now : Int) {q : Ag} (hq : q ∈ aggsT s 2 0 1099511627777) : goX s m sr a b c now 2 q.at_ = lawX m sr (ofP a b c 2) 1125899906842624 now q.at_ 3600 := by
  have hq : q ∈ s.long := (List.mem_filter.1 hq).1
  have h1 := h.mm
  have h2 := h.ml
  have hb := h.long.beg q hq
  have he := met_win (a := 0) (b := 0) (.inr ⟨rfl, rfl⟩) h.long (by omega) hq
  exact law_go hm he.1 he.2.1 (by omega) hb.1 (by unfold belowX; rw [if_neg (by omega), if_neg (by omega), decide_eq_true (by omega)])
end Go.Proofs.YthbdchleppbidaaGreat
