/- Package roll, plainly: wide windows by points and by narrow windows. -/
import Derived.Test.YtdmlolagpbobeaaRoTop
namespace Go.Proofs.Ytdmlolagpbobeaa

theorem runs_head {α : Type} (f : α → Int) (y : α) (r : List α) : ∃ g t, runs f (y :: r) = (f y, g) :: t := by
  rw [runs_cons]
  cases runs f r with
  | nil => exact ⟨_, _, rfl⟩
  | cons kg t =>
    obtain ⟨k, g⟩ := kg
    simp only
    by_cases h : f y = k
    · rw [if_pos h, h]; exact ⟨_, _, rfl⟩
    · rw [if_neg h]; exact ⟨_, _, rfl⟩
theorem runs_len {α : Type} (f : α → Int) (l : List α) : (runs f l).length ≤ l.length := by
  induction l with
  | nil => exact Nat.le_refl _
  | cons x r ih =>
    rw [runs_cons]
    cases h : runs f r with
    | nil => simp
    | cons kg t =>
      obtain ⟨k, g⟩ := kg
      rw [h] at ih
      simp only
      split <;> simp only [List.length_cons] at ih ⊢ <;> omega
/-- where the key never falls, the groups' keys rise -/
theorem runs_up {α : Type} (f : α → Int) {l : List α} (h : l.Pairwise fun x y => f x ≤ f y) : ∀ z : Int, (∀ x, l.head? = some x → z < f x) → upFrom z ((runs f l).map Prod.fst) = true := by
  induction l with
  | nil => intro z _; rfl
  | cons x r ih =>
    intro z hz
    have hx := hz x rfl
    have hr := ih (List.Pairwise.of_cons h)
    rw [runs_cons]
    cases r with
    | nil =>
      show upFrom z [f x] = true
      rw [up_cons, decide_eq_true hx]; rfl
    | cons y r' =>
      obtain ⟨g, t, e⟩ := runs_head f y r'
      have hxy : f x ≤ f y := List.rel_of_pairwise_cons h (by simp)
      rw [e] at hr ⊢
      simp only
      by_cases hk : f x = f y
      · rw [if_pos hk]
        exact hr z fun w hw => by obtain rfl : y = w := by simpa using hw
                                  omega
      · rw [if_neg hk]
        have h2 := hr (f x) fun w hw => by obtain rfl : y = w := by simpa using hw
                                           omega
        rw [List.map_cons, up_cons, decide_eq_true hx, h2]; rfl
theorem up_pair {l : List Pt} : ∀ {z : Int}, upFrom z (l.map Pt.a) = true → l.Pairwise fun p q => p.a < q.a := by
  induction l with
  | nil => intro _ _; exact List.Pairwise.nil
  | cons p r ih =>
    intro z h
    rw [List.map_cons, up_cons, Bool.and_eq_true] at h
    refine List.Pairwise.cons (fun q hq => ?_) (ih h.2)
    exact up_all h.2 q.a (List.mem_map.2 ⟨q, hq, rfl⟩)
theorem up_nonneg {l : List Pt} (h : upFrom (-1) (l.map Pt.a) = true) : ∀ p ∈ l, 0 ≤ p.a := fun p hp => by
  have := up_all h p.a (List.mem_map.2 ⟨p, hp, rfl⟩); omega
theorem start_mid (a : Int) : startW 1 a = if 0 ≤ a then a - a % 300 else 0 := by
  unfold startW hasW widthW
  by_cases h : 0 ≤ a
  · simp [h]
  · simp [h]
theorem start_long (a : Int) : startW 2 a = if 0 ≤ a then a - a % 3600 else 0 := by
  unfold startW hasW widthW
  by_cases h : 0 ≤ a
  · simp [h]
  · simp [h]
theorem mid_long (a : Int) : startW 2 (startW 1 a) = startW 2 a := by
  rw [start_mid, start_long, start_long]
  by_cases h : 0 ≤ a
  · rw [if_pos h, if_pos h, if_pos (by omega)]; omega
  · rw [if_neg h, if_neg h]; rfl
theorem points_len (t : Int) (l : List Pt) : (pointsR t l).length ≤ l.length := by
  unfold pointsR
  split
  · simp
  · rw [List.length_map]; exact runs_len _ _
theorem points_fits (t : Int) {l : List Pt} (hf : ∀ p ∈ l, p.fits) (hl : l.length ≤ 1000000) : ∀ a ∈ pointsR t l, a.fits := by
  intro a ha
  unfold pointsR at ha
  split at ha
  · simp at ha
  · obtain ⟨e, he, rfl⟩ := List.mem_map.1 ha
    obtain ⟨hne, hk⟩ := runs_keys _ l e he
    have hsub : ∀ q ∈ e.2, q ∈ l := fun q hq => by
      rw [← runs_all (fun p => startW t p.a) l]; exact List.mem_flatMap.2 ⟨e, he, hq⟩
    have hlen : e.2.length ≤ l.length := by
      have h1 : ∀ (L : List (Int × List Pt)), e ∈ L → e.2.length ≤ (L.flatMap Prod.snd).length := fun L hL => by
        induction L with
        | nil => simp at hL
        | cons x T ih =>
          rw [List.flatMap_cons, List.length_append]
          rcases List.mem_cons.1 hL with rfl | hL
          · omega
          · have := ih hL; omega
      have := h1 _ he
      rwa [runs_all] at this
    obtain ⟨q, hq⟩ := List.exists_mem_of_ne_nil _ hne
    have hr := start_range t (hf q (hsub q hq)).2.1
    rw [hk q hq] at hr
    exact ofA_fits (by omega) hr.2 (fun p hp => hf p (hsub p hp)) (by omega)
/-- WIDE WINDOWS BY POINTS, AND BY NARROW WINDOWS -/
theorem tiers_same {l : List Pt} (hup : upFrom (-1) (l.map Pt.a) = true) (hs : SmallV 1125899906842624 l) (hl : l.length ≤ 60) : aggsR 2 (pointsR 1 l) = pointsR 2 l := by
  have h1 : pointsR 1 l = (runs (fun p => startW 1 p.a) l).map fun e => ofA e.1 e.2 := by
    unfold pointsR; rw [if_neg (by rw [hup]; rintro (h | h); exact absurd h (by decide); cases h)]
  have h2 : pointsR 2 l = (runs (fun p => startW 2 p.a) l).map fun e => ofA e.1 e.2 := by
    unfold pointsR; rw [if_neg (by rw [hup]; rintro (h | h); exact absurd h (by decide); cases h)]
  have hkeys : (pointsR 1 l).map Ag.at_ = (runs (fun p => startW 1 p.a) l).map Prod.fst := by
    rw [h1, List.map_map]
    exact List.map_congr_left fun e _ => ofA_at _ _
  have hup2 : upFrom (-1) ((pointsR 1 l).map Ag.at_) = true := by
    rw [hkeys]
    refine runs_up (fun p : Pt => startW 1 p.a) ?_ (-1) ?_
    · refine (up_pair hup).imp_of_mem fun {p q : Pt} hp hq hpq => ?_
      have a0 := up_nonneg hup p hp
      have b0 := up_nonneg hup q hq
      rw [start_mid, start_mid, if_pos a0, if_pos b0]; omega
    · intro p hp
      have hm : p ∈ l := List.mem_of_mem_head? (by rw [hp]; rfl)
      have a0 := up_nonneg hup p hm
      rw [start_mid, if_pos a0]; omega
  have hw := wide_narrow (b := 1125899906842624) (by omega) (fun p : Pt => startW 1 p.a) (fun p : Pt => startW 2 p.a) (startW 2) (fun x => mid_long x.a) hs (by omega) (by omega)
  unfold aggsR
  rw [if_neg (by rw [hup2]; rintro (h | h); exact absurd h (by decide); cases h), h1, h2]
  have hfm : ∀ L : List (Int × List Ag), L.filterMap (fun e => joinA e.1 e.2) = (L.map fun e => joinA e.1 e.2).filterMap id := fun L => by rw [List.filterMap_map]; rfl
  rw [hfm, hw]
  rw [List.filterMap_map]
  have hall : ∀ L : List (Int × List Pt), L.filterMap (id ∘ fun e => some (ofA e.1 e.2)) = L.map fun e => ofA e.1 e.2 := fun L => by
    induction L with
    | nil => rfl
    | cons e T ih => rw [List.filterMap_cons, ih]; rfl
  exact hall _
end Go.Proofs.Ytdmlolagpbobeaa
