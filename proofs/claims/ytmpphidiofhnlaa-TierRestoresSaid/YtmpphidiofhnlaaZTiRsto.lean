/- Package tier: Restore. -/
import Derived.Test.YtmpphidiofhnlaaZTiMarks
import Derived.Test.YtmpphidiofhnlaaZTiRight
import Derived.Test.YtmpphidiofhnlaaZTiEq
import Derived.Test.YtmpphidiofhnlaaZTiApps
import Derived.Test.YtmpphidiofhnlaaZTiNil
import Derived.Test.YtmpphidiofhnlaaZTiPut
import Derived.Test.YtmpphidiofhnlaaMC
import Derived.Deep.RegionHeld3
namespace Go.Proofs.Ytmpphidiofhnlaa
open Go.RowKit

/-- may these points be restored? -/
def ptsB (pts : List Pt) : Bool := pts.all (fun p => decide (0 ≤ p.a) && decide (p.a ≤ 1099511627776)) && upFrom (-1) (pts.map Pt.a) && decide (pts.length ≤ 256)
theorem rest_split (pts : List Pt) (mid long : List Ag) (m0 m1 m2 : Int) : restOk pts mid long m0 m1 m2 = (marksB m0 m1 m2 && goodAB 300 m1 mid && goodAB 3600 m2 long && ptsB pts) := by
  rw [marks_rest]
  show (ptsB pts && goodAB 300 m1 mid && goodAB 3600 m2 long && decide (m0 = 0) && decide (0 ≤ m1) && decide (m1 ≤ 1099511631376) && decide (m1 % 300 = 0) && decide (0 ≤ m2) && decide (m2 ≤ m1) && decide (m2 % 3600 = 0)) = _
  generalize ptsB pts = A
  generalize goodAB 300 m1 mid = B
  generalize goodAB 3600 m2 long = C
  generalize decide (m0 = 0) = a
  generalize decide (0 ≤ m1) = b
  generalize decide (m1 ≤ 1099511631376) = c
  generalize decide (m1 % 300 = 0) = d
  generalize decide (0 ≤ m2) = e
  generalize decide (m2 ≤ m1) = f
  generalize decide (m2 % 3600 = 0) = g
  cases A
  · simp
  · cases B
    · simp
    · cases C
      · simp
      · simp
theorem pts_in (pts : List Pt) : pts.all (fun p => decide (0 ≤ p.a) && decide (p.a ≤ 1099511627776)) = !pts.any outP := by
  rw [out_off]
  induction pts with
  | nil => rfl
  | cons p r ih =>
    rw [List.all_cons, List.any_cons, ih]
    unfold offT
    generalize (decide (0 ≤ p.a) && decide (p.a ≤ 1099511627776)) = A
    cases A <;> simp
theorem up_srt {l : List Pt} (h : ∀ p ∈ l, 0 ≤ p.a) : upFrom (-1) (l.map Pt.a) = true ↔ Srt l := by
  constructor
  · intro hu
    exact List.pairwise_map.1 (up_pairs hu)
  · intro hs
    exact upFrom_of (List.pairwise_map.2 hs) (fun x hx => by obtain ⟨t, ht, rfl⟩ := List.mem_map.1 hx; have := h t ht; omega)
/-- points may be restored just if they are put as they are -/
theorem pts_put (pts : List Pt) : ptsB pts = (decide ((putE [] pts).2.1 = 0) && decide ((putE [] pts).2.2 = pts)) := by
  unfold ptsB putE
  rw [pts_in]
  cases ho : pts.any outP with
  | true => simp
  | false =>
    have hin := any_out ho
    simp only [Bool.not_false, Bool.true_and, Bool.false_eq_true, if_false]
    by_cases hs : Srt pts
    · rw [(up_srt fun p hp => (hin p hp).1).2 hs, putL_own hs]
      by_cases hl : 256 < pts.length
      · rw [if_pos hl, decide_eq_false (show ¬ pts.length ≤ 256 by omega)]; simp
      · rw [if_neg hl, decide_eq_true (show pts.length ≤ 256 by omega)]; simp
    · have hu : upFrom (-1) (pts.map Pt.a) = false := by
        cases hb : upFrom (-1) (pts.map Pt.a) with
        | false => rfl
        | true => exact absurd ((up_srt fun p hp => (hin p hp).1).1 hb) hs
      rw [hu, Bool.false_and]
      by_cases hl : 256 < (putL [] pts).length
      · rw [if_pos hl]; simp
      · rw [if_neg hl]
        have : ¬ putL [] pts = pts := fun e => hs (by rw [← e]; exact putL_srt srt_nil pts)
        simp [this]
theorem rest_good {pts : List Pt} {mid long : List Ag} {m0 m1 m2 : Int} (hp : ∀ p ∈ pts, p.fits) (hm : ∀ t ∈ mid, t.fits) (hl : ∀ t ∈ long, t.fits) (h : restOk pts mid long m0 m1 m2 = true) : GoodT ⟨pts, mid, long, m1, m2⟩ ∧ m0 = 0 := by
  have hA : ∀ {w m : Int} {l : List Ag}, (∀ t ∈ l, t.fits) → goodAB w m l = true → GoodA w m l := fun {w m l} hf hg => by
    unfold goodAB at hg
    rw [Bool.and_eq_true, Bool.and_eq_true] at hg
    obtain ⟨⟨h1, h2⟩, h3⟩ := hg
    have h4 := List.all_eq_true.1 h1
    refine ⟨fun t ht => ?_, hf, fun t ht => ?_, List.pairwise_map.1 (up_pairs h2), by simpa using h3⟩
    · have := h4 t ht
      simp only [Bool.and_eq_true] at this
      exact this.1.1.1
    · have := h4 t ht
      simp only [Bool.and_eq_true, decide_eq_true_eq] at this
      exact ⟨this.1.1.2, this.1.2, this.2⟩
  unfold restOk at h
  simp only [Bool.and_eq_true, decide_eq_true_eq] at h
  obtain ⟨⟨⟨⟨⟨⟨⟨⟨⟨⟨⟨h1, h2⟩, h3⟩, h4⟩, h5⟩, h6⟩, h7⟩, h8⟩, h9⟩, h10⟩, h11⟩, h12⟩ := h
  have hall := List.all_eq_true.1 h1
  refine ⟨⟨List.pairwise_map.1 (up_pairs h2), fun p hq => ?_, hp, h3, hA hm h4, hA hl h5, ⟨h7, h8, h9⟩, ⟨h10, h11, h12⟩⟩, h6⟩
  have := hall p hq
  simpa using this
end Go.Proofs.Ytmpphidiofhnlaa
