/- Package series: a point put into a rising list. -/
import Derived.Test.YtpgbeebpeldjdaaSeIns
namespace Go.Proofs.Ytpgbeebpeldjdaa
open Go.RowKit

theorem flat_set {l : List Pt} {i : Nat} (hi : i < l.length) (p : Pt) : ((l.flatMap Pt.cells).set (i * 2) (.int .i64 p.a)).set (i * 2 + 1) (.int .i64 p.v) = (l.set i p).flatMap Pt.cells := by
  induction l generalizing i with
  | nil => simp at hi
  | cons q r ih =>
    cases i with
    | zero => rfl
    | succ i =>
      have h := ih (i := i) (by simpa using hi)
      rw [List.flatMap_cons, List.set_cons_succ, List.flatMap_cons, ← h]
      have e1 : (i + 1) * 2 = i * 2 + 1 + 1 := by omega
      rw [e1]
      rfl
/-- a point stored into a row of one's own -/
def setPt (w : World) (g o : Nat) (p : Pt) : World := (w.setCell ⟨g, o, none⟩ (.int .i64 p.a)).setCell ⟨g, o + 1, none⟩ (.int .i64 p.v)
theorem setPt_only (w : World) (g o : Nat) (p : Pt) : Only (fun k => k = g) w (setPt w g o p) :=
  (Only.setCell (S := fun k => k = g) _ rfl _).trans (Only.setCell (S := fun k => k = g) _ rfl _) (fun _ _ h => h)
theorem PtRowB.set {B g cap : Nat} {w : World} {l : List Pt} {R : List Value} (hb : B ≤ g) (hg : Arr w g 26 (l.flatMap Pt.cells ++ R)) (hR : R.length = (cap - l.length) * 2) (hnc : l.length ≤ cap) (hcm : cap ≤ maxLen) {i : Nat} (hi : i < l.length) (p : Pt) :
    PtRowB B (setPt w g (i * 2) p) (.slice (some ⟨g, 0, none⟩) l.length cap) (l.set i p) := by
  have h1 := (hg.set (i * 2) (.int .i64 p.a)).set (i * 2 + 1) (.int .i64 p.v)
  have hl := flatP_length l
  rw [List.set_append_left _ _ (by omega), List.set_append_left _ _ (by rw [List.length_set]; omega), flat_set hi] at h1
  have e : l.length = (l.set i p).length := (List.length_set ..).symm
  rw [e] at hR hnc ⊢
  exact PtRowB.shut hb h1 hR hnc hcm
set_option maxHeartbeats 8000000 in
set_option maxRecDepth 100000 in
theorem sewith_any {B : Nat} {w : World} {v : Value} {l : List Pt} (p : Pt) (h : PtRowB B w v l) (hB : B ≤ w.heap.size) (hs : Srt l) (hn : l.length ≤ 1000000) :
    Calls Try.prog 22 #[v, .agg #[.int .i64 p.a, .int .i64 p.v]] w fun e w' => ∃ v', e = .returned v' ∧ PtRowB B w' v' (putP l p) ∧ Below B w w' := by
  have HPL : Hid (∀ W, PLies W v l → Calls Try.prog 27 #[v, .int .i64 p.a] W fun e w' => e = .returned (.tuple #[.int .i64 (cntP l p.a : Nat), .bool (hasP l p.a)]) ∧ Below W.heap.size W w') := Lib.hid fun W hW => seplace_any hW hs (by omega) p.a
  have HR := Lib.hid h
  have HBB := Lib.hid hB
  have HNE : Hid (hasP l p.a = false → putP l p = l.take (cntP l p.a) ++ p :: l.drop (cntP l p.a)) := Lib.hid (put_new hs p)
  have HOL : Hid (hasP l p.a = true → putP l p = l.set (cntP l p.a) p) := Lib.hid (put_old hs p)
  have HLT : Hid (hasP l p.a = true → cntP l p.a < l.length) := Lib.hid fun e => by
    obtain ⟨q, hq, _⟩ := (has_at hs p.a).1 e
    exact (List.getElem?_eq_some_iff.1 hq).1
  have HCN : Hid (cntP l p.a ≤ l.length) := Lib.hid (cnt_le l p.a)
  have HIN : Hid (∀ W vb i, PtRowB B W v l → B ≤ W.heap.size → i ≤ l.length → PtAt W vb p → v.ownBlock ≠ some vb → Calls Try.prog 31 #[v, .int .i64 (i : Nat), .slice (some ⟨vb, 0, none⟩) 1 1] W fun e w' => ∃ v', e = .returned v' ∧ PtRowB B w' v' (l.take i ++ p :: l.drop i) ∧ Below B W w') := Lib.hid fun W vb i h1 h2 h3 h4 h5 => seins_any h1 h2 h3 h4 h5 hn
  have HN := Lib.hid hn
  obtain ⟨T, hT⟩ : ∃ T, T = putP l p := ⟨_, rfl⟩
  obtain ⟨K, hK⟩ : ∃ K, K = cntP l p.a := ⟨_, rfl⟩
  obtain ⟨q, hq⟩ : ∃ q, q = hasP l p.a := ⟨_, rfl⟩
  rw [← hT] at HNE HOL ⊢
  rw [← hK] at HPL HNE HOL HLT HCN
  rw [← hq] at HPL HNE HOL HLT
  clear h hB hs hn hT hK hq
  go_enter Try.func22, Try.ntmps22
  repeat (first | go_values | go_skip | go_guarded | go_step)
  refine calls_name ?_
  intro W1 hW1
  obtain ⟨P, hP⟩ : ∃ P, P = w.heap.size := ⟨_, rfl⟩
  have hb1 : Below w.heap.size w W1 := by rw [hW1.out]; exact (Below.refl _ _).alloc (Nat.le_refl _) _
  have HT1 : Hid (PtAt W1 P p) := Lib.hid (by rw [hW1.out, hP]; exact PtAt.new w p)
  have HR1 := Lib.hid (HR.out.keep hb1)
  have HB1 := Lib.hid (hb1.mono HBB.out)
  have HFR : Hid (v.ownBlock ≠ some P) := Lib.hid (HR.out.far (by omega))
  have HPB : Hid (B ≤ P) := Lib.hid (by rw [hP]; exact HBB.out)
  rw [← hP]
  clear hW1 hP hb1 HR
  refine (HPL.out W1 HR1.out.plies).mono ?_
  rintro e W2 ⟨rfl, hb⟩
  have HT2 := Lib.hid (HT1.out.keep hb)
  have HR2 := Lib.hid (HR1.out.keep hb)
  have HB2 : Hid (Below B w W2) := Lib.hid (HB1.out.trans (hb.mono (Nat.le_trans HBB.out HB1.out.size)))
  clear hb HT1 HR1 HB1 HPL
  dsimp only
  obtain ⟨c0, c1, -, -⟩ := HT2.out.cells
  cases q with
  | false =>
    have HE := Lib.hid (HNE.out rfl)
    clear HNE HOL HLT
    repeat (first | go_values | go_skip | go_guarded | go_step)
    refine calls_name ?_
    intro W3 hW3
    obtain ⟨V, hV⟩ : ∃ V, V = W2.heap.size := ⟨_, rfl⟩
    have hb3 : Below W2.heap.size W2 W3 := by rw [hW3.out]; exact (Below.refl _ _).alloc (Nat.le_refl _) _
    have HV3 : Hid (PtAt W3 V p) := Lib.hid (by rw [hW3.out, hV]; exact PtAt.new W2 p)
    have HR3 := Lib.hid (HR2.out.keep hb3)
    have HF3 : Hid (v.ownBlock ≠ some V) := Lib.hid (HR2.out.far (by omega))
    have HS2 : Hid (B ≤ W2.heap.size) := Lib.hid (Nat.le_trans HBB.out HB2.out.size)
    have HB3 : Hid (Below B w W3) := Lib.hid (HB2.out.trans (hb3.mono HS2.out))
    rw [← hV]
    clear hW3 hb3 hV c0 c1
    refine (HIN.out W3 V K HR3.out (Nat.le_trans HBB.out HB3.out.size) HCN.out HV3.out HF3.out).mono ?_
    rintro e W4 ⟨v4, rfl, hr4, hb4⟩
    have HR4 := Lib.hid hr4
    have HB4 := Lib.hid (HB3.out.trans hb4)
    clear hr4 hb4
    dsimp only
    repeat (first | go_values | go_skip | go_guarded | go_step)
    go_ret
    exact ⟨_, rfl, by rw [HE.out]; exact HR4.out, HB4.out⟩
  | true =>
    have HE := Lib.hid (HOL.out rfl)
    have hlt := HLT.out rfl
    clear HNE HOL HLT
    rcases HR2.out.opened with ⟨rfl, rfl⟩ | ⟨g, cap, R, rfl, hbg, hg, hR, hnc, hcm⟩
    · simp at hlt
    · have HG := Lib.hid hg
      have HRR := Lib.hid hR
      have HBG := Lib.hid hbg
      have hKl := flatP_length l
      have c2 : W2.cell? ⟨g, K * 2, none⟩ = some (.int .i64 l[K].a) := hg.cell (by rw [List.getElem?_append_left (by omega)]; exact flatP_get (List.getElem?_eq_getElem hlt) 0 (by omega))
      have c3 : W2.cell? ⟨g, K * 2 + 1, none⟩ = some (.int .i64 l[K].v) := hg.cell (by rw [List.getElem?_append_left (by omega)]; exact flatP_get (List.getElem?_eq_getElem hlt) 1 (by omega))
      have f2 := hg.free (K * 2)
      have f3 := hg.free (K * 2 + 1)
      have hHN := HN.out
      clear HIN HFR hg hR hbg hKl
      repeat (first | go_values | go_skip | go_guarded | go_step)
      go_ret
      exact ⟨_, rfl, by rw [HE.out]; exact PtRowB.set HBG.out HG.out HRR.out hnc hcm hlt p, HB2.out.trans ((setPt_only W2 g (K * 2) p).below (Nat.le_trans HBB.out HB2.out.size) (fun k hk => by rw [hk]; exact HBG.out))⟩
end Go.Proofs.Ytpgbeebpeldjdaa
