/- The points of two rising rows, gone through together: what the package does. -/
import Derived.Test.YtdfefhoihpbldaaDoorChCount
import Derived.Test.YtdfefhoihpbldaaDoorChMergeL
import Derived.Maps.AppendAt
import Derived.Laws.AppendOwnNone
import Derived.Deep.Slices
namespace Go.Proofs.YtdfefhoihpbldaaDoor
open Go.RowKit Go.Deep Go.ChangeShapes Go.WideShapes

theorem mergeL_nil (a : List Pt) : mergeL a [] = a := by cases a <;> simp [mergeL]
theorem mergeL_lo {p q : Pt} {a b : List Pt} (h : q.a < p.a) : mergeL (p :: a) (q :: b) = q :: mergeL (p :: a) b := by rw [mergeL, if_neg (by omega), if_pos h]
theorem mergeL_hi {p q : Pt} {a b : List Pt} (h : p.a < q.a) : mergeL (p :: a) (q :: b) = p :: mergeL a (q :: b) := by rw [mergeL, if_pos h]
theorem mergeL_eq {p q : Pt} {a b : List Pt} (hs : Srt (p :: a)) (h : q.a = p.a) : mergeL (p :: a) (q :: b) = mergeL a (q :: b) := by
  rw [mergeL, if_neg (by omega), if_neg (by omega)]
  cases a with
  | nil => simp [mergeL]
  | cons r a =>
    have h1 := (List.pairwise_cons.1 hs).1 r (by simp)
    rw [mergeL_lo (by omega)]
/-- what is left of the second row -/
def RestAt (g : Nat) (lb : List Pt) (j : Nat) (v : Value) : Prop := j ≤ lb.length ∧ ((v = .slice none 0 0 ∧ lb = []) ∨ ∃ ad c, v = .slice (some ad) (lb.length - j) c ∧ lb.length - j ≤ c ∧ (lb.length - j ≠ 0 → ad = ⟨g, j * 2, none⟩))
theorem rest_next {g j m c : Nat} {lb : List Pt} (hm : lb.length - j = m + 1) (hc : m ≤ c) : RestAt g lb (j + 1) (.slice (if c = 0 then some ⟨g, j * 2, none⟩ else some ⟨g, j * 2 + 2, none⟩) m c) := by
  refine ⟨by omega, .inr ?_⟩
  rw [show lb.length - (j + 1) = m by omega]
  by_cases h : c = 0
  · rw [if_pos h]; exact ⟨_, _, rfl, hc, fun h0 => by omega⟩
  · rw [if_neg h]; exact ⟨_, _, rfl, hc, fun _ => by congr 1; omega⟩
theorem drewN_heap (w : World) (n : Nat) : (w.drewN n).heap = w.heap := by
  induction n with
  | zero => rfl
  | succ n ih => exact ih
def lenV : Value → Nat
  | .slice _ n _ => n
  | _ => 0
theorem jnext {B Q n : Nat} {w w3 W5 : World} {v v' : Value} {xs : List Value} {o ob : Obj} (hown : w3.ownsRow B 42 2 v n xs) (hgrow : (w3.alloc o).grownBy W5 v.ownBlock) (hb : Below B w w3) (hbz : B ≤ w3.heap.size) (hq : w3.heap[Q]? = some ob) (hno : v.ownBlock ≠ some Q)
    (hw : v'.ownBlock = v.ownBlock ∨ v'.ownBlock = some (w3.alloc o).heap.size) : Below B w W5 ∧ W5.heap[Q]? = some ob ∧ v'.ownBlock ≠ some Q := by
  have hlt := lt_of_block hq
  refine ⟨(hb.alloc hbz o).grown hgrow (by simp; omega) (fun k hk => (hown.lt k hk).1), ?_, ?_⟩
  · rw [hgrow.block Q (by simp; omega) (fun e => hno e.symm), Below.heap_alloc _ _ _ hlt]; exact hq
  · rcases hw with h | h
    · rw [h]; exact hno
    · rw [h]; intro e; injection e with e; simp at e; omega
theorem flat_snoc {acc : List Pt} {t : Pt} {B : Nat} {w : World} {v : Value} (h : w.ownsRow B 42 2 v (acc.length + 1) (acc.flatMap Pt.cells ++ t.cells)) : w.ownsRow B 42 2 v (acc ++ [t]).length ((acc ++ [t]).flatMap Pt.cells) := by
  rw [List.length_append, List.flatMap_append]; simpa using h
theorem merge_len {a b acc x : List Pt} (h : mergeL a b = acc ++ x) : acc.length ≤ a.length + b.length := by
  have h1 := mergeL_le a b
  rw [h, List.length_append] at h1; omega

set_option maxHeartbeats 8000000 in
set_option maxRecDepth 100000 in
theorem cjoin_any {w : World} {va vb : Value} {la lb : List Pt} (ha : PLies w va la) (hb : WantAt w vb lb) (hsa : Srt la) (hn : la.length + lb.length ≤ 1000000) :
    Calls Tryd.prog 29 #[va, vb] w fun e w' => ∃ v', e = .returned v' ∧ w'.ownsRow w.heap.size 42 2 v' (mergeL la lb).length ((mergeL la lb).flatMap Pt.cells) ∧ Below w.heap.size w w' := by
  obtain ⟨i0, hi, hz0, hz1, hz2⟩ := info_parts infoPt
  obtain ⟨a, ba, off, cap, rfl, hadr, hpts⟩ := ha
  obtain ⟨g, hrest, hptb⟩ : ∃ g, RestAt g lb 0 vb ∧ PtsAt w g 0 lb := by
    rcases hb with ⟨rfl, rfl⟩ | ⟨g, c, rfl, h1, h2⟩
    · exact ⟨0, ⟨Nat.le_refl _, .inl ⟨rfl, rfl⟩⟩, fun i t ht => by simp at ht⟩
    · exact ⟨g, ⟨Nat.zero_le _, .inr ⟨⟨g, 0, none⟩, c, by simp, by omega, fun _ => by simp⟩⟩, h2⟩
  have HADR := Lib.hid hadr
  have HPA := Lib.hid hpts
  have HPB := Lib.hid hptb
  have HS := Lib.hid hsa
  have HR := Lib.hid hrest
  clear hadr hpts hptb hsa hrest
  go_enter Tryd.func29, Tryd.ntmps29
  go_wp2
  go_loopw [1, 5, 10] (fun vr vl c wr => ∃ (k j : Nat) (acc : List Pt), k ≤ la.length ∧ c = .int .i64 k ∧ RestAt g lb j vr ∧ wr.ownsRow w.heap.size 42 2 vl acc.length (acc.flatMap Pt.cells) ∧ mergeL la lb = acc ++ mergeL (la.drop k) (lb.drop j) ∧ Below w.heap.size w wr) (fun _ _ c _ => la.length - (intOf c).toNat)
  case atStart => exact ⟨0, 0, [], by omega, rfl, HR.out, World.ownsRow_nil _ _ _ _, by simp, Below.refl _ _⟩
  case round =>
    obtain ⟨k, j, acc, hk, rfl, hrest, hown, hml, hbw⟩ := hrel
    obtain ⟨wq, hwq⟩ : ∃ wq, wq = wr := ⟨_, rfl⟩
    subst hwq
    have hzq := hbw.size
    have HR1 := Lib.hid hrest
    have HO1 := Lib.hid hown
    have HM1 := Lib.hid hml
    have HB1 := Lib.hid hbw
    by_cases hlt : k < la.length
    · have ea := HADR.out (by intro h; simp [h] at hlt)
      subst ea
      obtain ⟨p, hp⟩ : ∃ p, la[k]? = some p := ⟨la[k], List.getElem?_eq_getElem hlt⟩
      obtain ⟨a0, a1⟩ := HPA.out k p hp
      have hbl : ba < w.heap.size := by have := cell_lt a0; exact this
      rw [← hbw.cell (p := ⟨ba, off + k * 2, none⟩) hbl] at a0
      rw [← hbw.cell (p := ⟨ba, off + k * 2 + 1, none⟩) hbl] at a1
      have HDR : Hid (la.drop k = p :: la.drop (k + 1)) := Lib.hid (by
        rw [List.drop_eq_getElem_cons hlt]; congr 1
        have := List.getElem?_eq_getElem hlt; rw [hp] at this; injection this with this; exact this.symm)
      have HSK : Hid (Srt (p :: la.drop (k + 1))) := Lib.hid (by rw [← HDR.out]; exact List.Pairwise.drop HS.out)
      obtain ⟨pa, pv⟩ := p
      simp only at a0 a1
      obtain ⟨Q, hQ⟩ : ∃ Q, Q = wq.heap.size := ⟨_, rfl⟩
      have hlo := fun b hb => (hown.lt b hb).2
      have HNI : Hid ((wq.alloc (.cells #[.int .i64 pa, .int .i64 pv] 42)).heap[wq.heap.size]? = some (.cells #[.int .i64 pa, .int .i64 pv] 42 (0, 0))) := Lib.hid (heap_alloc_new wq _)
      have HNO : Hid (u5.ownBlock ≠ some wq.heap.size) := Lib.hid (fun h => by have := hlo _ h; omega)
      clear hp hrest hown hml hlo hQ Q
      go_wp2
      go_loopw [1, 5] (fun vr vl w2 => ∃ (j : Nat) (acc : List Pt), RestAt g lb j vr ∧ w2.ownsRow w.heap.size 42 2 vl acc.length (acc.flatMap Pt.cells) ∧ mergeL la lb = acc ++ mergeL (la.drop k) (lb.drop j) ∧ Below w.heap.size w w2 ∧ w2.heap[wq.heap.size]? = some (.cells #[.int .i64 pa, .int .i64 pv] 42 (0, 0)) ∧ vl.ownBlock ≠ some wq.heap.size) (fun vr _ _ => lenV vr)
      case atStart => exact ⟨j, acc, HR1.out, HO1.out.alloc _, HM1.out, HB1.out.alloc hzq _, HNI.out, HNO.out⟩
      case round =>
        clear HR1 HO1 HM1 HB1 HNI HNO a0 a1 hbw j acc
        obtain ⟨j, acc, hrest, hown, hml, hbw, hq, hno⟩ := hrel
        obtain ⟨w2, hw2⟩ : ∃ w2, w2 = wr := ⟨_, rfl⟩
        subst hw2
        have hz2' := hbw.size
        have hjl := hrest.1
        have HR2 := Lib.hid hrest
        have HO2 := Lib.hid hown
        have HM2 := Lib.hid hml
        have HB2 := Lib.hid hbw
        have HQ2 := Lib.hid hq
        have HNO2 := Lib.hid hno
        have hlen := merge_len hml
        have hQlt := lt_of_block hq
        obtain ⟨d0, d1, _, _⟩ := cells2 hq
        have hb2 : Below w.heap.size w (w2.alloc (.cells #[.int .i64 pa, .int .i64 pv] 42)) := hbw.alloc hz2' _
        by_cases hj : j < lb.length
        · obtain ⟨c, rfl, hc⟩ : ∃ c, u1 = .slice (some ⟨g, j * 2, none⟩) (lb.length - j) c ∧ lb.length - j ≤ c := by
            rcases hrest.2 with ⟨_, h0⟩ | h
            · rw [h0] at hj; simp at hj
            · obtain ⟨ad, c, h1, h2, h3⟩ := h; rw [h3 (by omega)] at h1; exact ⟨c, h1, h2⟩
          obtain ⟨q, hqj⟩ : ∃ q, lb[j]? = some q := ⟨lb[j], List.getElem?_eq_getElem hj⟩
          obtain ⟨b0, b1⟩ := HPB.out j q hqj
          rw [Nat.zero_add] at b0 b1
          have hgl : g < w.heap.size := by have := cell_lt b0; exact this
          rw [← hbw.cell (p := ⟨g, j * 2, none⟩) hgl] at b0
          rw [← hbw.cell (p := ⟨g, j * 2 + 1, none⟩) hgl] at b1
          have HDJ : Hid (lb.drop j = q :: lb.drop (j + 1)) := Lib.hid (by
            rw [List.drop_eq_getElem_cons hj]; congr 1
            have := List.getElem?_eq_getElem hj; rw [hqj] at this; injection this with this; exact this.symm)
          obtain ⟨qa, qv⟩ := q
          simp only at b0 b1
          obtain ⟨m, hm⟩ : ∃ m, lb.length - j = m + 1 := ⟨lb.length - j - 1, by omega⟩
          obtain ⟨c1, hc1⟩ : ∃ c1, c = c1 + 1 := ⟨c - 1, by omega⟩
          subst hc1
          rw [hm] at hc
          rw [hm]
          have hm1 : lb.length - (j + 1) = m := by omega
          clear hrest hown hml hbw hq hno hqj
          rcases Int.lt_trichotomy qa pa with hlt2 | heq | hgt
          · have t1 : decide (qa < pa) = true := by simpa using hlt2
            have t2 : decide ((0 : Int) < ((m + 1 : Nat) : Int)) = true := by simp <;> omega
            have t2' : (0 : Int) < (m : Int) + 1 := by omega
            go_wp2
            go_quiet (fail)
            obtain ⟨w3, hw3⟩ : ∃ w3, w3 = w2.drewN nq := ⟨_, rfl⟩
            rw [← hw3]
            have hh3 : w3.heap = w2.heap := by rw [hw3]; exact drewN_heap w2 nq
            have ho3 : Only (fun _ => False) w2 w3 := by rw [hw3]; exact only_drewN _ _ _
            have HO3 := Lib.hid (row_only HO2.out ho3 (fun _ _ h => h))
            have HB3 : Hid (Below w.heap.size w w3) := Lib.hid (HB2.out.trans (ho3.below hz2' (fun _ h => h.elim)))
            have HQ3 : Hid (w3.heap[wq.heap.size]? = some (.cells #[.int .i64 pa, .int .i64 pv] 42 (0, 0))) := Lib.hid (by rw [hh3]; exact HQ2.out)
            have hz3 : w.heap.size ≤ w3.heap.size := by rw [hh3]; exact hz2'
            rw [show w2.cell? ⟨g, j * 2, none⟩ = w3.cell? ⟨g, j * 2, none⟩ by simp only [World.cell?, hh3]] at b0
            rw [show w2.cell? ⟨g, j * 2 + 1, none⟩ = w3.cell? ⟨g, j * 2 + 1, none⟩ by simp only [World.cell?, hh3]] at b1
            rw [show w2.cell? ⟨wq.heap.size, 0, none⟩ = w3.cell? ⟨wq.heap.size, 0, none⟩ by simp only [World.cell?, hh3]] at d0
            rw [show w2.cell? ⟨wq.heap.size, 1, none⟩ = w3.cell? ⟨wq.heap.size, 1, none⟩ by simp only [World.cell?, hh3]] at d1
            clear hw3 hh3 ho3
            go_wp2_with (at_builtin; refine wpList_append_own_at _ rfl (.tmp 26) (.tmp 30) 22 rfl w.heap.size 42 i0 (.agg #[.int .i64 0, .int .i64 0]) 2 16 Tryd.underlying22 hi hz0 hz1 hz2 rfl (by decide) _ _ _ rfl (HO3.out.alloc _) ⟨w3.heap.size, 0, none⟩ 1 1 [.int .i64 qa, .int .i64 qv] rfl rfl (World.news_of_block (heap_alloc_new w3 _)) (by simp [Value.oneCell']) (by unfold maxLen; omega) (by omega) (by simp; omega) ?_; intro v5 W5 hown5 hgrow5 _ hwhere5; have HO5 := Lib.hid hown5; have HJ := Lib.hid (jnext HO3.out hgrow5 HB3.out hz3 HQ3.out HNO2.out hwhere5); clear hown5 hgrow5 hwhere5)
            go_roundw
            case rel => exact ⟨j + 1, acc ++ [⟨qa, qv⟩], rest_next hm (by omega), flat_snoc (t := ⟨qa, qv⟩) HO5.out, by rw [HM2.out, HDR.out, HDJ.out, mergeL_lo hlt2, List.append_assoc]; rfl, HJ.out⟩
            case measure => simp [lenV]
          · have t1 : decide (qa < pa) = false := by simp; omega
            have t2 : decide ((0 : Int) < ((m + 1 : Nat) : Int)) = true := by simp <;> omega
            have t2' : (0 : Int) < (m : Int) + 1 := by omega
            have t3 : (((m + 1 : Nat) : Int) == 0) = false := by simp; omega
            have t3' : ((m : Int) + 1 == 0) = false := by simp; omega
            have t4 : (qa != pa) = false := by simpa using heq
            go_wp2
            go_quiet (fail)
            obtain ⟨w3, hw3⟩ : ∃ w3, w3 = w2.drewN nq := ⟨_, rfl⟩
            rw [← hw3]
            have hh3 : w3.heap = w2.heap := by rw [hw3]; exact drewN_heap w2 nq
            have ho3 : Only (fun _ => False) w2 w3 := by rw [hw3]; exact only_drewN _ _ _
            have HO3 := Lib.hid (row_only HO2.out ho3 (fun _ _ h => h))
            have HB3 : Hid (Below w.heap.size w w3) := Lib.hid (HB2.out.trans (ho3.below hz2' (fun _ h => h.elim)))
            have HQ3 : Hid (w3.heap[wq.heap.size]? = some (.cells #[.int .i64 pa, .int .i64 pv] 42 (0, 0))) := Lib.hid (by rw [hh3]; exact HQ2.out)
            have hz3 : w.heap.size ≤ w3.heap.size := by rw [hh3]; exact hz2'
            rw [show w2.cell? ⟨g, j * 2, none⟩ = w3.cell? ⟨g, j * 2, none⟩ by simp only [World.cell?, hh3]] at b0
            rw [show w2.cell? ⟨g, j * 2 + 1, none⟩ = w3.cell? ⟨g, j * 2 + 1, none⟩ by simp only [World.cell?, hh3]] at b1
            rw [show w2.cell? ⟨wq.heap.size, 0, none⟩ = w3.cell? ⟨wq.heap.size, 0, none⟩ by simp only [World.cell?, hh3]] at d0
            rw [show w2.cell? ⟨wq.heap.size, 1, none⟩ = w3.cell? ⟨wq.heap.size, 1, none⟩ by simp only [World.cell?, hh3]] at d1
            clear hw3 hh3 ho3
            go_wp2
            go_quiet (fail)
            obtain ⟨w4, hw4⟩ : ∃ w4, w4 = w3.drewN nq := ⟨_, rfl⟩
            rw [← hw4]
            have hh4 : w4.heap = w3.heap := by rw [hw4]; exact drewN_heap w3 nq
            have ho4 : Only (fun _ => False) w3 w4 := by rw [hw4]; exact only_drewN _ _ _
            have HO4 := Lib.hid (row_only HO3.out ho4 (fun _ _ h => h))
            have HB4 : Hid (Below w.heap.size w w4) := Lib.hid (HB3.out.trans (ho4.below hz3 (fun _ h => h.elim)))
            have HQ4 : Hid (w4.heap[wq.heap.size]? = some (.cells #[.int .i64 pa, .int .i64 pv] 42 (0, 0))) := Lib.hid (by rw [hh4]; exact HQ3.out)
            have hz4 : w.heap.size ≤ w4.heap.size := by rw [hh4]; exact hz3
            rw [show w3.cell? ⟨g, j * 2, none⟩ = w4.cell? ⟨g, j * 2, none⟩ by simp only [World.cell?, hh4]] at b0
            rw [show w3.cell? ⟨g, j * 2 + 1, none⟩ = w4.cell? ⟨g, j * 2 + 1, none⟩ by simp only [World.cell?, hh4]] at b1
            rw [show w3.cell? ⟨wq.heap.size, 0, none⟩ = w4.cell? ⟨wq.heap.size, 0, none⟩ by simp only [World.cell?, hh4]] at d0
            rw [show w3.cell? ⟨wq.heap.size, 1, none⟩ = w4.cell? ⟨wq.heap.size, 1, none⟩ by simp only [World.cell?, hh4]] at d1
            clear hw4 hh4 ho4
            go_wp2
            go_roundw
            case rel => exact ⟨k + 1, j, acc, by omega, by go_num, by rw [← hm] ; exact HR2.out, HO4.out, by rw [HM2.out, HDR.out, HDJ.out, mergeL_eq HSK.out heq], HB4.out⟩
            case measure => simp [intOf]; omega
          · have t1 : decide (qa < pa) = false := by simp; omega
            have t2 : decide ((0 : Int) < ((m + 1 : Nat) : Int)) = true := by simp <;> omega
            have t2' : (0 : Int) < (m : Int) + 1 := by omega
            have t3 : (((m + 1 : Nat) : Int) == 0) = false := by simp; omega
            have t3' : ((m : Int) + 1 == 0) = false := by simp; omega
            have t4 : (qa != pa) = true := by simp; omega
            go_wp2
            go_quiet (fail)
            obtain ⟨w3, hw3⟩ : ∃ w3, w3 = w2.drewN nq := ⟨_, rfl⟩
            rw [← hw3]
            have hh3 : w3.heap = w2.heap := by rw [hw3]; exact drewN_heap w2 nq
            have ho3 : Only (fun _ => False) w2 w3 := by rw [hw3]; exact only_drewN _ _ _
            have HO3 := Lib.hid (row_only HO2.out ho3 (fun _ _ h => h))
            have HB3 : Hid (Below w.heap.size w w3) := Lib.hid (HB2.out.trans (ho3.below hz2' (fun _ h => h.elim)))
            have HQ3 : Hid (w3.heap[wq.heap.size]? = some (.cells #[.int .i64 pa, .int .i64 pv] 42 (0, 0))) := Lib.hid (by rw [hh3]; exact HQ2.out)
            have hz3 : w.heap.size ≤ w3.heap.size := by rw [hh3]; exact hz2'
            rw [show w2.cell? ⟨g, j * 2, none⟩ = w3.cell? ⟨g, j * 2, none⟩ by simp only [World.cell?, hh3]] at b0
            rw [show w2.cell? ⟨g, j * 2 + 1, none⟩ = w3.cell? ⟨g, j * 2 + 1, none⟩ by simp only [World.cell?, hh3]] at b1
            rw [show w2.cell? ⟨wq.heap.size, 0, none⟩ = w3.cell? ⟨wq.heap.size, 0, none⟩ by simp only [World.cell?, hh3]] at d0
            rw [show w2.cell? ⟨wq.heap.size, 1, none⟩ = w3.cell? ⟨wq.heap.size, 1, none⟩ by simp only [World.cell?, hh3]] at d1
            clear hw3 hh3 ho3
            go_wp2
            go_quiet (fail)
            obtain ⟨w4, hw4⟩ : ∃ w4, w4 = w3.drewN nq := ⟨_, rfl⟩
            rw [← hw4]
            have hh4 : w4.heap = w3.heap := by rw [hw4]; exact drewN_heap w3 nq
            have ho4 : Only (fun _ => False) w3 w4 := by rw [hw4]; exact only_drewN _ _ _
            have HO4 := Lib.hid (row_only HO3.out ho4 (fun _ _ h => h))
            have HB4 : Hid (Below w.heap.size w w4) := Lib.hid (HB3.out.trans (ho4.below hz3 (fun _ h => h.elim)))
            have HQ4 : Hid (w4.heap[wq.heap.size]? = some (.cells #[.int .i64 pa, .int .i64 pv] 42 (0, 0))) := Lib.hid (by rw [hh4]; exact HQ3.out)
            have hz4 : w.heap.size ≤ w4.heap.size := by rw [hh4]; exact hz3
            rw [show w3.cell? ⟨g, j * 2, none⟩ = w4.cell? ⟨g, j * 2, none⟩ by simp only [World.cell?, hh4]] at b0
            rw [show w3.cell? ⟨g, j * 2 + 1, none⟩ = w4.cell? ⟨g, j * 2 + 1, none⟩ by simp only [World.cell?, hh4]] at b1
            rw [show w3.cell? ⟨wq.heap.size, 0, none⟩ = w4.cell? ⟨wq.heap.size, 0, none⟩ by simp only [World.cell?, hh4]] at d0
            rw [show w3.cell? ⟨wq.heap.size, 1, none⟩ = w4.cell? ⟨wq.heap.size, 1, none⟩ by simp only [World.cell?, hh4]] at d1
            clear hw4 hh4 ho4
            go_wp2_with (at_builtin; refine wpList_append_own_at _ rfl (.tmp 46) (.tmp 48) 22 rfl w.heap.size 42 i0 (.agg #[.int .i64 0, .int .i64 0]) 2 16 Tryd.underlying22 hi hz0 hz1 hz2 rfl (by decide) _ _ _ rfl (HO4.out.alloc _) ⟨w4.heap.size, 0, none⟩ 1 1 [.int .i64 pa, .int .i64 pv] rfl rfl (World.news_of_block (heap_alloc_new w4 _)) (by simp [Value.oneCell']) (by unfold maxLen; omega) (by omega) (by simp; omega) ?_; intro v5 W5 hown5 hgrow5 _ hwhere5; have HO5 := Lib.hid hown5; have HJ := Lib.hid (jnext HO4.out hgrow5 HB4.out hz4 HQ4.out HNO2.out hwhere5); clear hown5 hgrow5 hwhere5)
            go_roundw
            case rel => exact ⟨k + 1, j, acc ++ [⟨pa, pv⟩], by omega, by go_num, by rw [← hm] ; exact HR2.out, flat_snoc (t := ⟨pa, pv⟩) HO5.out, by rw [HM2.out, HDR.out, HDJ.out, mergeL_hi hgt, List.append_assoc]; rfl, HJ.out.1⟩
            case measure => simp [intOf]; omega
        · obtain rfl : j = lb.length := by omega
          obtain ⟨ab, cb, rfl⟩ : ∃ ab cb, u1 = .slice ab 0 cb := by
            rcases hrest.2 with ⟨h0, _⟩ | ⟨ad, c, h0, _⟩
            · exact ⟨_, _, h0⟩
            · rw [Nat.sub_self] at h0; exact ⟨_, _, h0⟩
          clear hrest hown hml hbw hq hno
          go_wp2
          go_quiet (fail)
          obtain ⟨w3, hw3⟩ : ∃ w3, w3 = w2.drewN nq := ⟨_, rfl⟩
          rw [← hw3]
          have hh3 : w3.heap = w2.heap := by rw [hw3]; exact drewN_heap w2 nq
          have ho3 : Only (fun _ => False) w2 w3 := by rw [hw3]; exact only_drewN _ _ _
          have HO3 := Lib.hid (row_only HO2.out ho3 (fun _ _ h => h))
          have HB3 : Hid (Below w.heap.size w w3) := Lib.hid (HB2.out.trans (ho3.below hz2' (fun _ h => h.elim)))
          have HQ3 : Hid (w3.heap[wq.heap.size]? = some (.cells #[.int .i64 pa, .int .i64 pv] 42 (0, 0))) := Lib.hid (by rw [hh3]; exact HQ2.out)
          have hz3 : w.heap.size ≤ w3.heap.size := by rw [hh3]; exact hz2'
          rw [show w2.cell? ⟨wq.heap.size, 0, none⟩ = w3.cell? ⟨wq.heap.size, 0, none⟩ by simp only [World.cell?, hh3]] at d0
          rw [show w2.cell? ⟨wq.heap.size, 1, none⟩ = w3.cell? ⟨wq.heap.size, 1, none⟩ by simp only [World.cell?, hh3]] at d1
          clear hw3 hh3 ho3
          go_wp2
          go_quiet (fail)
          obtain ⟨w4, hw4⟩ : ∃ w4, w4 = w3.drewN nq := ⟨_, rfl⟩
          rw [← hw4]
          have hh4 : w4.heap = w3.heap := by rw [hw4]; exact drewN_heap w3 nq
          have ho4 : Only (fun _ => False) w3 w4 := by rw [hw4]; exact only_drewN _ _ _
          have HO4 := Lib.hid (row_only HO3.out ho4 (fun _ _ h => h))
          have HB4 : Hid (Below w.heap.size w w4) := Lib.hid (HB3.out.trans (ho4.below hz3 (fun _ h => h.elim)))
          have HQ4 : Hid (w4.heap[wq.heap.size]? = some (.cells #[.int .i64 pa, .int .i64 pv] 42 (0, 0))) := Lib.hid (by rw [hh4]; exact HQ3.out)
          have hz4 : w.heap.size ≤ w4.heap.size := by rw [hh4]; exact hz3
          rw [show w3.cell? ⟨wq.heap.size, 0, none⟩ = w4.cell? ⟨wq.heap.size, 0, none⟩ by simp only [World.cell?, hh4]] at d0
          rw [show w3.cell? ⟨wq.heap.size, 1, none⟩ = w4.cell? ⟨wq.heap.size, 1, none⟩ by simp only [World.cell?, hh4]] at d1
          clear hw4 hh4 ho4
          go_wp2_with (at_builtin; refine wpList_append_own_at _ rfl (.tmp 46) (.tmp 48) 22 rfl w.heap.size 42 i0 (.agg #[.int .i64 0, .int .i64 0]) 2 16 Tryd.underlying22 hi hz0 hz1 hz2 rfl (by decide) _ _ _ rfl (HO4.out.alloc _) ⟨w4.heap.size, 0, none⟩ 1 1 [.int .i64 pa, .int .i64 pv] rfl rfl (World.news_of_block (heap_alloc_new w4 _)) (by simp [Value.oneCell']) (by unfold maxLen; omega) (by omega) (by simp; omega) ?_; intro v5 W5 hown5 hgrow5 _ hwhere5; have HO5 := Lib.hid hown5; have HJ := Lib.hid (jnext HO4.out hgrow5 HB4.out hz4 HQ4.out HNO2.out hwhere5); clear hown5 hgrow5 hwhere5)
          go_roundw
          case rel => exact ⟨k + 1, lb.length, acc ++ [⟨pa, pv⟩], by omega, by go_num, HR2.out, flat_snoc (t := ⟨pa, pv⟩) HO5.out, by rw [HM2.out, HDR.out, List.drop_length, mergeL_nil, mergeL_nil, List.append_assoc]; rfl, HJ.out.1⟩
          case measure => simp [intOf]; omega
    · obtain rfl : k = la.length := by omega
      have hml2 := HM1.out
      rw [List.drop_length, show mergeL [] (lb.drop j) = lb.drop j by cases lb.drop j <;> simp [mergeL]] at hml2
      have hlen := merge_len HM1.out
      have hln2 := mergeL_le la lb
      have HML := Lib.hid hml2
      have hpb := pts_drop j (HPB.out.beyond hbw)
      rw [Nat.zero_add] at hpb
      have hl2 : acc.length + (lb.length - j) = (mergeL la lb).length := by rw [hml2, List.length_append, List.length_drop]
      have HPD := Lib.hid hpb
      rcases hrest.2 with ⟨rfl, h0⟩ | ⟨ad, c, rfl, h1, h2⟩
      · have hacc : acc = mergeL la lb := by rw [hml2, h0]; simp
        have HACC := Lib.hid hacc
        clear hrest hown hml hml2 hbw hpb hacc
        go_wp2_with (at_builtin; refine wpList_append_own_none rfl (.tmp 51) (.tmp 52) 22 rfl w.heap.size 42 i0 2 Tryd.underlying22 hi _ _ _ rfl HO1.out rfl ?_)
        go_ret
        exact ⟨u5, rfl, by rw [← HACC.out]; exact HO1.out, HB1.out⟩
      · have hcl : ∀ i u, ((lb.drop j).flatMap Pt.cells)[i]? = some u → wq.cell? (ad.add i) = some u := fun i u hu => by
          have hi2 := (List.getElem?_eq_some_iff.1 hu).1
          rw [flatP_length, List.length_drop] at hi2
          rw [h2 (by omega), add_plain]
          exact pts_cells hpb i u hu
        have HCL := Lib.hid hcl
        have hfl : ((lb.drop j).flatMap Pt.cells).length = (lb.length - j) * 2 := by rw [flatP_length, List.length_drop]
        have HFL := Lib.hid hfl
        have hjl := hrest.1
        clear hrest hown hml hml2 hbw hpb hcl hfl h2
        go_wp2_with (at_builtin; refine wpList_append_own_at _ rfl (.tmp 51) (.tmp 52) 22 rfl w.heap.size 42 i0 (.agg #[.int .i64 0, .int .i64 0]) 2 16 Tryd.underlying22 hi hz0 hz1 hz2 rfl (by decide) _ _ _ rfl HO1.out ad (lb.length - j) c ((lb.drop j).flatMap Pt.cells) rfl HFL.out HCL.out (flatP_one _) (by unfold maxLen; omega) (by omega) hzq ?_; intro v5 W5 hown5 hgrow5 _ _; have HO5 := Lib.hid hown5; have HB5 := Lib.hid (HB1.out.grown hgrow5 hzq (fun k hk => (HO1.out.lt k hk).1)); clear hown5 hgrow5)
        go_ret
        exact ⟨v5, rfl, by rw [← hl2, HML.out, List.flatMap_append]; exact HO5.out, HB5.out⟩
end Go.Proofs.YtdfefhoihpbldaaDoor
