/- The law's own: does a hold of a table meet what lies between two ticks? -/
import Derived.Test.YthbdchleppbidaaGreatMJ
import Derived.Test.YthbdchleppbidaaGreatMC
import Derived.RangeFuncNested
import Derived.RangeFuncBound
import Derived.RangeFuncCalls
import Derived.RangeFuncLeaves
import Derived.RangeFuncBox
import Derived.OwnWalkIn
import Derived.TacticsInMore
import Derived.LoopNIn
import Derived.LoopIn
import Derived.Maps.AppendAt
import Derived.Handy
namespace Go.Proofs.YthbdchleppbidaaGreat
open Go.RowKit Go.Shelf

attribute [local go_sem] Oper.semAt_some

/-- does a hold meet what lies between two ticks of a series? -/
def hitX (s : ByteArray) (c d : Int) (h : Hld) : Bool := ofH s h && (decide (h.a < d) && decide (c < h.b))
theorem ret_boolC {fn : Func} {p : Tmp} (h : fn.results = #[.cell p 4]) {tmps : Array Value} {w : World} {Q : Nat} {r : Bool} (hp : tmps.getD p undef = .pointer (some ⟨Q, 0, none⟩)) (hq : w.cell? ⟨Q, 0, none⟩ = some (.bool r)) :
    (results fn tmps).run Tryz.prog w = .ok (.bool r) w := by
  rw [results_cell h, hp]
  go_simp
/-- what the boxes hold -/
structure HeldB (C : Nat) (s : ByteArray) (c d : Int) (r : Bool) (W : World) : Prop where
  b0 : W.heap[C]? = some (.cells #[.string s] 9 (0, 0))
  b1 : W.heap[C + 1]? = some (.cells #[.int .i64 c] 2 (0, 0))
  b2 : W.heap[C + 1 + 1]? = some (.cells #[.int .i64 d] 2 (0, 0))
  b3 : W.heap[C + 1 + 1 + 1]? = some (.cells #[.bool r] 4 (0, 0))
theorem HeldB.keep {C : Nat} {s : ByteArray} {c d : Int} {r : Bool} {W W' : World} (h : HeldB C s c d r W) (hb : Below W.heap.size W W') : HeldB C s c d r W' :=
  ⟨(hb.block _ (lt_of_block h.b0)).trans h.b0, (hb.block _ (lt_of_block h.b1)).trans h.b1, (hb.block _ (lt_of_block h.b2)).trans h.b2, (hb.block _ (lt_of_block h.b3)).trans h.b3⟩
theorem HeldB.own {α : Type} {B C : Nat} {s : ByteArray} {c d : Int} {r : Bool} (hB : C + 1 + 1 + 1 < B) : OwnFrom B (fun (_ : α) W => HeldB C s c d r W) := fun _ X Y row h hg hr => by
  have key : ∀ k o, k < B → X.heap[k]? = some o → Y.heap[k]? = some o := fun k o hk ho => (hg.block k (lt_of_block ho) (fun e => by have := (hr k e.symm).1; omega)).trans ho
  exact ⟨key _ _ (by omega) h.b0, key _ _ (by omega) h.b1, key _ _ (by omega) h.b2, key _ _ (by omega) h.b3⟩
/-- the row that is gone through lies as it lay -/
theorem sameH_own {α : Type} {B : Nat} {v : Value} {V : World} (hv : ∀ k, v.ownBlock = some k → k < B ∧ k < V.heap.size) : OwnFrom B (fun (_ : α) W => V.heap.size ≤ W.heap.size ∧ ∀ k, v.ownBlock = some k → W.heap[k]? = V.heap[k]?) := fun _ X Y row hs hg hr =>
  ⟨Nat.le_trans hs.1 hg.size, fun k hk => (hg.block k (Nat.lt_of_lt_of_le (hv k hk).2 hs.1) (fun e => by have := (hr k e.symm).1; have := (hv k hk).1; omega)).trans (hs.2 k hk)⟩
theorem hold_cellsX {W : World} {P : Nat} {x : Hld} (h : W.heap[P]? = some (.cells #[.string x.name, .string x.ser, .int .i64 x.a, .int .i64 x.b] 60 (0, 0))) :
    W.cell? ⟨P, 0, none⟩ = some (.string x.name) ∧ W.cell? ⟨P, 1, none⟩ = some (.string x.ser) ∧ W.cell? ⟨P, 2, none⟩ = some (.int .i64 x.a) ∧ W.cell? ⟨P, 3, none⟩ = some (.int .i64 x.b) :=
  ⟨by simp [World.cell?, h], by simp [World.cell?, h], by simp [World.cell?, h], by simp [World.cell?, h]⟩
theorem text_empty (s : ByteArray) : s.toList.isEmpty = (s.toList == (⟨#[]⟩ : ByteArray).toList) := by simp
theorem hit_text (s : ByteArray) (c d : Int) (y : Hld) : hitX s c d y = ((y.ser.toList.isEmpty || (y.ser.toList == s.toList)) && (decide (y.a < d) && decide (c < y.b))) := by
  unfold hitX ofH
  rw [text_empty, text_beq, text_beq]
  congr 2
  rw [decide_eq_decide]
  exact ⟨fun h => bytes_empty h, fun h => by rw [h]; rfl⟩
/-- none so far is one that meets it -/
def NoneX (s : ByteArray) (c d : Int) {xs : List Hld} (pre : List (Fin xs.length)) : Prop := ∀ i ∈ pre, hitX s c d xs[i] = false
theorem none_snoc {s : ByteArray} {c d : Int} {xs : List Hld} {pre : List (Fin xs.length)} {x : Fin xs.length} (h : NoneX s c d pre) (hx : hitX s c d xs[x] = false) : NoneX s c d (pre ++ [x]) := fun i hi => by
  rcases List.mem_append.1 hi with h1 | h1
  · exact h i h1
  · rw [List.mem_singleton.1 h1]; exact hx
theorem HeldB.hit {C : Nat} {s : ByteArray} {c d : Int} {r : Bool} {W : World} (h : HeldB C s c d r W) : HeldB C s c d true (W.setCell ⟨C + 1 + 1 + 1, 0, none⟩ (.bool true)) := by
  have e := heap_setCell_same W (C + 1 + 1 + 1) 0 _ _ (.bool true) h.b3
  exact ⟨(Below.heap_setCell _ _ _ _ (show C ≠ C + 1 + 1 + 1 by omega)).trans h.b0, (Below.heap_setCell _ _ _ _ (show C + 1 ≠ C + 1 + 1 + 1 by omega)).trans h.b1, (Below.heap_setCell _ _ _ _ (show C + 1 + 1 ≠ C + 1 + 1 + 1 by omega)).trans h.b2, by rw [e]; rfl⟩
theorem noneX_all {s : ByteArray} {c d : Int} {xs m : List Hld} (hp : xs.Perm m) (h : NoneX s c d (List.finRange xs.length)) : m.any (hitX s c d) = false := by
  rw [← hp.any_eq, List.any_eq_false]
  intro x hx
  obtain ⟨i, hi, rfl⟩ := List.mem_iff_getElem.1 hx
  have := h ⟨i, hi⟩ (List.mem_finRange _)
  simpa using this
theorem someX_all {s : ByteArray} {c d : Int} {xs m : List Hld} (hp : xs.Perm m) (i : Fin xs.length) (h : hitX s c d xs[i] = true) : m.any (hitX s c d) = true := by
  rw [← hp.any_eq, List.any_eq_true]
  exact ⟨xs[i], List.getElem_mem _, h⟩
set_option maxHeartbeats 16000000 in
set_option maxRecDepth 1000000 in
theorem exheld_any {w : World} {p : Nat} {b : Option Nat} {m : List Hld} (h : TabAt w p b m) (t : TabM m) (s : ByteArray) (c d : Int) :
    Calls Tryz.prog 19 #[.pointer (some ⟨p, 0, none⟩), .string s, .int .i64 c, .int .i64 d] w fun e w' => e = .returned (.bool (m.any (hitX s c d))) ∧ Below w.heap.size w w' := by
  have HAL : Hid (∀ W, Below w.heap.size w W → Calls Tryz.prog 40 #[.pointer (some ⟨p, 0, none⟩)] W fun e w' => ∃ B v xs, e = .returned (.func (.func 86) #[] #[.pointer (some ⟨B, 0, none⟩)]) ∧ AllAt W w' m v B xs) := Lib.hid fun W hW => hoall_any (h.below hW) t
  have HTM := Lib.hid t
  clear h t
  refine (callsIn_wide (n := 4)).1 ?_
  refine callsIn_of_wp_marks Tryz.func19 rfl trivial ?_ rfl
  simp only [Tryz.ntmps19, List.size_toArray, List.length_cons, List.length_nil, Nat.reduceAdd, Nat.reduceSub, Array.replicate_succ, Array.replicate_zero, List.push_toArray, List.append_toArray, List.nil_append, List.cons_append]
  refine wpIn_wide.2 ?_
  go_upto_region 1 with fail
  refine wp_name fun W1 hW1 => ?_
  obtain ⟨C, hC⟩ : ∃ C, C = w.heap.size := ⟨_, rfl⟩
  have hb1 : Below w.heap.size w W1 := by rw [hW1.out]; exact ((((Below.refl _ _).alloc (Nat.le_refl _) _).alloc (by simp) _).alloc (by simp; omega) _).alloc (by simp; omega) _
  have e1 : (w.alloc (.cells #[.string s] 9)).heap.size = C + 1 := by rw [hC]; simp
  have e2 : ((w.alloc (.cells #[.string s] 9)).alloc (.cells #[.int .i64 c] 2)).heap.size = C + 1 + 1 := by rw [hC]; simp
  have e3 : (((w.alloc (.cells #[.string s] 9)).alloc (.cells #[.int .i64 c] 2)).alloc (.cells #[.int .i64 d] 2)).heap.size = C + 1 + 1 + 1 := by rw [hC]; simp
  have HX1 : Hid (HeldB C s c d false W1) := Lib.hid (by
    rw [hW1.out]
    refine ⟨?_, ?_, ?_, ?_⟩
    · rw [Below.heap_alloc _ _ _ (by rw [e3]; omega), Below.heap_alloc _ _ _ (by rw [e2]; omega), Below.heap_alloc _ _ _ (by rw [e1]; omega), hC]; exact heap_alloc_new w _
    · rw [Below.heap_alloc _ _ _ (by rw [e3]; omega), Below.heap_alloc _ _ _ (by rw [e2]; omega), ← e1]; exact heap_alloc_new _ _
    · rw [Below.heap_alloc _ _ _ (by rw [e3]; omega), ← e2]; exact heap_alloc_new _ _
    · rw [← e3]; exact heap_alloc_new _ _)
  have HB1 := Lib.hid hb1
  have HC := Lib.hid hC
  rw [← hC]
  clear hW1 hb1 hC e1 e2 e3
  go_wp2_with fail
  refine (HAL.out W1 HB1.out).mono ?_
  rintro e W2 ⟨B, v, xs, rfl, hB, hBW, hpm, -, hli, hv, hb2⟩
  have HX2 := Lib.hid (HX1.out.keep hb2)
  have HB2 := Lib.hid (HB1.out.trans (hb2.mono HB1.out.size))
  have HBB := Lib.hid hB
  have HPM := Lib.hid hpm
  have HLI := Lib.hid hli
  have HVL : Hid (∀ k, v.ownBlock = some k → W1.heap.size ≤ k ∧ k < W2.heap.size) := Lib.hid hv
  have HCL : Hid (C + 1 + 1 + 1 < W1.heap.size ∧ W1.heap.size ≤ W2.heap.size) := Lib.hid ⟨lt_of_block HX1.out.b3, hb2.size⟩
  have hlen : xs.length ≤ 1000000 := by have := HTM.out.few; rw [hpm.length_eq]; omega
  have HSM : Hid (∀ x ∈ xs, x.name.size ≤ 16 ∧ x.ser.size ≤ 16) := Lib.hid fun x hx => ⟨(HTM.out.small x (hpm.mem_iff.1 hx)).1, (HTM.out.small x (hpm.mem_iff.1 hx)).2.1⟩
  clear hB hBW hpm hli hv hb2 HAL HX1 HB1
  dsimp only
  go_wp2_with fail
  have h2C : C + 1 + 1 + 1 < W2.heap.size := by have := HCL.out; omega
  refine (wpIn_wide (n := 4)).1 ?_
  refine wpIn_rangeFunc_ownH (α := Fin xs.length) rfl (by omega) (gf := 86) (lb := #[.pointer (some ⟨B, 0, none⟩)]) rfl trivial (enters_of Tryz.func86 (by kernel_rfl) rfl)
    (hoall_seq 3 B W2 v xs (by omega) HBB.out HLI.out (fun k hk => (HVL.out k hk).2) hlen HSM.out) (fun h k => KeepV.trans h k) (keepV_b (fun k hk => (HVL.out k hk).2)) (Below.refl _ _) (fun _ => rfl)
    (fun pre W => (HeldB C s c d false W ∧ Below C w W) ∧ (W2.heap.size ≤ W.heap.size ∧ ∀ k, v.ownBlock = some k → W.heap[k]? = W2.heap[k]?) ∧ NoneX s c d pre)
    (fun cd _ W => cd = .ret ∧ (HeldB C s c d true W ∧ Below C w W) ∧ m.any (hitX s c d) = true)
    (OwnFrom.and (OwnFrom.and (HeldB.own h2C) (ownFrom_below (by rw [HC.out]; exact Nat.le_refl _) (by omega))) (OwnFrom.and (sameH_own fun k hk => ⟨(HVL.out k hk).2, (HVL.out k hk).2⟩) (ownFrom_pure _ _)))
    (fun cd => OwnFrom.and (ownFrom_pure _ _) (OwnFrom.and (OwnFrom.and (HeldB.own h2C) (ownFrom_below (by rw [HC.out]; exact Nat.le_refl _) (by omega))) (ownFrom_pure _ _)))
    ⟨⟨HX2.out, by rw [HC.out]; exact HB2.out⟩, ⟨Nat.le_refl _, fun _ _ => rfl⟩, fun i hi => by cases hi⟩
    (fun x a' W => ∃ Bx, C + 1 + 1 + 1 < Bx ∧ W.heap[Bx]? = some (.cells #[.string xs[x].name, .string xs[x].ser, .int .i64 xs[x].a, .int .i64 xs[x].b] 60 (0, 0)) ∧ a' = { tmps := #[.pointer (some ⟨p, 0, none⟩), .string s, .int .i64 c, .int .i64 d, undef, .pointer (some ⟨C, 0, none⟩), .pointer (some ⟨C + 1, 0, none⟩), .pointer (some ⟨C + 1 + 1, 0, none⟩), .pointer (some ⟨C + 1 + 1 + 1, 0, none⟩), .pointer (some ⟨Bx, 0, none⟩), .pointer (some ⟨p, 0, none⟩), .func (.func 86) #[] #[.pointer (some ⟨B, 0, none⟩)], .agg #[.string xs[x].name, .string xs[x].ser, .int .i64 xs[x].a, .int .i64 xs[x].b], undef, undef, undef, undef, undef, undef, undef, undef, undef, undef, undef, undef, undef, undef, undef, undef, undef, undef, undef, undef, undef, undef, undef], defers := [] })
    (fun x a' _ X Y row hs hg hrw => by
      obtain ⟨Bx, h1, h2, h3⟩ := hs
      refine ⟨Bx, h1, (hg.block Bx (lt_of_block h2) (fun e => ?_)).trans h2, h3⟩
      obtain ⟨-, o, ho, hc⟩ := hrw Bx e.symm
      rw [h2] at ho
      cases ho
      cases hc) ?assign ?body ?done ?stop
  case assign =>
    rintro lp pre x W K hi hK
    obtain ⟨⟨hx, hbel⟩, ⟨hsz, hsv⟩, hno⟩ := hi
    have hlt := lt_of_block hx.b3
    have hv2 : ∀ k, v.ownBlock = some k → k < W.heap.size := fun k hk => Nat.lt_of_lt_of_le (HVL.out k hk).2 hsz
    have hal := (Below.refl W.heap.size W).alloc (Nat.le_refl _)
    unfold Hld.val
    gi_wp2
    exact hK _ _ ((KeepsOthers.alloc W _).from _) (fun k hk => Below.heap_alloc _ _ _ (hv2 k hk)) ⟨⟨hx.keep (hal _), hbel.alloc (by omega) _⟩, ⟨by simp; omega, fun k hk => (Below.heap_alloc _ _ _ (hv2 k hk)).trans (hsv k hk)⟩, hno⟩ ⟨W.heap.size, hlt, heap_alloc_new W _, rfl⟩
  case stop =>
    rintro D cd pre W hD hsp ⟨rfl, ⟨hx, hbel⟩, hany⟩ hK
    refine wpIn_wide.2 ?_
    go_wp2_with fail
    refine ⟨by simp, .inl ⟨_, _, rfl, run_takeDeferred hK, ?_⟩⟩
    have c3 : (W.putObj D (.deferred none)).cell? ⟨C + 1 + 1 + 1, 0, none⟩ = some (.bool true) := by
      have e : (W.putObj D (.deferred none)).heap[C + 1 + 1 + 1]? = W.heap[C + 1 + 1 + 1]? := World.putObj_heap_other (by omega)
      exact (cells1 (e.trans hx.b3)).1
    refine ⟨_, ret_boolC (Q := C + 1 + 1 + 1) rfl rfl c3, by rw [hany], ?_⟩
    rw [← HC.out]
    exact hbel.grown (grownBy_putObj' W D _) (by rw [HC.out]; exact hbel.size) (fun k e => by cases e; have := HCL.out; omega)
  case done =>
    rintro D ys W hD rfl ⟨⟨hx, hbel⟩, -, hno⟩ hK
    have hany := noneX_all HPM.out hno
    have HKK := Lib.hid hK
    have HXX := Lib.hid hx
    have HBL := Lib.hid hbel
    have HAN := Lib.hid hany
    obtain ⟨c3, f3⟩ := cells1 hx.b3
    clear hK hx hbel hany hno
    go_wp2_with fail
    generalize hV : World.setCell _ _ _ = V
    have hb3 : V.heap[C + 1 + 1 + 1]? = some (.cells #[.bool false] 4 (0, 0)) := by
      have e := heap_setCell_same W (C + 1 + 1 + 1) 0 _ _ (.bool false) HXX.out.b3
      rw [← hV, e]; rfl
    have hoV : Only (fun k => k = C + 1 + 1 + 1) W V := by rw [← hV]; exact Only.setCell (S := fun k => k = C + 1 + 1 + 1) W rfl _
    have hKV : V.heap[D]? = some (.deferred (some [])) := (hoV.block D (Array.getElem?_eq_some_iff.1 HKK.out).1 (by omega)).trans HKK.out
    have hbV : Below C w V := HBL.out.trans (hoV.below (by have := HBL.out.size; rw [HC.out]; exact this) (fun k hk => by omega))
    refine ⟨by simp, .inl ⟨_, _, rfl, run_takeDeferred hKV, ?_⟩⟩
    have c4 : (V.putObj D (.deferred none)).cell? ⟨C + 1 + 1 + 1, 0, none⟩ = some (.bool false) := by
      have e : (V.putObj D (.deferred none)).heap[C + 1 + 1 + 1]? = V.heap[C + 1 + 1 + 1]? := World.putObj_heap_other (by omega)
      exact (cells1 (e.trans hb3)).1
    refine ⟨_, ret_boolC (Q := C + 1 + 1 + 1) rfl rfl c4, by rw [HAN.out], ?_⟩
    rw [← HC.out]
    exact hbV.grown (grownBy_putObj' V D _) (by rw [HC.out]; exact hbV.size) (fun k e => by cases e; have := HCL.out; omega)
  case body =>
    rintro lp pre x a' W hlp hrec ⟨⟨hx, hbel⟩, ⟨hsz, hsv⟩, hno⟩ ⟨Bx, hBx, hX, rfl⟩ hlt
    obtain ⟨d0, d1, d2, d3⟩ := hold_cellsX hX
    obtain ⟨b0, -⟩ := cells1 hx.b0
    obtain ⟨b1, -⟩ := cells1 hx.b1
    obtain ⟨b2, -⟩ := cells1 hx.b2
    obtain ⟨b3, f3⟩ := cells1 hx.b3
    have HXX := Lib.hid hx
    have HBL := Lib.hid hbel
    have HSZ := Lib.hid hsz
    have HSV := Lib.hid hsv
    have HNO := Lib.hid hno
    have HRE := Lib.hid hrec
    obtain ⟨y, hy⟩ : ∃ y, y = xs[x] := ⟨_, rfl⟩
    rw [← hy] at d0 d1 d2 d3
    have HY := Lib.hid hy
    have HIT : Hid (hitX s c d y = ((y.ser.toList.isEmpty || (y.ser.toList == s.toList)) && (decide (y.a < d) && decide (c < y.b)))) := Lib.hid (hit_text s c d y)
    clear hx hbel hsz hsv hno hrec hX hy hlp
    cases k0 : y.ser.toList.isEmpty with
    | true =>
      rw [k0] at HIT
      cases k1 : (y.ser.toList == s.toList) with
      | true =>
        rw [k1] at HIT
        cases k2 : decide (y.a < d) with
        | false =>
          rw [k2] at HIT
          have HNX : Hid (NoneX s c d (pre ++ [x])) := Lib.hid (none_snoc HNO.out (by rw [← HY.out]; exact HIT.out))
          gi_wp2
          exact ⟨(KeepsOthers.refl W).from _, fun _ _ => rfl, ⟨HXX.out, HBL.out⟩, ⟨HSZ.out, HSV.out⟩, HNX.out⟩
        | true =>
          rw [k2] at HIT
          cases k3 : decide (c < y.b) with
          | false =>
            rw [k3] at HIT
            have HNX : Hid (NoneX s c d (pre ++ [x])) := Lib.hid (none_snoc HNO.out (by rw [← HY.out]; exact HIT.out))
            gi_wp2
            exact ⟨(KeepsOthers.refl W).from _, fun _ _ => rfl, ⟨HXX.out, HBL.out⟩, ⟨HSZ.out, HSV.out⟩, HNX.out⟩
          | true =>
            rw [k3] at HIT
            have HAN : Hid (m.any (hitX s c d) = true) := Lib.hid (someX_all HPM.out x (by rw [← HY.out]; exact HIT.out))
            gi_wp2
            exact ⟨(KeepsOthers.setCell _ _ _).from _, rfl, ⟨HXX.out.hit, HBL.out.setCell (p := ⟨C + 1 + 1 + 1, 0, none⟩) (by show C ≤ C + 1 + 1 + 1; omega) _⟩, HAN.out⟩
      | false =>
        rw [k1] at HIT
        cases k2 : decide (y.a < d) with
        | false =>
          rw [k2] at HIT
          have HNX : Hid (NoneX s c d (pre ++ [x])) := Lib.hid (none_snoc HNO.out (by rw [← HY.out]; exact HIT.out))
          gi_wp2
          exact ⟨(KeepsOthers.refl W).from _, fun _ _ => rfl, ⟨HXX.out, HBL.out⟩, ⟨HSZ.out, HSV.out⟩, HNX.out⟩
        | true =>
          rw [k2] at HIT
          cases k3 : decide (c < y.b) with
          | false =>
            rw [k3] at HIT
            have HNX : Hid (NoneX s c d (pre ++ [x])) := Lib.hid (none_snoc HNO.out (by rw [← HY.out]; exact HIT.out))
            gi_wp2
            exact ⟨(KeepsOthers.refl W).from _, fun _ _ => rfl, ⟨HXX.out, HBL.out⟩, ⟨HSZ.out, HSV.out⟩, HNX.out⟩
          | true =>
            rw [k3] at HIT
            have HAN : Hid (m.any (hitX s c d) = true) := Lib.hid (someX_all HPM.out x (by rw [← HY.out]; exact HIT.out))
            gi_wp2
            exact ⟨(KeepsOthers.setCell _ _ _).from _, rfl, ⟨HXX.out.hit, HBL.out.setCell (p := ⟨C + 1 + 1 + 1, 0, none⟩) (by show C ≤ C + 1 + 1 + 1; omega) _⟩, HAN.out⟩
    | false =>
      rw [k0] at HIT
      cases k1 : (y.ser.toList == s.toList) with
      | false =>
        rw [k1] at HIT
        have HNX : Hid (NoneX s c d (pre ++ [x])) := Lib.hid (none_snoc HNO.out (by rw [← HY.out]; exact HIT.out))
        gi_wp2
        exact ⟨(KeepsOthers.refl W).from _, fun _ _ => rfl, ⟨HXX.out, HBL.out⟩, ⟨HSZ.out, HSV.out⟩, HNX.out⟩
      | true =>
        rw [k1] at HIT
        cases k2 : decide (y.a < d) with
        | false =>
          rw [k2] at HIT
          have HNX : Hid (NoneX s c d (pre ++ [x])) := Lib.hid (none_snoc HNO.out (by rw [← HY.out]; exact HIT.out))
          gi_wp2
          exact ⟨(KeepsOthers.refl W).from _, fun _ _ => rfl, ⟨HXX.out, HBL.out⟩, ⟨HSZ.out, HSV.out⟩, HNX.out⟩
        | true =>
          rw [k2] at HIT
          cases k3 : decide (c < y.b) with
          | false =>
            rw [k3] at HIT
            have HNX : Hid (NoneX s c d (pre ++ [x])) := Lib.hid (none_snoc HNO.out (by rw [← HY.out]; exact HIT.out))
            gi_wp2
            exact ⟨(KeepsOthers.refl W).from _, fun _ _ => rfl, ⟨HXX.out, HBL.out⟩, ⟨HSZ.out, HSV.out⟩, HNX.out⟩
          | true =>
            rw [k3] at HIT
            have HAN : Hid (m.any (hitX s c d) = true) := Lib.hid (someX_all HPM.out x (by rw [← HY.out]; exact HIT.out))
            gi_wp2
            exact ⟨(KeepsOthers.setCell _ _ _).from _, rfl, ⟨HXX.out.hit, HBL.out.setCell (p := ⟨C + 1 + 1 + 1, 0, none⟩) (by show C ≤ C + 1 + 1 + 1; omega) _⟩, HAN.out⟩
end Go.Proofs.YthbdchleppbidaaGreat
