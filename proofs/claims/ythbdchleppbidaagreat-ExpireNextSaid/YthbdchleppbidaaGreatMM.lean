/- ExFst, ExFirst, ExNxt: laid into one. -/
import Derived.Test.YthbdchleppbidaaGreatML
import Derived.Test.YthbdchleppbidaaGreatMV
import Derived.Test.YthbdchleppbidaaGreatMP
import Derived.Test.YthbdchleppbidaaGreatMW
import Derived.Test.YthbdchleppbidaaGreatZIntRow
import Derived.Laws.ResultCell
import Derived.Lib.MinMax
import Derived.Deep.DeepCutAuto
import Derived.Deep.RegionHeld3
import Derived.Test.YthbdchleppbidaaGreatMX
import Derived.Test.YthbdchleppbidaaGreatMF
/- Package expire: first, since, and slices.Min. -/
namespace Go.Proofs.YthbdchleppbidaaGreat
open Go.RowKit

/-! ### since -/
def sinceN (n til : Int) : Int := (sinceX n til).getD 0
def sinceB (n til : Int) : Bool := (sinceX n til).isSome
theorem since_eq (n til : Int) : (0 < n ∧ til ≤ 9223372036854775807 - n → sinceN n til = til + n ∧ sinceB n til = true) ∧ (¬ (0 < n ∧ til ≤ 9223372036854775807 - n) → sinceN n til = 0 ∧ sinceB n til = false) := by
  unfold sinceN sinceB sinceX
  exact ⟨fun h => by rw [if_pos h]; exact ⟨rfl, rfl⟩, fun h => by rw [if_neg h]; exact ⟨rfl, rfl⟩⟩
set_option maxHeartbeats 4000000 in
set_option maxRecDepth 100000 in
theorem exsince_any (w : World) (a b c t lo hi : Int) (hn : -9223372036854775808 ≤ ofP a b c t ∧ ofP a b c t ≤ 9223372036854775807) (hh : 0 ≤ hi ∧ hi ≤ 9223372036854775807) :
    Calls Tryz.prog 50 #[.agg #[.int .i64 a, .int .i64 b, .int .i64 c], .int .i64 t, .agg #[.int .i64 lo, .int .i64 hi]] w fun e w' => e = .returned (.tuple #[.int .i64 (sinceN (ofP a b c t) hi), .bool (sinceB (ofP a b c t) hi)]) ∧ Below w.heap.size w w' := by
  have HO : Hid (∀ W, Calls Tryz.prog 94 #[.agg #[.int .i64 a, .int .i64 b, .int .i64 c], .int .i64 t] W fun e w' => e = .returned (.int .i64 (ofP a b c t)) ∧ Below W.heap.size W w') := Lib.hid fun W => poof_any W a b c t
  obtain ⟨n, hN⟩ : ∃ n, n = ofP a b c t := ⟨_, rfl⟩
  rw [← hN] at HO hn ⊢
  have HE := Lib.hid (since_eq n hi)
  obtain ⟨N, hNN⟩ : ∃ x, x = sinceN n hi := ⟨_, rfl⟩
  obtain ⟨K, hK⟩ : ∃ x, x = sinceB n hi := ⟨_, rfl⟩
  rw [← hNN, ← hK] at HE
  rw [← hNN, ← hK]
  clear hN hNN hK
  go_enter Tryz.func50, Tryz.ntmps50
  go_upto_region 1 with fail
  refine wp_name fun W1 hW1 => ?_
  obtain ⟨P, hP⟩ : ∃ P, P = w.heap.size := ⟨_, rfl⟩
  have e2 : (w.alloc (.cells #[.int .i64 a, .int .i64 b, .int .i64 c] 25)).heap.size = P + 1 := by rw [hP]; simp
  have HP : Hid (PolAt W1 P a b c) := Lib.hid (by rw [hW1.out, hP]; exact (PolAt.new w a b c).old _)
  have HR : Hid (RgAt W1 (P + 1) lo hi) := Lib.hid (by rw [hW1.out, ← e2]; exact RgAt.new _ lo hi)
  have HB1 : Hid (Below w.heap.size w W1) := Lib.hid (by rw [hW1.out]; exact ((Below.refl _ _).alloc (Nat.le_refl _) _).alloc (by simp) _)
  rw [← hP]
  obtain ⟨c0, c1, c2, -, -, -⟩ := HP.out.cells
  clear hW1 hP e2
  go_wp2_with fail
  refine (HO.out W1).mono ?_
  rintro e W2 ⟨rfl, hb⟩
  have HB2 := Lib.hid (HB1.out.trans (hb.mono HB1.out.size))
  have HR2 := Lib.hid (HR.out.keep hb)
  clear hb c0 c1 c2 HP HB1 HR
  dsimp only
  obtain ⟨r0, r1, -, -⟩ := HR2.out.cells
  by_cases h1 : n ≤ 0
  · have t1 : decide (n ≤ 0) = true := decide_eq_true h1
    have HX := Lib.hid (HE.out.2 (by omega))
    go_wp2
    go_ret2
    exact ⟨by rw [HX.out.1, HX.out.2]; rfl, HB2.out⟩
  · have t1 : decide (n ≤ 0) = false := decide_eq_false h1
    have hw : IntKind.i64.wrap (9223372036854775807 - n) = 9223372036854775807 - n := by rw [IntKind.wrap_i64]; omega
    by_cases h2 : 9223372036854775807 - n < hi
    · have t2 : decide (9223372036854775807 - n < hi) = true := decide_eq_true h2
      have HX := Lib.hid (HE.out.2 (by omega))
      go_wp2
      go_ret2
      exact ⟨by rw [HX.out.1, HX.out.2]; rfl, HB2.out⟩
    · have t2 : decide (9223372036854775807 - n < hi) = false := decide_eq_false h2
      have HX := Lib.hid (HE.out.1 (by omega))
      have hw2 : IntKind.i64.wrap (hi + n) = hi + n := by rw [IntKind.wrap_i64]; omega
      go_wp2
      go_ret2
      exact ⟨by rw [HX.out.1, HX.out.2]; rfl, HB2.out⟩
/-! ### slices.Min -/
theorem minL_snoc {l : List Int} (hne : l ≠ []) (x : Int) : minL (l ++ [x]) = min (minL l) x := by
  cases l with
  | nil => exact absurd rfl hne
  | cons y r => show (r ++ [x]).foldl min y = _; rw [List.foldl_append]; rfl
theorem minL_one (x : Int) : minL [x] = x := rfl
set_option maxHeartbeats 4000000 in
set_option maxRecDepth 100000 in
theorem min_any {w : World} {B : Nat} {v : Value} {zs : List Int} (h : IntRow B w v zs) (hne : zs ≠ []) (hn : zs.length ≤ 1000000) :
    Calls Tryz.prog 51 #[v] w fun e w' => e = .returned (.int .i64 (minL zs)) ∧ w' = w := by
  rcases h.opened with ⟨-, h0⟩ | ⟨g, cap, R, rfl, -, hg, -⟩
  · exact absurd h0 hne
  have hc : ∀ i x, zs[i]? = some x → w.cell? ⟨g, i, none⟩ = some (.int .i64 x) := fun i x hx => by
    rw [cell_of_row w g i _ _ _ hg]
    have hi := (List.getElem?_eq_some_iff.1 hx).1
    rw [List.getElem?_toArray, List.getElem?_append_left (by rw [List.length_map]; exact hi), List.getElem?_map, hx]; rfl
  have HC := Lib.hid hc
  obtain ⟨z, r, hz⟩ : ∃ z r, zs = z :: r := by
    cases zs with
    | nil => exact absurd rfl hne
    | cons z r => exact ⟨z, r, rfl⟩
  have h0 := hc 0 z (by rw [hz]; rfl)
  have HT1 : Hid (minL (zs.take 1) = z) := Lib.hid (by rw [hz]; rfl)
  have hl : 1 ≤ zs.length := by rw [hz]; simp
  have hpos : decide ((zs.length : Int) < 1) = false := decide_eq_false (by omega)
  clear h hg hz hne hc
  go_enter Tryz.func51, Tryz.ntmps51
  go_wp2_with fail
  go_loopw [3, 4] (fun m c wr => ∃ k : Nat, 1 ≤ k ∧ k ≤ zs.length ∧ c = .int .i64 k ∧ m = .int .i64 (minL (zs.take k)) ∧ wr = w) (fun _ c _ => zs.length - (intOf c).toNat)
  case atStart => exact ⟨1, Nat.le_refl _, hl, rfl, by rw [HT1.out], rfl⟩
  case round =>
    obtain ⟨k, hk1, hk, rfl, rfl, rfl⟩ := hrel
    clear h0 HT1 hpos hl
    obtain ⟨m, hm⟩ : ∃ m, m = minL (zs.take k) := ⟨_, rfl⟩
    rw [← hm]
    by_cases hlt : k < zs.length
    · obtain ⟨x, hx⟩ : ∃ x, zs[k]? = some x := ⟨zs[k], List.getElem?_eq_getElem hlt⟩
      have c0 := HC.out k x hx
      have hk0 : zs.take k ≠ [] := fun e => by
        have h9 : (zs.take k).length = 0 := by rw [e]; rfl
        rw [List.length_take] at h9
        omega
      have HTK : Hid (minL (zs.take (k + 1)) = min m x) := Lib.hid (by rw [take_snoc hx, minL_snoc hk0, hm])
      clear hk0
      have hmax : k < 9223372036854775807 := by omega
      clear hx hm
      go_wp2_with fail
      go_roundw
      case rel => exact ⟨k + 1, by omega, by omega, by go_num, by rw [HTK.out], trivial⟩
      case measure => simp [intOf]; omega
    · have HE : Hid (m = minL zs) := Lib.hid (by rw [hm, List.take_of_length_le (by omega)])
      clear hm
      go_wp2_with fail
      go_ret
      exact ⟨by rw [← HE.out]; rfl, rfl⟩
end Go.Proofs.YthbdchleppbidaaGreat
/- Package expire: the window of the first one that a tier has. -/
namespace Go.Proofs.YthbdchleppbidaaGreat
open Go.RowKit

/-- what first tells -/
def firstV (s : Stk) (t : Int) : Value := match firstX s t with
  | some x => .tuple #[.agg #[.int .i64 (startW t x), .int .i64 (endW t x)], .bool true]
  | none => .tuple #[.agg #[.int .i64 0, .int .i64 0], .bool false]
/-- a range stored -/
def setRgX (w : World) (P : Nat) (x y : Value) : World := (w.setCell ⟨P, 0, none⟩ x).setCell ⟨P, 1, none⟩ y
theorem setRgX_at {w : World} {P : Nat} {a b : Value} {t : TypeId} (h : w.heap[P]? = some (.cells #[a, b] t (0, 0))) (x y : Value) : (setRgX w P x y).heap[P]? = some (.cells #[x, y] t (0, 0)) := by
  have h1 := heap_setCell_same w P 0 _ _ x h
  have h2 := heap_setCell_same _ P 1 _ _ y h1
  unfold setRgX
  rw [h2]; simp
theorem setRgX_only (w : World) (P : Nat) (x y : Value) : Only (fun k => k = P) w (setRgX w P x y) :=
  (Only.setCell (S := fun k => k = P) _ rfl _).trans (Only.setCell (S := fun k => k = P) _ rfl _) (fun _ _ h => h)
theorem ret_rgX {fn : Func} {p u : Tmp} (h : fn.results = #[.cell p 41, .tmp u]) {tmps : Array Value} {w : World} {Q : Nat} {x y : Value} (hp : tmps.getD p undef = .pointer (some ⟨Q, 0, none⟩)) (hq : w.heap[Q]? = some (.cells #[x, y] 41 (0, 0))) :
    (results fn tmps).run Tryz.prog w = .ok (.tuple #[.agg #[x, y], tmps.getD u undef]) w := by
  obtain ⟨c0, c1, -, -⟩ := cells2 hq
  rw [results_cell_tmp h, hp]
  go_simp
theorem get_allX {s : Stk} (h : GoodT s) : getL s.raw 0 9223372036854775807 = s.raw :=
  List.filter_eq_self.2 fun q hq => by have := h.tick q hq; rw [decide_eq_true (by omega), decide_eq_true (by omega)]; rfl
theorem aggs_allX {s : Stk} (h : GoodT s) : aggsT s 1 0 9223372036854775807 = s.mid ∧ aggsT s 2 0 9223372036854775807 = s.long := by
  have h1 := h.mm
  have h2 := h.ml
  refine ⟨List.filter_eq_self.2 fun q hq => ?_, List.filter_eq_self.2 fun q hq => ?_⟩
  · have := h.mid.beg q hq
    unfold metA
    rw [decide_eq_true (show (0 : Int) < 9223372036854775807 by omega), decide_eq_true (show q.at_ < 9223372036854775807 by omega), decide_eq_true (show 0 < q.at_ + 300 by omega)]; rfl
  · have := h.long.beg q hq
    unfold metA
    rw [decide_eq_true (show (0 : Int) < 9223372036854775807 by omega), decide_eq_true (show q.at_ < 9223372036854775807 by omega), decide_eq_true (show 0 < q.at_ + 3600 by omega)]; rfl
theorem aggs_nilX (s : Stk) (a b : Int) : aggsT s 0 a b = [] := rfl
set_option maxHeartbeats 8000000 in
set_option maxRecDepth 100000 in
theorem exfirst_raw {w : World} {p : Nat} {s : Stk} (hs : tSit w p s) {q : Pt} {r : List Pt} (hq : s.raw = q :: r) :
    Calls Tryz.prog 49 #[.pointer (some ⟨p, 0, none⟩), .int .i64 0] w fun e w' => e = .returned (firstV s 0) ∧ Below w.heap.size w w' := by
  obtain ⟨sp, v, vm, vl, h⟩ := hs
  have HPT : Hid (∀ W, TSit W p sp v vm vl s → Calls Tryz.prog 16 #[.pointer (some ⟨p, 0, none⟩), .agg #[.int .i64 0, .int .i64 9223372036854775807]] W fun e w' => ∃ v', e = .returned v' ∧ PtRowB W.heap.size w' v' s.raw ∧ Below W.heap.size W w') := Lib.hid fun W hW => by
    have h1 := tipoints_any hW 0 9223372036854775807
    rwa [get_allX hW.good] at h1
  have HT := Lib.hid h
  have HLN : Hid (s.raw.length ≤ 256) := Lib.hid h.good.plen
  have HFV : Hid (firstV s 0 = .tuple #[.agg #[.int .i64 (startW 0 q.a), .int .i64 (endW 0 q.a)], .bool true]) := Lib.hid (by unfold firstV firstX; rw [if_pos rfl, hq]; rfl)
  have HQF := Lib.hid (h.good.tick q (by rw [hq]; exact List.mem_cons_self))
  have HOF : Hid (∀ V, Calls Tryz.prog 43 #[.int .i64 0, .int .i64 q.a] V fun e w' => e = .returned (.agg #[.int .i64 (startW 0 q.a), .int .i64 (endW 0 q.a)]) ∧ Below V.heap.size V w') := Lib.hid fun V => wiof_any V 0 q.a (by omega) (by omega) (by have := HQF.out; omega) (by have := HQF.out; omega)
  obtain ⟨S, hS⟩ : ∃ x, x = startW 0 q.a := ⟨_, rfl⟩
  obtain ⟨E, hE⟩ : ∃ x, x = endW 0 q.a := ⟨_, rfl⟩
  rw [← hS, ← hE] at HOF HFV
  obtain ⟨LP, hLP⟩ : ∃ l, l = s.raw := ⟨_, rfl⟩
  rw [← hLP] at HPT HLN
  rw [← hLP] at hq
  have HL0 : Hid (LP[0]? = some q ∧ LP.length ≠ 0) := Lib.hid (by rw [hq]; exact ⟨rfl, by simp⟩)
  clear hS hE hq
  clear h hLP
  go_enter Tryz.func49, Tryz.ntmps49
  go_upto_region 2 with fail
  refine wp_name fun W1 hW1 => ?_
  obtain ⟨P, hP⟩ : ∃ P, P = w.heap.size := ⟨_, rfl⟩
  have e2 : (w.alloc (.cells #[.int .i64 0, .int .i64 0] 41)).heap.size = P + 1 := by rw [hP]; simp
  have hb1 : Below w.heap.size w W1 := by rw [hW1.out]; exact ((Below.refl _ _).alloc (Nat.le_refl _) _).alloc (by simp) _
  have HR1 : Hid (RgAt W1 P 0 0) := Lib.hid (by rw [hW1.out, hP]; exact (RgAt.new w 0 0).old _)
  have HA1 : Hid (RgAt W1 (P + 1) 0 9223372036854775807) := Lib.hid (by rw [hW1.out, ← e2]; exact RgAt.new _ 0 9223372036854775807)
  have HT1 := Lib.hid (HT.out.keep hb1)
  have HB1 := Lib.hid hb1
  have HPP := Lib.hid hP
  rw [← hP]
  clear hW1 hP e2 hb1 HT
  obtain ⟨r0, r1, -, -⟩ := HA1.out.cells
  go_wp2_with fail
  refine (HPT.out W1 HT1.out).mono ?_
  rintro e W2 ⟨u, rfl, hr, hb⟩
  have HR2 := Lib.hid (HR1.out.keep hb)
  have HA2 := Lib.hid (HA1.out.keep hb)
  have HT2 := Lib.hid (HT1.out.keep hb)
  have HB2 := Lib.hid (HB1.out.trans (hb.mono HB1.out.size))
  obtain ⟨ua, ub, uo, uc, rfl, huadr, hupts⟩ := hr.plies
  have HUA := Lib.hid huadr
  have HUP := Lib.hid hupts
  clear hr hb huadr hupts r0 r1 HR1 HA1 HT1 HB1 HPT
  dsimp only
  have ea := HUA.out (by intro h0; have := HL0.out.2; rw [h0] at this; exact this rfl)
  subst ea
  obtain ⟨c0, -⟩ := HUP.out 0 q HL0.out.1
  simp only [Nat.zero_mul, Nat.add_zero] at c0
  have hpos : decide (0 < (LP.length : Int)) = true := decide_eq_true (by have := HL0.out.2; omega)
  have hpos2 : 0 < LP.length := by have := HL0.out.2; omega
  have HBX := HB2
  go_wp2_with fail
  refine (HOF.out W2).mono ?_
  rintro e W5 ⟨rfl, hb⟩
  have HR5 : Hid (RgAt W5 P 0 0) := Lib.hid (HR2.out.keep hb)
  have HB5 := Lib.hid (HBX.out.trans (hb.mono HBX.out.size))
  clear hb
  dsimp only
  obtain ⟨-, -, f0, f1⟩ := HR5.out.cells
  obtain ⟨z0, z1, -, -⟩ := HR5.out.cells
  go_wp2_with fail
  refine bodyPost_ret (ret_rgX rfl rfl (setRgX_at HR5.out _ _)) rfl ?_
  refine ⟨by rw [HFV.out]; rfl, HB5.out.trans ((setRgX_only W5 P _ _).below HB5.out.size (fun i hi => ?_))⟩
  rw [hi, HPP.out]; exact Nat.le_refl _
set_option maxHeartbeats 8000000 in
set_option maxRecDepth 100000 in
theorem exfirst_rawN {w : World} {p : Nat} {s : Stk} (hs : tSit w p s) (hq : s.raw = []) :
    Calls Tryz.prog 49 #[.pointer (some ⟨p, 0, none⟩), .int .i64 0] w fun e w' => e = .returned (firstV s 0) ∧ Below w.heap.size w w' := by
  obtain ⟨sp, v, vm, vl, h⟩ := hs
  have HPT : Hid (∀ W, TSit W p sp v vm vl s → Calls Tryz.prog 16 #[.pointer (some ⟨p, 0, none⟩), .agg #[.int .i64 0, .int .i64 9223372036854775807]] W fun e w' => ∃ v', e = .returned v' ∧ PtRowB W.heap.size w' v' s.raw ∧ Below W.heap.size W w') := Lib.hid fun W hW => by
    have h1 := tipoints_any hW 0 9223372036854775807
    rwa [get_allX hW.good] at h1
  have HAG : Hid (∀ W, TSit W p sp v vm vl s → Calls Tryz.prog 20 #[.pointer (some ⟨p, 0, none⟩), .int .i64 0, .agg #[.int .i64 0, .int .i64 9223372036854775807]] W fun e w' => ∃ v', e = .returned v' ∧ AgRow W.heap.size w' v' [] ∧ Below W.heap.size W w') := Lib.hid fun W hW => by
    have h1 := tiaggs_any (t := 0) (a := 0) (b := 9223372036854775807) ⟨sp, v, vm, vl, hW⟩ (by omega) (by omega)
    rwa [aggs_nilX] at h1
  have HT := Lib.hid h
  have HLN : Hid (s.raw.length ≤ 256) := Lib.hid h.good.plen
  have HFV : Hid (firstV s 0 = .tuple #[.agg #[.int .i64 0, .int .i64 0], .bool false]) := Lib.hid (by unfold firstV firstX; rw [if_pos rfl, hq]; rfl)
  obtain ⟨LP, hLP⟩ : ∃ l, l = s.raw := ⟨_, rfl⟩
  rw [← hLP] at HPT HLN
  rw [hq] at hLP
  subst hLP
  clear h
  go_enter Tryz.func49, Tryz.ntmps49
  go_upto_region 2 with fail
  refine wp_name fun W1 hW1 => ?_
  obtain ⟨P, hP⟩ : ∃ P, P = w.heap.size := ⟨_, rfl⟩
  have e2 : (w.alloc (.cells #[.int .i64 0, .int .i64 0] 41)).heap.size = P + 1 := by rw [hP]; simp
  have hb1 : Below w.heap.size w W1 := by rw [hW1.out]; exact ((Below.refl _ _).alloc (Nat.le_refl _) _).alloc (by simp) _
  have HR1 : Hid (RgAt W1 P 0 0) := Lib.hid (by rw [hW1.out, hP]; exact (RgAt.new w 0 0).old _)
  have HA1 : Hid (RgAt W1 (P + 1) 0 9223372036854775807) := Lib.hid (by rw [hW1.out, ← e2]; exact RgAt.new _ 0 9223372036854775807)
  have HT1 := Lib.hid (HT.out.keep hb1)
  have HB1 := Lib.hid hb1
  have HPP := Lib.hid hP
  rw [← hP]
  clear hW1 hP e2 hb1 HT
  obtain ⟨r0, r1, -, -⟩ := HA1.out.cells
  go_wp2_with fail
  refine (HPT.out W1 HT1.out).mono ?_
  rintro e W2 ⟨u, rfl, hr, hb⟩
  have HR2 := Lib.hid (HR1.out.keep hb)
  have HA2 := Lib.hid (HA1.out.keep hb)
  have HT2 := Lib.hid (HT1.out.keep hb)
  have HB2 := Lib.hid (HB1.out.trans (hb.mono HB1.out.size))
  obtain ⟨ua, ub, uo, uc, rfl, huadr, hupts⟩ := hr.plies
  have HUA := Lib.hid huadr
  have HUP := Lib.hid hupts
  clear hr hb huadr hupts r0 r1 HR1 HA1 HT1 HB1 HPT
  dsimp only
  obtain ⟨r0, r1, -, -⟩ := HA2.out.cells
  go_wp2_with fail
  refine (HAG.out W2 HT2.out).mono ?_
  rintro e W3 ⟨u, rfl, hr, hb⟩
  have HR3 := Lib.hid (HR2.out.keep hb)
  have HB3 := Lib.hid (HB2.out.trans (hb.mono HB2.out.size))
  obtain ⟨va, vb, vo, vc, rfl, hvadr, hvpts⟩ := hr.lies
  have HVA := Lib.hid hvadr
  have HVP := Lib.hid hvpts
  clear hr hb hvadr hvpts r0 r1 HR2 HA2 HT2 HB2 HAG
  dsimp only
  obtain ⟨-, -, f0, f1⟩ := HR3.out.cells
  obtain ⟨z0, z1, -, -⟩ := HR3.out.cells
  go_wp2_with fail
  refine bodyPost_ret (ret_rgX rfl rfl (setRgX_at HR3.out _ _)) rfl ?_
  refine ⟨by rw [HFV.out]; rfl, HB3.out.trans ((setRgX_only W3 P _ _).below HB3.out.size (fun i hi => ?_))⟩
  rw [hi, HPP.out]; exact Nat.le_refl _
set_option maxHeartbeats 8000000 in
set_option maxRecDepth 100000 in
theorem exfirst_mid {w : World} {p : Nat} {s : Stk} (hs : tSit w p s) {q : Ag} {r : List Ag} (hq : s.mid = q :: r) :
    Calls Tryz.prog 49 #[.pointer (some ⟨p, 0, none⟩), .int .i64 1] w fun e w' => e = .returned (firstV s 1) ∧ Below w.heap.size w w' := by
  obtain ⟨sp, v, vm, vl, h⟩ := hs
  have HPT : Hid (∀ W, TSit W p sp v vm vl s → Calls Tryz.prog 16 #[.pointer (some ⟨p, 0, none⟩), .agg #[.int .i64 0, .int .i64 9223372036854775807]] W fun e w' => ∃ v', e = .returned v' ∧ PtRowB W.heap.size w' v' s.raw ∧ Below W.heap.size W w') := Lib.hid fun W hW => by
    have h1 := tipoints_any hW 0 9223372036854775807
    rwa [get_allX hW.good] at h1
  have HAG : Hid (∀ W, TSit W p sp v vm vl s → Calls Tryz.prog 20 #[.pointer (some ⟨p, 0, none⟩), .int .i64 1, .agg #[.int .i64 0, .int .i64 9223372036854775807]] W fun e w' => ∃ v', e = .returned v' ∧ AgRow W.heap.size w' v' s.mid ∧ Below W.heap.size W w') := Lib.hid fun W hW => by
    have h1 := tiaggs_any (t := 1) (a := 0) (b := 9223372036854775807) ⟨sp, v, vm, vl, hW⟩ (by omega) (by omega)
    rwa [(aggs_allX hW.good).1] at h1
  have HT := Lib.hid h
  have HLN : Hid (s.raw.length ≤ 256) := Lib.hid h.good.plen
  have HFV : Hid (firstV s 1 = .tuple #[.agg #[.int .i64 (startW 1 q.at_), .int .i64 (endW 1 q.at_)], .bool true]) := Lib.hid (by unfold firstV firstX; rw [if_neg (by omega), if_pos rfl, hq]; rfl)
  have HQF := Lib.hid (h.good.mid.fits q (by rw [hq]; exact List.mem_cons_self))
  have HOF : Hid (∀ V, Calls Tryz.prog 43 #[.int .i64 1, .int .i64 q.at_] V fun e w' => e = .returned (.agg #[.int .i64 (startW 1 q.at_), .int .i64 (endW 1 q.at_)]) ∧ Below V.heap.size V w') := Lib.hid fun V => wiof_any V 1 q.at_ (by omega) (by omega) HQF.out.a0 HQF.out.a1
  have HGL : Hid (s.mid.length ≤ 256) := Lib.hid h.good.mid.len
  obtain ⟨S, hS⟩ : ∃ x, x = startW 1 q.at_ := ⟨_, rfl⟩
  obtain ⟨E, hE⟩ : ∃ x, x = endW 1 q.at_ := ⟨_, rfl⟩
  rw [← hS, ← hE] at HOF HFV
  obtain ⟨LA, hLA⟩ : ∃ l, l = s.mid := ⟨_, rfl⟩
  rw [← hLA] at HAG HGL hq
  have HL0 : Hid (LA[0]? = some q ∧ LA.length ≠ 0) := Lib.hid (by rw [hq]; exact ⟨rfl, by simp⟩)
  clear hS hE hq hLA
  obtain ⟨LP, hLP⟩ : ∃ l, l = s.raw := ⟨_, rfl⟩
  rw [← hLP] at HPT HLN
  clear h hLP
  go_enter Tryz.func49, Tryz.ntmps49
  go_upto_region 2 with fail
  refine wp_name fun W1 hW1 => ?_
  obtain ⟨P, hP⟩ : ∃ P, P = w.heap.size := ⟨_, rfl⟩
  have e2 : (w.alloc (.cells #[.int .i64 0, .int .i64 0] 41)).heap.size = P + 1 := by rw [hP]; simp
  have hb1 : Below w.heap.size w W1 := by rw [hW1.out]; exact ((Below.refl _ _).alloc (Nat.le_refl _) _).alloc (by simp) _
  have HR1 : Hid (RgAt W1 P 0 0) := Lib.hid (by rw [hW1.out, hP]; exact (RgAt.new w 0 0).old _)
  have HA1 : Hid (RgAt W1 (P + 1) 0 9223372036854775807) := Lib.hid (by rw [hW1.out, ← e2]; exact RgAt.new _ 0 9223372036854775807)
  have HT1 := Lib.hid (HT.out.keep hb1)
  have HB1 := Lib.hid hb1
  have HPP := Lib.hid hP
  rw [← hP]
  clear hW1 hP e2 hb1 HT
  obtain ⟨r0, r1, -, -⟩ := HA1.out.cells
  go_wp2_with fail
  refine (HPT.out W1 HT1.out).mono ?_
  rintro e W2 ⟨u, rfl, hr, hb⟩
  have HR2 := Lib.hid (HR1.out.keep hb)
  have HA2 := Lib.hid (HA1.out.keep hb)
  have HT2 := Lib.hid (HT1.out.keep hb)
  have HB2 := Lib.hid (HB1.out.trans (hb.mono HB1.out.size))
  obtain ⟨ua, ub, uo, uc, rfl, huadr, hupts⟩ := hr.plies
  have HUA := Lib.hid huadr
  have HUP := Lib.hid hupts
  clear hr hb huadr hupts r0 r1 HR1 HA1 HT1 HB1 HPT
  dsimp only
  obtain ⟨r0, r1, -, -⟩ := HA2.out.cells
  go_wp2_with fail
  refine (HAG.out W2 HT2.out).mono ?_
  rintro e W3 ⟨u, rfl, hr, hb⟩
  have HR3 := Lib.hid (HR2.out.keep hb)
  have HB3 := Lib.hid (HB2.out.trans (hb.mono HB2.out.size))
  obtain ⟨va, vb, vo, vc, rfl, hvadr, hvpts⟩ := hr.lies
  have HVA := Lib.hid hvadr
  have HVP := Lib.hid hvpts
  clear hr hb hvadr hvpts r0 r1 HR2 HA2 HT2 HB2 HAG
  dsimp only
  have ea := HVA.out (by intro h0; have := HL0.out.2; rw [h0] at this; exact this rfl)
  subst ea
  obtain ⟨c0, -⟩ := HVP.out 0 q HL0.out.1
  simp only [Nat.zero_mul, Nat.add_zero] at c0
  have hpos : decide (0 < (LA.length : Int)) = true := decide_eq_true (by have := HL0.out.2; omega)
  have hpos2 : 0 < LA.length := by have := HL0.out.2; omega
  have HBX := HB3
  go_wp2_with fail
  refine (HOF.out W3).mono ?_
  rintro e W5 ⟨rfl, hb⟩
  have HR5 : Hid (RgAt W5 P 0 0) := Lib.hid (HR3.out.keep hb)
  have HB5 := Lib.hid (HBX.out.trans (hb.mono HBX.out.size))
  clear hb
  dsimp only
  obtain ⟨-, -, f0, f1⟩ := HR5.out.cells
  obtain ⟨z0, z1, -, -⟩ := HR5.out.cells
  go_wp2_with fail
  refine bodyPost_ret (ret_rgX rfl rfl (setRgX_at HR5.out _ _)) rfl ?_
  refine ⟨by rw [HFV.out]; rfl, HB5.out.trans ((setRgX_only W5 P _ _).below HB5.out.size (fun i hi => ?_))⟩
  rw [hi, HPP.out]; exact Nat.le_refl _
set_option maxHeartbeats 8000000 in
set_option maxRecDepth 100000 in
theorem exfirst_midN {w : World} {p : Nat} {s : Stk} (hs : tSit w p s) (hq : s.mid = []) :
    Calls Tryz.prog 49 #[.pointer (some ⟨p, 0, none⟩), .int .i64 1] w fun e w' => e = .returned (firstV s 1) ∧ Below w.heap.size w w' := by
  obtain ⟨sp, v, vm, vl, h⟩ := hs
  have HPT : Hid (∀ W, TSit W p sp v vm vl s → Calls Tryz.prog 16 #[.pointer (some ⟨p, 0, none⟩), .agg #[.int .i64 0, .int .i64 9223372036854775807]] W fun e w' => ∃ v', e = .returned v' ∧ PtRowB W.heap.size w' v' s.raw ∧ Below W.heap.size W w') := Lib.hid fun W hW => by
    have h1 := tipoints_any hW 0 9223372036854775807
    rwa [get_allX hW.good] at h1
  have HAG : Hid (∀ W, TSit W p sp v vm vl s → Calls Tryz.prog 20 #[.pointer (some ⟨p, 0, none⟩), .int .i64 1, .agg #[.int .i64 0, .int .i64 9223372036854775807]] W fun e w' => ∃ v', e = .returned v' ∧ AgRow W.heap.size w' v' s.mid ∧ Below W.heap.size W w') := Lib.hid fun W hW => by
    have h1 := tiaggs_any (t := 1) (a := 0) (b := 9223372036854775807) ⟨sp, v, vm, vl, hW⟩ (by omega) (by omega)
    rwa [(aggs_allX hW.good).1] at h1
  have HT := Lib.hid h
  have HLN : Hid (s.raw.length ≤ 256) := Lib.hid h.good.plen
  have HFV : Hid (firstV s 1 = .tuple #[.agg #[.int .i64 0, .int .i64 0], .bool false]) := Lib.hid (by unfold firstV firstX; rw [if_neg (by omega), if_pos rfl, hq]; rfl)
  obtain ⟨LA, hLA⟩ : ∃ l, l = s.mid := ⟨_, rfl⟩
  rw [← hLA] at HAG hq
  subst hq
  clear hLA
  obtain ⟨LP, hLP⟩ : ∃ l, l = s.raw := ⟨_, rfl⟩
  rw [← hLP] at HPT HLN
  clear h hLP
  go_enter Tryz.func49, Tryz.ntmps49
  go_upto_region 2 with fail
  refine wp_name fun W1 hW1 => ?_
  obtain ⟨P, hP⟩ : ∃ P, P = w.heap.size := ⟨_, rfl⟩
  have e2 : (w.alloc (.cells #[.int .i64 0, .int .i64 0] 41)).heap.size = P + 1 := by rw [hP]; simp
  have hb1 : Below w.heap.size w W1 := by rw [hW1.out]; exact ((Below.refl _ _).alloc (Nat.le_refl _) _).alloc (by simp) _
  have HR1 : Hid (RgAt W1 P 0 0) := Lib.hid (by rw [hW1.out, hP]; exact (RgAt.new w 0 0).old _)
  have HA1 : Hid (RgAt W1 (P + 1) 0 9223372036854775807) := Lib.hid (by rw [hW1.out, ← e2]; exact RgAt.new _ 0 9223372036854775807)
  have HT1 := Lib.hid (HT.out.keep hb1)
  have HB1 := Lib.hid hb1
  have HPP := Lib.hid hP
  rw [← hP]
  clear hW1 hP e2 hb1 HT
  obtain ⟨r0, r1, -, -⟩ := HA1.out.cells
  go_wp2_with fail
  refine (HPT.out W1 HT1.out).mono ?_
  rintro e W2 ⟨u, rfl, hr, hb⟩
  have HR2 := Lib.hid (HR1.out.keep hb)
  have HA2 := Lib.hid (HA1.out.keep hb)
  have HT2 := Lib.hid (HT1.out.keep hb)
  have HB2 := Lib.hid (HB1.out.trans (hb.mono HB1.out.size))
  obtain ⟨ua, ub, uo, uc, rfl, huadr, hupts⟩ := hr.plies
  have HUA := Lib.hid huadr
  have HUP := Lib.hid hupts
  clear hr hb huadr hupts r0 r1 HR1 HA1 HT1 HB1 HPT
  dsimp only
  obtain ⟨r0, r1, -, -⟩ := HA2.out.cells
  go_wp2_with fail
  refine (HAG.out W2 HT2.out).mono ?_
  rintro e W3 ⟨u, rfl, hr, hb⟩
  have HR3 := Lib.hid (HR2.out.keep hb)
  have HB3 := Lib.hid (HB2.out.trans (hb.mono HB2.out.size))
  obtain ⟨va, vb, vo, vc, rfl, hvadr, hvpts⟩ := hr.lies
  have HVA := Lib.hid hvadr
  have HVP := Lib.hid hvpts
  clear hr hb hvadr hvpts r0 r1 HR2 HA2 HT2 HB2 HAG
  dsimp only
  obtain ⟨-, -, f0, f1⟩ := HR3.out.cells
  obtain ⟨z0, z1, -, -⟩ := HR3.out.cells
  go_wp2_with fail
  refine bodyPost_ret (ret_rgX rfl rfl (setRgX_at HR3.out _ _)) rfl ?_
  refine ⟨by rw [HFV.out]; rfl, HB3.out.trans ((setRgX_only W3 P _ _).below HB3.out.size (fun i hi => ?_))⟩
  rw [hi, HPP.out]; exact Nat.le_refl _
set_option maxHeartbeats 8000000 in
set_option maxRecDepth 100000 in
theorem exfirst_long {w : World} {p : Nat} {s : Stk} (hs : tSit w p s) {q : Ag} {r : List Ag} (hq : s.long = q :: r) :
    Calls Tryz.prog 49 #[.pointer (some ⟨p, 0, none⟩), .int .i64 2] w fun e w' => e = .returned (firstV s 2) ∧ Below w.heap.size w w' := by
  obtain ⟨sp, v, vm, vl, h⟩ := hs
  have HPT : Hid (∀ W, TSit W p sp v vm vl s → Calls Tryz.prog 16 #[.pointer (some ⟨p, 0, none⟩), .agg #[.int .i64 0, .int .i64 9223372036854775807]] W fun e w' => ∃ v', e = .returned v' ∧ PtRowB W.heap.size w' v' s.raw ∧ Below W.heap.size W w') := Lib.hid fun W hW => by
    have h1 := tipoints_any hW 0 9223372036854775807
    rwa [get_allX hW.good] at h1
  have HAG : Hid (∀ W, TSit W p sp v vm vl s → Calls Tryz.prog 20 #[.pointer (some ⟨p, 0, none⟩), .int .i64 2, .agg #[.int .i64 0, .int .i64 9223372036854775807]] W fun e w' => ∃ v', e = .returned v' ∧ AgRow W.heap.size w' v' s.long ∧ Below W.heap.size W w') := Lib.hid fun W hW => by
    have h1 := tiaggs_any (t := 2) (a := 0) (b := 9223372036854775807) ⟨sp, v, vm, vl, hW⟩ (by omega) (by omega)
    rwa [(aggs_allX hW.good).2] at h1
  have HT := Lib.hid h
  have HLN : Hid (s.raw.length ≤ 256) := Lib.hid h.good.plen
  have HFV : Hid (firstV s 2 = .tuple #[.agg #[.int .i64 (startW 2 q.at_), .int .i64 (endW 2 q.at_)], .bool true]) := Lib.hid (by unfold firstV firstX; rw [if_neg (by omega), if_neg (by omega), if_pos rfl, hq]; rfl)
  have HQF := Lib.hid (h.good.long.fits q (by rw [hq]; exact List.mem_cons_self))
  have HOF : Hid (∀ V, Calls Tryz.prog 43 #[.int .i64 2, .int .i64 q.at_] V fun e w' => e = .returned (.agg #[.int .i64 (startW 2 q.at_), .int .i64 (endW 2 q.at_)]) ∧ Below V.heap.size V w') := Lib.hid fun V => wiof_any V 2 q.at_ (by omega) (by omega) HQF.out.a0 HQF.out.a1
  have HGL : Hid (s.long.length ≤ 256) := Lib.hid h.good.long.len
  obtain ⟨S, hS⟩ : ∃ x, x = startW 2 q.at_ := ⟨_, rfl⟩
  obtain ⟨E, hE⟩ : ∃ x, x = endW 2 q.at_ := ⟨_, rfl⟩
  rw [← hS, ← hE] at HOF HFV
  obtain ⟨LA, hLA⟩ : ∃ l, l = s.long := ⟨_, rfl⟩
  rw [← hLA] at HAG HGL hq
  have HL0 : Hid (LA[0]? = some q ∧ LA.length ≠ 0) := Lib.hid (by rw [hq]; exact ⟨rfl, by simp⟩)
  clear hS hE hq hLA
  obtain ⟨LP, hLP⟩ : ∃ l, l = s.raw := ⟨_, rfl⟩
  rw [← hLP] at HPT HLN
  clear h hLP
  go_enter Tryz.func49, Tryz.ntmps49
  go_upto_region 2 with fail
  refine wp_name fun W1 hW1 => ?_
  obtain ⟨P, hP⟩ : ∃ P, P = w.heap.size := ⟨_, rfl⟩
  have e2 : (w.alloc (.cells #[.int .i64 0, .int .i64 0] 41)).heap.size = P + 1 := by rw [hP]; simp
  have hb1 : Below w.heap.size w W1 := by rw [hW1.out]; exact ((Below.refl _ _).alloc (Nat.le_refl _) _).alloc (by simp) _
  have HR1 : Hid (RgAt W1 P 0 0) := Lib.hid (by rw [hW1.out, hP]; exact (RgAt.new w 0 0).old _)
  have HA1 : Hid (RgAt W1 (P + 1) 0 9223372036854775807) := Lib.hid (by rw [hW1.out, ← e2]; exact RgAt.new _ 0 9223372036854775807)
  have HT1 := Lib.hid (HT.out.keep hb1)
  have HB1 := Lib.hid hb1
  have HPP := Lib.hid hP
  rw [← hP]
  clear hW1 hP e2 hb1 HT
  obtain ⟨r0, r1, -, -⟩ := HA1.out.cells
  go_wp2_with fail
  refine (HPT.out W1 HT1.out).mono ?_
  rintro e W2 ⟨u, rfl, hr, hb⟩
  have HR2 := Lib.hid (HR1.out.keep hb)
  have HA2 := Lib.hid (HA1.out.keep hb)
  have HT2 := Lib.hid (HT1.out.keep hb)
  have HB2 := Lib.hid (HB1.out.trans (hb.mono HB1.out.size))
  obtain ⟨ua, ub, uo, uc, rfl, huadr, hupts⟩ := hr.plies
  have HUA := Lib.hid huadr
  have HUP := Lib.hid hupts
  clear hr hb huadr hupts r0 r1 HR1 HA1 HT1 HB1 HPT
  dsimp only
  obtain ⟨r0, r1, -, -⟩ := HA2.out.cells
  go_wp2_with fail
  refine (HAG.out W2 HT2.out).mono ?_
  rintro e W3 ⟨u, rfl, hr, hb⟩
  have HR3 := Lib.hid (HR2.out.keep hb)
  have HB3 := Lib.hid (HB2.out.trans (hb.mono HB2.out.size))
  obtain ⟨va, vb, vo, vc, rfl, hvadr, hvpts⟩ := hr.lies
  have HVA := Lib.hid hvadr
  have HVP := Lib.hid hvpts
  clear hr hb hvadr hvpts r0 r1 HR2 HA2 HT2 HB2 HAG
  dsimp only
  have ea := HVA.out (by intro h0; have := HL0.out.2; rw [h0] at this; exact this rfl)
  subst ea
  obtain ⟨c0, -⟩ := HVP.out 0 q HL0.out.1
  simp only [Nat.zero_mul, Nat.add_zero] at c0
  have hpos : decide (0 < (LA.length : Int)) = true := decide_eq_true (by have := HL0.out.2; omega)
  have hpos2 : 0 < LA.length := by have := HL0.out.2; omega
  have HBX := HB3
  go_wp2_with fail
  refine (HOF.out W3).mono ?_
  rintro e W5 ⟨rfl, hb⟩
  have HR5 : Hid (RgAt W5 P 0 0) := Lib.hid (HR3.out.keep hb)
  have HB5 := Lib.hid (HBX.out.trans (hb.mono HBX.out.size))
  clear hb
  dsimp only
  obtain ⟨-, -, f0, f1⟩ := HR5.out.cells
  obtain ⟨z0, z1, -, -⟩ := HR5.out.cells
  go_wp2_with fail
  refine bodyPost_ret (ret_rgX rfl rfl (setRgX_at HR5.out _ _)) rfl ?_
  refine ⟨by rw [HFV.out]; rfl, HB5.out.trans ((setRgX_only W5 P _ _).below HB5.out.size (fun i hi => ?_))⟩
  rw [hi, HPP.out]; exact Nat.le_refl _
set_option maxHeartbeats 8000000 in
set_option maxRecDepth 100000 in
theorem exfirst_longN {w : World} {p : Nat} {s : Stk} (hs : tSit w p s) (hq : s.long = []) :
    Calls Tryz.prog 49 #[.pointer (some ⟨p, 0, none⟩), .int .i64 2] w fun e w' => e = .returned (firstV s 2) ∧ Below w.heap.size w w' := by
  obtain ⟨sp, v, vm, vl, h⟩ := hs
  have HPT : Hid (∀ W, TSit W p sp v vm vl s → Calls Tryz.prog 16 #[.pointer (some ⟨p, 0, none⟩), .agg #[.int .i64 0, .int .i64 9223372036854775807]] W fun e w' => ∃ v', e = .returned v' ∧ PtRowB W.heap.size w' v' s.raw ∧ Below W.heap.size W w') := Lib.hid fun W hW => by
    have h1 := tipoints_any hW 0 9223372036854775807
    rwa [get_allX hW.good] at h1
  have HAG : Hid (∀ W, TSit W p sp v vm vl s → Calls Tryz.prog 20 #[.pointer (some ⟨p, 0, none⟩), .int .i64 2, .agg #[.int .i64 0, .int .i64 9223372036854775807]] W fun e w' => ∃ v', e = .returned v' ∧ AgRow W.heap.size w' v' s.long ∧ Below W.heap.size W w') := Lib.hid fun W hW => by
    have h1 := tiaggs_any (t := 2) (a := 0) (b := 9223372036854775807) ⟨sp, v, vm, vl, hW⟩ (by omega) (by omega)
    rwa [(aggs_allX hW.good).2] at h1
  have HT := Lib.hid h
  have HLN : Hid (s.raw.length ≤ 256) := Lib.hid h.good.plen
  have HFV : Hid (firstV s 2 = .tuple #[.agg #[.int .i64 0, .int .i64 0], .bool false]) := Lib.hid (by unfold firstV firstX; rw [if_neg (by omega), if_neg (by omega), if_pos rfl, hq]; rfl)
  obtain ⟨LA, hLA⟩ : ∃ l, l = s.long := ⟨_, rfl⟩
  rw [← hLA] at HAG hq
  subst hq
  clear hLA
  obtain ⟨LP, hLP⟩ : ∃ l, l = s.raw := ⟨_, rfl⟩
  rw [← hLP] at HPT HLN
  clear h hLP
  go_enter Tryz.func49, Tryz.ntmps49
  go_upto_region 2 with fail
  refine wp_name fun W1 hW1 => ?_
  obtain ⟨P, hP⟩ : ∃ P, P = w.heap.size := ⟨_, rfl⟩
  have e2 : (w.alloc (.cells #[.int .i64 0, .int .i64 0] 41)).heap.size = P + 1 := by rw [hP]; simp
  have hb1 : Below w.heap.size w W1 := by rw [hW1.out]; exact ((Below.refl _ _).alloc (Nat.le_refl _) _).alloc (by simp) _
  have HR1 : Hid (RgAt W1 P 0 0) := Lib.hid (by rw [hW1.out, hP]; exact (RgAt.new w 0 0).old _)
  have HA1 : Hid (RgAt W1 (P + 1) 0 9223372036854775807) := Lib.hid (by rw [hW1.out, ← e2]; exact RgAt.new _ 0 9223372036854775807)
  have HT1 := Lib.hid (HT.out.keep hb1)
  have HB1 := Lib.hid hb1
  have HPP := Lib.hid hP
  rw [← hP]
  clear hW1 hP e2 hb1 HT
  obtain ⟨r0, r1, -, -⟩ := HA1.out.cells
  go_wp2_with fail
  refine (HPT.out W1 HT1.out).mono ?_
  rintro e W2 ⟨u, rfl, hr, hb⟩
  have HR2 := Lib.hid (HR1.out.keep hb)
  have HA2 := Lib.hid (HA1.out.keep hb)
  have HT2 := Lib.hid (HT1.out.keep hb)
  have HB2 := Lib.hid (HB1.out.trans (hb.mono HB1.out.size))
  obtain ⟨ua, ub, uo, uc, rfl, huadr, hupts⟩ := hr.plies
  have HUA := Lib.hid huadr
  have HUP := Lib.hid hupts
  clear hr hb huadr hupts r0 r1 HR1 HA1 HT1 HB1 HPT
  dsimp only
  obtain ⟨r0, r1, -, -⟩ := HA2.out.cells
  go_wp2_with fail
  refine (HAG.out W2 HT2.out).mono ?_
  rintro e W3 ⟨u, rfl, hr, hb⟩
  have HR3 := Lib.hid (HR2.out.keep hb)
  have HB3 := Lib.hid (HB2.out.trans (hb.mono HB2.out.size))
  obtain ⟨va, vb, vo, vc, rfl, hvadr, hvpts⟩ := hr.lies
  have HVA := Lib.hid hvadr
  have HVP := Lib.hid hvpts
  clear hr hb hvadr hvpts r0 r1 HR2 HA2 HT2 HB2 HAG
  dsimp only
  obtain ⟨-, -, f0, f1⟩ := HR3.out.cells
  obtain ⟨z0, z1, -, -⟩ := HR3.out.cells
  go_wp2_with fail
  refine bodyPost_ret (ret_rgX rfl rfl (setRgX_at HR3.out _ _)) rfl ?_
  refine ⟨by rw [HFV.out]; rfl, HB3.out.trans ((setRgX_only W3 P _ _).below HB3.out.size (fun i hi => ?_))⟩
  rw [hi, HPP.out]; exact Nat.le_refl _
theorem exfirst_any {w : World} {p : Nat} {s : Stk} (hs : tSit w p s) {t : Int} (ht : t = 0 ∨ t = 1 ∨ t = 2) :
    Calls Tryz.prog 49 #[.pointer (some ⟨p, 0, none⟩), .int .i64 t] w fun e w' => e = .returned (firstV s t) ∧ Below w.heap.size w w' := by
  rcases ht with rfl | rfl | rfl
  · cases h : s.raw with
    | nil => exact exfirst_rawN hs h
    | cons q r => exact exfirst_raw hs h
  · cases h : s.mid with
    | nil => exact exfirst_midN hs h
    | cons q r => exact exfirst_mid hs h
  · cases h : s.long with
    | nil => exact exfirst_longN hs h
    | cons q r => exact exfirst_long hs h
end Go.Proofs.YthbdchleppbidaaGreat
/- Package expire: Next. -/
namespace Go.Proofs.YthbdchleppbidaaGreat
open Go.RowKit

/-- those of the first tiers -/
def upN (s : Stk) (a b c : Int) : Nat → List Int
  | 0 => []
  | k + 1 => upN s a b c k ++ (tickX s a b c k).toList
theorem upN_all (s : Stk) (a b c : Int) : upN s a b c 3 = nextL s a b c := by
  unfold nextL
  show (([] ++ (tickX s a b c ((0 : Nat) : Int)).toList) ++ (tickX s a b c ((1 : Nat) : Int)).toList) ++ (tickX s a b c ((2 : Nat) : Int)).toList = _
  rw [List.nil_append]; rfl
theorem upN_len (s : Stk) (a b c : Int) (k : Nat) : (upN s a b c k).length ≤ k := by
  induction k with
  | zero => exact Nat.le_refl _
  | succ k ih =>
    show (upN s a b c k ++ (tickX s a b c k).toList).length ≤ _
    rw [List.length_append]
    have : (tickX s a b c k).toList.length ≤ 1 := by cases tickX s a b c k <;> simp
    omega
theorem end_pos (t x : Int) : 0 ≤ endW t x := by
  unfold endW startW
  split
  · rename_i h1
    unfold hasW at h1
    rw [Bool.and_eq_true, decide_eq_true_eq, decide_eq_true_eq] at h1
    have h2 := Int.emod_nonneg x (show widthW t ≠ 0 by omega)
    have h3 := Int.mul_ediv_add_emod x (widthW t)
    have h4 : 0 ≤ x / widthW t := Int.ediv_nonneg h1.2 (by omega)
    have h5 : 0 ≤ widthW t * (x / widthW t) := Int.mul_nonneg (by omega) h4
    have h6 : widthW t ≤ 3600 := by unfold widthW; split <;> (try split) <;> (try split) <;> omega
    omega
  · omega
theorem end_mostN (t x : Int) : endW t x ≤ 9223372036854775807 := by unfold endW; split <;> omega
/-- one round: which way, and what is told then -/
theorem one_tier (s : Stk) (a b c t : Int) : (∃ n k, firstV s t = .tuple #[.agg #[.int .i64 0, .int .i64 0], .bool false] ∧ (tickX s a b c t).toList = [] ∧ sinceN (ofP a b c t) 0 = n ∧ sinceB (ofP a b c t) 0 = k) ∨
    ∃ lo hi, firstV s t = .tuple #[.agg #[.int .i64 lo, .int .i64 hi], .bool true] ∧ 0 ≤ hi ∧ hi ≤ 9223372036854775807 ∧ (sinceB (ofP a b c t) hi = true → (tickX s a b c t).toList = [sinceN (ofP a b c t) hi]) ∧ (sinceB (ofP a b c t) hi = false → (tickX s a b c t).toList = []) := by
  unfold firstV tickX
  cases firstX s t with
  | none => exact .inl ⟨_, _, rfl, rfl, rfl, rfl⟩
  | some x =>
    refine .inr ⟨startW t x, endW t x, rfl, end_pos t x, end_mostN t x, ?_⟩
    unfold sinceB sinceN
    rw [show ((some x).bind fun x => sinceX (ofP a b c t) (endW t x)) = sinceX (ofP a b c t) (endW t x) from rfl]
    cases sinceX (ofP a b c t) (endW t x) with
    | none => exact ⟨fun h => (by cases h), fun _ => rfl⟩
    | some y => exact ⟨fun _ => rfl, fun h => (by cases h)⟩
theorem row_offT {B : Nat} {w : World} {u : Value} {l : List Int} {p : Nat} {s : Stk} (h : IntRow B w u l) (hs : tSit w p s) : ∀ k, tOwn w p k → u.ownBlock ≠ some k := fun k hk e => by
  obtain ⟨sp, v, vm, vl, hs⟩ := hs
  exact IntRow.notT h hs k e ((hs.own k).1 hk)
/-- between two rounds -/
structure NxSt (w W : World) (p P : Nat) (s : Stk) (a b c : Int) (u : Value) (l : List Int) : Prop where
  row : IntRow w.heap.size W u l
  pol : PolAt W P a b c
  sit : tSit W p s
  bel : Below w.heap.size w W
theorem NxSt.keep {w W W' : World} {p P : Nat} {s : Stk} {a b c : Int} {u : Value} {l : List Int} (x : NxSt w W p P s a b c u l) (hb : Below W.heap.size W W') : NxSt w W' p P s a b c u l :=
  ⟨x.row.keep hb, x.pol.keep hb, (tSit_keep x.sit (only_beyond (S := fun _ => False) hb) (fun _ _ h => h)).1, x.bel.trans (hb.mono x.bel.size)⟩
set_option maxHeartbeats 8000000 in
set_option maxRecDepth 100000 in
theorem exnext_any {w : World} {p : Nat} {s : Stk} {a b c : Int} (hs : tSit w p s) (ha : I64 a) (hb : I64 b) (hc : I64 c) :
    Calls Tryz.prog 23 #[.pointer (some ⟨p, 0, none⟩), .agg #[.int .i64 a, .int .i64 b, .int .i64 c]] w fun e w' => e = .returned (.tuple #[.int .i64 (minL (nextL s a b c)), .bool (!(nextL s a b c).isEmpty)]) ∧ Below w.heap.size w w' := by
  have HS := Lib.hid hs
  have HOF : Hid (∀ t, -9223372036854775808 ≤ ofP a b c t ∧ ofP a b c t ≤ 9223372036854775807) := Lib.hid fun t => of_range ha hb hc
  have HSN : Hid (∀ (V : World) (t lo hi : Int), 0 ≤ hi ∧ hi ≤ 9223372036854775807 → Calls Tryz.prog 50 #[.agg #[.int .i64 a, .int .i64 b, .int .i64 c], .int .i64 t, .agg #[.int .i64 lo, .int .i64 hi]] V fun e w' => e = .returned (.tuple #[.int .i64 (sinceN (ofP a b c t) hi), .bool (sinceB (ofP a b c t) hi)]) ∧ Below V.heap.size V w') := Lib.hid fun V t lo hi hh => exsince_any V a b c t lo hi (HOF.out t) hh
  clear hs ha hb hc
  go_enter Tryz.func23, Tryz.ntmps23
  go_upto_region 1 with fail
  refine wp_name fun W1 hW1 => ?_
  obtain ⟨P, hP⟩ : ∃ P, P = w.heap.size := ⟨_, rfl⟩
  have hb1 : Below w.heap.size w W1 := by rw [hW1.out]; exact (Below.refl _ _).alloc (Nat.le_refl _) _
  have H1 : Hid (NxSt w W1 p P s a b c (.slice none 0 0) []) := Lib.hid ⟨IntRow.nil _ _, by rw [hW1.out, hP]; exact PolAt.new w a b c, (tSit_keep HS.out (only_beyond (S := fun _ => False) hb1) (fun _ _ h => h)).1, hb1⟩
  rw [← hP]
  clear hW1 hP hb1 HS
  go_wp2_with fail
  go_loopw [6, 12] (fun u x wr => ∃ (k : Nat) (u' : Value), k ≤ 3 ∧ x = .int .i64 k ∧ u = u' ∧ NxSt w wr p P s a b c u' (upN s a b c k)) (fun _ x _ => 3 - (intOf x).toNat)
  case atStart => exact ⟨0, _, by omega, rfl, rfl, H1.out⟩
  case round =>
    obtain ⟨k, u, hk, rfl, hu, hx⟩ := hrel
    replace hu := hu.symm
    subst hu
    obtain ⟨W2, hW2⟩ : ∃ W2, W2 = wr := ⟨_, rfl⟩
    subst hW2
    have H2 := Lib.hid hx
    clear hx H1
    by_cases hlt : k < 3
    · have HUN : Hid (upN s a b c (k + 1) = upN s a b c k ++ (tickX s a b c k).toList) := Lib.hid rfl
      have HFI := Lib.hid (exfirst_any (t := (k : Int)) H2.out.sit (by omega))
      have hone := one_tier s a b c k
      have hlen := upN_len s a b c k
      obtain ⟨LK, hLK⟩ : ∃ l, l = upN s a b c k := ⟨_, rfl⟩
      obtain ⟨LN, hLN⟩ : ∃ l, l = upN s a b c (k + 1) := ⟨_, rfl⟩
      obtain ⟨TK, hTK⟩ : ∃ l, l = (tickX s a b c k).toList := ⟨_, rfl⟩
      rw [← hLK, ← hLN, ← hTK] at HUN
      rw [← hLK] at H2 hlen
      rw [← hTK] at hone
      have HLEN : Hid (LK.length ≤ 3) := Lib.hid (by omega)
      have HLN := Lib.hid hLN
      have hk3 : (k : Int) < 3 := by omega
      clear hLK hLN hTK hlen
      rcases hone with ⟨n, kk, hf, htk, hn, hkk⟩ | ⟨lo, hi, hf, h0, h1, hyes, hno⟩
      · have HTK := Lib.hid htk
        rw [hf] at HFI
        have HS2 : Hid (∀ V : World, Calls Tryz.prog 50 #[.agg #[.int .i64 a, .int .i64 b, .int .i64 c], .int .i64 k, .agg #[.int .i64 0, .int .i64 0]] V fun e w' => e = .returned (.tuple #[.int .i64 n, .bool kk]) ∧ Below V.heap.size V w') := Lib.hid fun V => by
          have h := HSN.out V k 0 0 (by omega)
          rwa [hn, hkk] at h
        clear hf htk hn hkk HSN
        go_wp2_with fail
        refine HFI.out.mono ?_
        rintro e W3 ⟨rfl, hb⟩
        have H3 := Lib.hid (H2.out.keep hb)
        clear hb H2 HFI
        dsimp only
        go_upto_region 6 with fail
        refine wp_name fun W4 hW4 => ?_
        obtain ⟨Q, hQ⟩ : ∃ Q, Q = W3.heap.size := ⟨_, rfl⟩
        have HR4 : Hid (RgAt W4 Q 0 0) := Lib.hid (by rw [hW4.out, hQ]; exact RgAt.new W3 0 0)
        have H4 := Lib.hid (H3.out.keep (by rw [hW4.out]; exact (Below.refl _ _).alloc (Nat.le_refl _) _ : Below W3.heap.size W3 W4))
        rw [← hQ]
        clear hW4 hQ H3
        obtain ⟨p0, p1, p2, -, -, -⟩ := H4.out.pol.cells
        obtain ⟨r0, r1, -, -⟩ := HR4.out.cells
        go_wp2_with fail
        refine (HS2.out W4).mono ?_
        rintro e W5 ⟨rfl, hb⟩
        have H5 := Lib.hid (H4.out.keep hb)
        clear hb H4 HR4 HS2 p0 p1 p2 r0 r1
        dsimp only
        go_wp2_with fail
        go_roundw
        case rel => exact ⟨k + 1, _, by omega, by go_num, rfl, by rw [← HLN.out, HUN.out, HTK.out, List.append_nil]; exact H5.out⟩
        case measure => simp [intOf]; omega
      · rw [hf] at HFI
        have HS2 : Hid (∀ V : World, Calls Tryz.prog 50 #[.agg #[.int .i64 a, .int .i64 b, .int .i64 c], .int .i64 k, .agg #[.int .i64 lo, .int .i64 hi]] V fun e w' => e = .returned (.tuple #[.int .i64 (sinceN (ofP a b c k) hi), .bool (sinceB (ofP a b c k) hi)]) ∧ Below V.heap.size V w') := Lib.hid fun V => HSN.out V k lo hi ⟨h0, h1⟩
        obtain ⟨N, hN⟩ : ∃ N, N = sinceN (ofP a b c k) hi := ⟨_, rfl⟩
        obtain ⟨K, hK⟩ : ∃ K, K = sinceB (ofP a b c k) hi := ⟨_, rfl⟩
        rw [← hN] at HS2 hyes
        rw [← hK] at HS2 hyes hno
        have HYES := Lib.hid hyes
        have HNO := Lib.hid hno
        clear hf h0 h1 hN hK hyes hno HSN
        go_wp2_with fail
        refine HFI.out.mono ?_
        rintro e W3 ⟨rfl, hb⟩
        have H3 := Lib.hid (H2.out.keep hb)
        clear hb H2 HFI
        dsimp only
        go_upto_region 6 with fail
        refine wp_name fun W4 hW4 => ?_
        obtain ⟨Q, hQ⟩ : ∃ Q, Q = W3.heap.size := ⟨_, rfl⟩
        have HR4 : Hid (RgAt W4 Q lo hi) := Lib.hid (by rw [hW4.out, hQ]; exact RgAt.new W3 lo hi)
        have H4 := Lib.hid (H3.out.keep (by rw [hW4.out]; exact (Below.refl _ _).alloc (Nat.le_refl _) _ : Below W3.heap.size W3 W4))
        rw [← hQ]
        clear hW4 hQ H3
        obtain ⟨p0, p1, p2, -, -, -⟩ := H4.out.pol.cells
        obtain ⟨r0, r1, -, -⟩ := HR4.out.cells
        go_wp2_with fail
        refine (HS2.out W4).mono ?_
        rintro e W5 ⟨rfl, hb⟩
        have H5 := Lib.hid (H4.out.keep hb)
        clear hb H4 HR4 HS2 p0 p1 p2 r0 r1
        dsimp only
        cases K with
        | false =>
          go_wp2_with fail
          go_roundw
          case rel => exact ⟨k + 1, _, by omega, by go_num, rfl, by rw [← HLN.out, HUN.out, HNO.out rfl, List.append_nil]; exact H5.out⟩
          case measure => simp [intOf]; omega
        | true =>
          have hb6 : Below W5.heap.size W5 (W5.alloc (.cells #[.int .i64 N] 2)) := (Below.refl _ _).alloc (Nat.le_refl _) _
          have H6 := Lib.hid (H5.out.keep hb6)
          have HNW : Hid ((W5.alloc (.cells #[.int .i64 N] 2)).cell? ⟨W5.heap.size, 0, none⟩ = some (.int .i64 N)) := Lib.hid (cells1 (heap_alloc_new W5 _)).1
          clear hb6
          go_wp2_with (at_builtin; refine wpList_append_int rfl (.tmp 32) (.tmp 34) rfl w.heap.size _ _ rfl H6.out.row W5.heap.size N rfl HNW.out (by have := HLEN.out; omega) H6.out.bel.size ?_; intro v10 W10 HROW10 hgrow; have HGW := Lib.hid hgrow.out; clear hgrow)
          go_roundw
          case rel =>
            refine ⟨k + 1, _, by omega, by go_num, rfl, ?_⟩
            rw [← HLN.out, HUN.out, HYES.out rfl]
            have ho := Only.grown HGW.out
            have hlow : ∀ i, u.ownBlock = some i → w.heap.size ≤ i := fun i hi => (H6.out.row.lt i hi).1
            exact ⟨HROW10.out, H6.out.pol.only ho (fun e => row_ne H6.out.pol H6.out.row (by decide) e), (tSit_keep H6.out.sit ho (fun i hi e => row_offT H6.out.row H6.out.sit i hi e)).1, H6.out.bel.trans (ho.below H6.out.bel.size hlow)⟩
          case measure => simp [intOf]; omega
    · obtain rfl : k = 3 := by omega
      rw [upN_all] at H2
      obtain ⟨L, hL⟩ : ∃ l, l = nextL s a b c := ⟨_, rfl⟩
      rw [← hL] at H2
      have HL := Lib.hid hL
      have hmin : L ≠ [] → Calls Tryz.prog 51 #[u] W2 fun e w' => e = .returned (.int .i64 (minL L)) ∧ w' = W2 := fun h => min_any H2.out.row h (by have := upN_len s a b c 3; rw [upN_all, ← hL] at this; omega)
      have HMI := Lib.hid hmin
      obtain ⟨aa, cc, rfl⟩ := own_slice H2.out.row
      clear hmin hL hk hlt HOF HSN
      by_cases hl : L = []
      · have HLE := Lib.hid hl
        have hz : ((L.length : Int) == 0) = true := by rw [hl]; rfl
        clear hl
        go_wp2_with fail
        go_ret2
        exact ⟨by rw [← HL.out, HLE.out]; rfl, H2.out.bel⟩
      · have HLE : Hid ((!L.isEmpty) = true) := Lib.hid (by cases L with
          | nil => exact absurd rfl hl
          | cons z r => rfl)
        have hz : ((L.length : Int) == 0) = false := by
          cases L with
          | nil => exact absurd rfl hl
          | cons z r => rw [List.length_cons]; exact beq_eq_false_iff_ne.2 (by omega)
        have HNE := Lib.hid hl
        clear hl
        go_wp2_with fail
        refine (HMI.out HNE.out).mono ?_
        rintro e w2 ⟨rfl, hw⟩; replace hw := hw.symm; subst hw
        dsimp only
        go_wp2_with fail
        go_ret2
        exact ⟨by rw [← HL.out, HLE.out]; rfl, H2.out.bel⟩
end Go.Proofs.YthbdchleppbidaaGreat
