/- ExDoes, TiFew, ExHeldS, ExCnt, ExLives, ExPlay: laid into one. -/
import Derived.Test.YthbdchleppbidaaGreatML
import Derived.Test.YthbdchleppbidaaGreatMH
import Derived.Test.YthbdchleppbidaaGreatMT
import Derived.Test.YthbdchleppbidaaGreatMA
import Derived.Deep.DeepCutAuto
import Derived.Test.YthbdchleppbidaaGreatMP
import Derived.Test.YthbdchleppbidaaGreatMC
import Derived.ChangeKeysEq
import Derived.Laws.StructEq
import Derived.Test.YthbdchleppbidaaGreatME
/- What package expire does, as a structure: the laws are walked over it; what more of package tier they want. -/
namespace Go.Proofs.YthbdchleppbidaaGreat
open Go.RowKit

/-- an int64 -/
def I64 (x : Int) : Prop := -9223372036854775808 ≤ x ∧ x ≤ 9223372036854775807
/-- what more package tier does: how many, how much, one apart -/
structure TierM (D : TierD) where
  len : ∀ {w : World} {p : Nat} {s : Stk} {t : Int}, D.sit w p s → I64 t → Calls Tryz.prog 27 #[.pointer (some ⟨p, 0, none⟩), .int .i64 t] w fun e w' => e = .returned (.int .i64 (lenT s t : Nat)) ∧ w' = w
  bytes : ∀ {w : World} {p : Nat} {s : Stk}, D.sit w p s → Calls Tryz.prog 15 #[.pointer (some ⟨p, 0, none⟩)] w fun e w' => e = .returned (.int .i64 (bytesT s : Nat)) ∧ w' = w
  copy : ∀ {w : World} {p : Nat} {s : Stk}, D.sit w p s → Calls Tryz.prog 11 #[.pointer (some ⟨p, 0, none⟩)] w fun e w' => ∃ q, e = .returned (.pointer (some ⟨q, 0, none⟩)) ∧ D.sit w' q s ∧ (∀ k, D.own w' q k → w.heap.size ≤ k) ∧ Below w.heap.size w w'
/-- a policy, a tick -/
structure PolIn (a b c now : Int) : Prop where
  a : I64 a
  b : I64 b
  c : I64 c
  now : I64 now
/-- a table that is there, apart from a stock; or none -/
def TabX (D : TierD) (w : World) (p : Nat) (h : Value) (m : List Hld) : Prop := (h = .pointer none ∧ m = []) ∨ ∃ q g, h = .pointer (some ⟨q, 0, none⟩) ∧ TabAt w q g m ∧ TabM m ∧ ∀ k, TFoot q g k → ¬ D.own w p k
/-- what package expire does -/
structure ExD (D : TierD) where
  series : ∀ {w : World} {p : Nat} {s : Stk} {h : Value} {m : List Hld} {sr : ByteArray} {a b c now : Int}, D.sit w p s → TabX D w p h m → PolIn a b c now → sr.size ≤ maxLen →
    Calls Tryz.prog 13 #[.pointer (some ⟨p, 0, none⟩), .string sr, h, .agg #[.int .i64 a, .int .i64 b, .int .i64 c], .int .i64 now] w fun e w' => e = .returned (.tuple #[wentX s (serX s m sr a b c now), .int .i64 (errX a b c now)]) ∧ D.sit w' p (serX s m sr a b c now) ∧ (∀ k, D.own w' p k → D.own w p k ∨ w.heap.size ≤ k) ∧ Only (D.own w p) w w'
  due : ∀ {w : World} {p : Nat} {s : Stk} {h : Value} {m : List Hld} {sr : ByteArray} {a b c now : Int}, D.sit w p s → TabX D w p h m → PolIn a b c now → sr.size ≤ maxLen →
    Calls Tryz.prog 12 #[.pointer (some ⟨p, 0, none⟩), .string sr, h, .agg #[.int .i64 a, .int .i64 b, .int .i64 c], .int .i64 now] w fun e w' => e = .returned (wentX s (serX s m sr a b c now)) ∧ Below w.heap.size w w'
  series_none : ∀ (w : World) (sr : ByteArray) (a b c now : Int), sr.size ≤ maxLen →
    Calls Tryz.prog 13 #[.pointer none, .string sr, .pointer none, .agg #[.int .i64 a, .int .i64 b, .int .i64 c], .int .i64 now] w fun e w' => e = .returned (.tuple #[.agg #[.int .i64 0, .int .i64 0, .int .i64 0], .int .i64 1]) ∧ Below w.heap.size w w'
end Go.Proofs.YthbdchleppbidaaGreat
/- The law's own: are acts few, and little? -/
namespace Go.Proofs.YthbdchleppbidaaGreat
open Go.RowKit

def fewAct (x : TActL) : Bool := decide (x.l.length ≤ 40) && decide (x.at_ ≤ 200000)
def fewT (L : List TActL) (n : Int) : Bool := L.all fewAct && decide ((L.length : Int) ≤ n)
/-- an act in a block of its own -/
theorem tact_cells {W : World} {P : Nat} {k t a b : Int} {u : Value} (h : W.heap[P]? = some (.cells #[.int .i64 k, .int .i64 t, u, .int .i64 a, .int .i64 b] 70 (0, 0))) :
    W.cell? ⟨P, 0, none⟩ = some (.int .i64 k) ∧ W.cell? ⟨P, 1, none⟩ = some (.int .i64 t) ∧ W.cell? ⟨P, 2, none⟩ = some u ∧ W.cell? ⟨P, 3, none⟩ = some (.int .i64 a) ∧ W.cell? ⟨P, 4, none⟩ = some (.int .i64 b) :=
  ⟨by simp [World.cell?, h], by simp [World.cell?, h], by simp [World.cell?, h], by simp [World.cell?, h], by simp [World.cell?, h]⟩
set_option maxHeartbeats 8000000 in
set_option maxRecDepth 1000000 in
theorem few_any {w : World} {v : Value} {L : List TActL} (hv : TActsAt w v L) (hn : L.length ≤ 9223372036854775807) (n : Int) :
    Calls Tryz.prog 7 #[v, .int .i64 n] w fun e w' => e = .returned (.bool (fewT L n)) ∧ Below w.heap.size w w' := by
  obtain ⟨ad, b, off, cap, rfl, hadr, hacts⟩ := hv
  have HADR := Lib.hid hadr
  have HA := Lib.hid hacts
  clear hadr hacts
  obtain ⟨R, hR⟩ : ∃ R, R = fewT L n := ⟨_, rfl⟩
  rw [← hR]
  have HR := Lib.hid hR
  clear hR
  go_enter Tryz.func7, Tryz.ntmps7
  go_wp2_with fail
  go_loopw [9] (fun c wr => ∃ j : Nat, j ≤ L.length ∧ c = .int .i64 j ∧ (L.take j).all fewAct = true ∧ Below w.heap.size w wr) (fun c _ => L.length - (intOf c).toNat)
  case atStart => exact ⟨0, Nat.zero_le _, rfl, rfl, Below.refl _ _⟩
  case round =>
    obtain ⟨j, hj, rfl, hall, hb⟩ := hrel
    obtain ⟨W3, hW3⟩ : ∃ W3, W3 = wr := ⟨_, rfl⟩
    subst hW3
    have HALL := Lib.hid hall
    have HB3 := Lib.hid hb
    clear hall hb
    by_cases hlt : j < L.length
    · have ea := HADR.out (by intro h; simp [h] at hlt)
      subst ea
      obtain ⟨x, hx⟩ : ∃ x, L[j]? = some x := ⟨L[j], List.getElem?_eq_getElem hlt⟩
      obtain ⟨u, c0, c1, c2, c3, c4, hpl, -⟩ := (HA.out j x hx).beyondT HB3.out
      obtain ⟨ua, ub, uo, uc, rfl, -, -⟩ := hpl
      have HXK := Lib.hid hx
      clear hx
      go_upto_region 4 with fail
      refine wp_name fun W4 hW4 => ?_
      obtain ⟨M, hM⟩ : ∃ M, M = W3.heap.size := ⟨_, rfl⟩
      have hb4 : Below W3.heap.size W3 W4 := by rw [hW4.out]; exact (Below.refl _ _).alloc (Nat.le_refl _) _
      have HB4 := Lib.hid (HB3.out.trans (hb4.mono HB3.out.size))
      have p0 : W4.heap[M]? = some (.cells #[.int .i64 x.kind, .int .i64 x.at_, .slice ua x.l.length uc, .int .i64 x.a, .int .i64 x.b] 70 (0, 0)) := by rw [hW4.out, hM]; exact heap_alloc_new W3 _
      obtain ⟨q0, q1, q2, q3, q4⟩ := tact_cells p0
      rw [← hM]
      clear hb4 hW4 hM c0 c1 c2 c3 c4 p0
      by_cases h1 : 40 < x.l.length
      · have t1 : decide (40 < (x.l.length : Int)) = true := decide_eq_true (by omega)
        have t2 : decide (40 < x.l.length) = true := decide_eq_true h1
        have HNO : Hid (R = false) := Lib.hid (by
          rw [HR.out]; unfold fewT
          rw [show L.all fewAct = false from List.all_eq_false.2 ⟨x, List.mem_of_getElem? HXK.out, by unfold fewAct; rw [decide_eq_false (by omega)]; simp⟩]; rfl)
        clear h1
        go_wp2
        go_ret
        exact ⟨by rw [HNO.out]; rfl, HB4.out⟩
      · have t1 : decide (40 < (x.l.length : Int)) = false := decide_eq_false (by omega)
        have t2 : decide (40 < x.l.length) = false := decide_eq_false h1
        by_cases h2 : 200000 < x.at_
        · have t3 : decide (200000 < x.at_) = true := decide_eq_true h2
          have HNO : Hid (R = false) := Lib.hid (by
            rw [HR.out]; unfold fewT
            rw [show L.all fewAct = false from List.all_eq_false.2 ⟨x, List.mem_of_getElem? HXK.out, by unfold fewAct; rw [decide_eq_false (show ¬ x.at_ ≤ 200000 by omega)]; simp⟩]; rfl)
          clear h1 h2
          go_wp2
          go_ret
          exact ⟨by rw [HNO.out]; rfl, HB4.out⟩
        · have t3 : decide (200000 < x.at_) = false := decide_eq_false h2
          have HNX : Hid ((L.take (j + 1)).all fewAct = true) := Lib.hid (by
            rw [take_snoc HXK.out, List.all_append, HALL.out]
            unfold fewAct
            simp; omega)
          clear h1 h2
          go_wp2
          go_roundw
          case rel => exact ⟨j + 1, by omega, by go_num, HNX.out, HB4.out⟩
          case measure => simp [intOf]; omega
    · have HYES : Hid (R = decide ((L.length : Int) ≤ n)) := Lib.hid (by
        rw [HR.out]; unfold fewT
        have h := HALL.out
        rw [List.take_of_length_le (by omega)] at h
        rw [h]; rfl)
      go_wp2
      go_ret
      exact ⟨by rw [HYES.out]; rfl, HB3.out⟩
end Go.Proofs.YthbdchleppbidaaGreat
/- What lies between the calls of ExpireHeld: a stock, a table, a range, a policy; rows told of it. -/
namespace Go.Proofs.YthbdchleppbidaaGreat
open Go.RowKit

/-- a stock, a table apart from it, a range and a policy in blocks of their own -/
structure HeldS (D : TierD) (w W : World) (p : Nat) (s : Stk) (R : Nat) (ra rb a b c : Int) (q : Nat) (g : Option Nat) (m : List Hld) : Prop where
  one : OneS D w.heap.size W p s
  rg : RgAt W R ra rb
  pol : PolAt W (R + 1) a b c
  tab : TabAt W q g m
  tok : TabM m
  offT : ∀ k, TFoot q g k → ¬ D.own W p k
  offR : ¬ D.own W p R
  offP : ¬ D.own W p (R + 1)
  bel : Below w.heap.size w W
theorem HeldS.keep {D : TierD} {w W W' : World} {p : Nat} {s : Stk} {R : Nat} {ra rb a b c : Int} {q : Nat} {g : Option Nat} {m : List Hld} (x : HeldS D w W p s R ra rb a b c q g m) (hb : Below W.heap.size W W') : HeldS D w W' p s R ra rb a b c q g m := by
  obtain ⟨-, h2⟩ := D.keep x.one.sit (only_beyond (S := fun _ => False) hb) (fun _ _ h => h)
  exact ⟨x.one.keep hb, x.rg.keep hb, x.pol.keep hb, x.tab.below hb, x.tok, fun k hk hk' => x.offT k hk (h2 k hk'), fun hk => x.offR (h2 _ hk), fun hk => x.offP (h2 _ hk), x.bel.trans (hb.mono x.bel.size)⟩
theorem HeldS.drew {D : TierD} {w W : World} {p : Nat} {s : Stk} {R : Nat} {ra rb a b c : Int} {q : Nat} {g : Option Nat} {m : List Hld} (x : HeldS D w W p s R ra rb a b c q g m) : HeldS D w W.drew p s R ra rb a b c q g m := x.keep ((Below.refl _ W).drew)
theorem HeldS.step {D : TierD} {w W W' : World} {p : Nat} {s s' : Stk} {R : Nat} {ra rb a b c : Int} {q : Nat} {g : Option Nat} {m : List Hld} (x : HeldS D w W p s R ra rb a b c q g m) (h1 : D.sit W' p s') (h2 : ∀ k, D.own W' p k → D.own W p k ∨ W.heap.size ≤ k) (h3 : Only (D.own W p) W W') : HeldS D w W' p s' R ra rb a b c q g m := by
  obtain ⟨k1, k2⟩ := x.one.step x.bel.size h1 h2 h3
  have hp : R + 1 < W.heap.size := lt_of_block x.pol
  refine ⟨k1, x.rg.only h3 x.offR, x.pol.only h3 x.offP, x.tab.only h3 x.offT, x.tok, fun k hk hk' => ?_, fun hk => ?_, fun hk => ?_, x.bel.trans k2⟩
  · rcases h2 k hk' with h | h
    · exact x.offT k hk h
    · have := x.tab.lt k hk; omega
  · rcases h2 _ hk with h | h
    · exact x.offR h
    · omega
  · rcases h2 _ hk with h | h
    · exact x.offP h
    · omega
theorem HeldS.tabx {D : TierD} {w W : World} {p : Nat} {s : Stk} {R : Nat} {ra rb a b c : Int} {q : Nat} {g : Option Nat} {m : List Hld} (x : HeldS D w W p s R ra rb a b c q g m) : TabX D W p (.pointer (some ⟨q, 0, none⟩)) m := .inr ⟨q, g, rfl, x.tab, x.tok, x.offT⟩
theorem HeldS.rcells {D : TierD} {w W : World} {p : Nat} {s : Stk} {R : Nat} {ra rb a b c : Int} {q : Nat} {g : Option Nat} {m : List Hld} (x : HeldS D w W p s R ra rb a b c q g m) : W.cell? ⟨R, 0, none⟩ = some (.int .i64 ra) ∧ W.cell? ⟨R, 1, none⟩ = some (.int .i64 rb) := ⟨x.rg.cells.1, x.rg.cells.2.1⟩
/-- three rows told of a stock, apart from it -/
structure Rows3 (D : TierD) (W : World) (p : Nat) (vp vm vl : Value) (lp : List Pt) (lm ll : List Ag) : Prop where
  pts : PtRowB 0 W vp lp
  mid : AgRow 0 W vm lm
  long : AgRow 0 W vl ll
  offp : ∀ k, vp.ownBlock = some k → ¬ D.own W p k
  offm : ∀ k, vm.ownBlock = some k → ¬ D.own W p k
  offl : ∀ k, vl.ownBlock = some k → ¬ D.own W p k
theorem Rows3.new {D : TierD} {V W : World} {p : Nat} {s : Stk} {vp vm vl : Value} {lp : List Pt} {lm ll : List Ag} (hs : D.sit V p s) (hb : Below V.heap.size V W) (h1 : PtRowB V.heap.size W vp lp) (h2 : AgRow V.heap.size W vm lm) (h3 : AgRow V.heap.size W vl ll) : Rows3 D W p vp vm vl lp lm ll := by
  obtain ⟨-, k2⟩ := D.keep hs (only_beyond (S := fun _ => False) hb) (fun _ _ h => h)
  refine ⟨h1.base (Nat.zero_le _), h2.base (Nat.zero_le _), h3.base (Nat.zero_le _), fun k hk hk' => ?_, fun k hk hk' => ?_, fun k hk hk' => ?_⟩
  · have := (h1.lt k hk).1; have := D.lt hs (k2 k hk'); omega
  · have := (h2.lt k hk).1; have := D.lt hs (k2 k hk'); omega
  · have := (h3.lt k hk).1; have := D.lt hs (k2 k hk'); omega
theorem Rows3.step {D : TierD} {W W' : World} {p : Nat} {vp vm vl : Value} {lp : List Pt} {lm ll : List Ag} (x : Rows3 D W p vp vm vl lp lm ll) (h2 : ∀ k, D.own W' p k → D.own W p k ∨ W.heap.size ≤ k) (h3 : Only (D.own W p) W W') : Rows3 D W' p vp vm vl lp lm ll := by
  refine ⟨row_only x.pts h3 x.offp, row_only x.mid h3 x.offm, row_only x.long h3 x.offl, fun k hk hk' => ?_, fun k hk hk' => ?_, fun k hk hk' => ?_⟩
  · rcases h2 k hk' with h | h
    · exact x.offp k hk h
    · have := (x.pts.lt k hk).2; omega
  · rcases h2 k hk' with h | h
    · exact x.offm k hk h
    · have := (x.mid.lt k hk).2; omega
  · rcases h2 k hk' with h | h
    · exact x.offl k hk h
    · have := (x.long.lt k hk).2; omega
theorem Rows3.keep {D : TierD} {W W' : World} {p : Nat} {s : Stk} {vp vm vl : Value} {lp : List Pt} {lm ll : List Ag} (x : Rows3 D W p vp vm vl lp lm ll) (hs : D.sit W p s) (hb : Below W.heap.size W W') : Rows3 D W' p vp vm vl lp lm ll := by
  obtain ⟨-, k2⟩ := D.keep hs (only_beyond (S := fun _ => False) hb) (fun _ _ h => h)
  exact x.step (fun k hk => .inl (k2 k hk)) (only_beyond hb)
theorem fewT_of {K : List TActL} (hK : true = fewT K 30) : (∀ x ∈ K, x.l.length ≤ 40) ∧ K.length ≤ 30 := by
  unfold fewT at hK
  have hK := hK.symm
  rw [Bool.and_eq_true] at hK
  refine ⟨fun x hx => ?_, by have := of_decide_eq_true hK.2; omega⟩
  have h1 := List.all_eq_true.1 hK.1 x hx
  unfold fewAct at h1
  rw [Bool.and_eq_true] at h1
  exact of_decide_eq_true h1.1
theorem rows_len {s : Stk} (h : GoodT s) (a b : Int) : (getL s.raw a b).length ≤ 256 ∧ (aggsT s 1 a b).length ≤ 256 ∧ (aggsT s 2 a b).length ≤ 256 :=
  ⟨Nat.le_trans (List.length_filter_le _ _) h.plen, Nat.le_trans (List.length_filter_le _ _) h.mid.len, Nat.le_trans (List.length_filter_le _ _) h.long.len⟩
/-- one hold, added to a new table -/
theorem add_new (n : ByteArray) (ra rb : Int) (hr : addE [] ⟨n, ⟨#[]⟩, ra, rb⟩ = 0) : addM [] ⟨n, ⟨#[]⟩, ra, rb⟩ = [⟨n, ⟨#[]⟩, ra, rb⟩] := by
  unfold addM; rw [if_pos hr]; rfl
end Go.Proofs.YthbdchleppbidaaGreat
/- Counts are compared. -/
namespace Go.Proofs.YthbdchleppbidaaGreat
open Go.RowKit

theorem infoInt : (Tryz.prog.info? 3).map (fun i => (i.zero, i.size, i.bytes)) = some (some (.int .i64 0), 1, 8) := by kernel_rfl
theorem cellsInt : Tryz.prog.cellsOf 3 = 1 := by kernel_rfl
theorem cnt_eq (a b c a' b' c' : Int) (w : World) : (Op.equalIn 10000 35 (.agg #[.int .i64 a, .int .i64 b, .int .i64 c]) (.agg #[.int .i64 a', .int .i64 b', .int .i64 c'])).run Tryz.prog w = .ok (a == a' && (b == b' && c == c')) w := by
  obtain ⟨i, hi⟩ : ∃ i, Tryz.prog.info? 3 = some i := by
    have h := infoInt
    cases hi : Tryz.prog.info? 3 with
    | none => rw [hi] at h; simp at h
    | some i => exact ⟨i, rfl⟩
  rw [show (10000 : Nat) = 9998 + 1 + 1 from rfl, run_equalIn_array w (9998 + 1) _ _ Tryz.underlying35 hi, cellsInt]
  rw [show List.range 3 = [0, 1, 2] from rfl]
  simp only [Op.eqItems]
  go_simp
  by_cases h1 : a = a' <;> by_cases h2 : b = b' <;> by_cases h3 : c = c' <;> simp [h1, h2, h3]
end Go.Proofs.YthbdchleppbidaaGreat
/- The chapter's example lives, over what package expire does. -/
namespace Go.Proofs.YthbdchleppbidaaGreat
open Go.RowKit

def exE1 : List Pt := [⟨10, 0⟩, ⟨20, 0⟩]
def exE2 : Stk := ⟨[⟨10, 0⟩, ⟨20, 0⟩], [], [], 0, 0⟩
def exE3 : Stk := ⟨[⟨10, 0⟩, ⟨20, 0⟩], [⟨0, 2, 0, 0, 0⟩], [], 300, 0⟩
def exE4 : Stk := ⟨[⟨20, 0⟩], [⟨0, 2, 0, 0, 0⟩], [], 300, 0⟩
theorem exE_put : putR newS exE1 = (2, 0) ∧ putT newS exE1 = exE2 := by decide
theorem exE_roll : rollR exE2 300 = (1, 0) ∧ rollT exE2 300 = exE3 := by decide
theorem exE_bad : badX 100 0 0 120 = false := by
  unfold badX
  rw [show rightP 100 0 0 = true from decide_eq_true (by unfold RightP; omega)]; rfl
theorem exE_ser (sr : ByteArray) : serX exE3 [] sr 100 0 0 120 = exE4 := by
  unfold serX
  rw [exE_bad, if_neg (by simp)]
  rfl
theorem exE_err : errX 100 0 0 120 = 0 := by unfold errX; rw [exE_bad]; rfl
set_option maxHeartbeats 16000000 in
set_option maxRecDepth 1000000 in
theorem exlives_any {D : TierD} (M : TierM D) (X : ExD D) (w : World) : Calls Tryz.prog 6 #[] w fun e w' => e = .returned (.bool true) ∧ Below w.heap.size w w' := by
  go_enter Tryz.func6, Tryz.ntmps6
  go_wp2_with fail
  refine (D.new_ w).mono ?_
  rintro e W1 ⟨p, rfl, h1, h2, hb⟩
  have HS1 : Hid (OneS D w.heap.size W1 p newS) := Lib.hid ⟨h1, h2⟩
  have HB1 := Lib.hid hb
  clear h1 h2 hb
  dsimp only
  go_wp2_with fail
  refine calls_name ?_
  intro W2 hW2
  have hb2 : Below W1.heap.size W1 W2 := by rw [hW2.out]; exact (Below.refl _ _).alloc (Nat.le_refl _) _
  have hx2 : PLies W2 (.slice (some ⟨W1.heap.size, 0, none⟩) 2 2) exE1 := by rw [hW2.out]; exact builtV_lies W1 exE1
  have HS2 := Lib.hid (HS1.out.keep hb2)
  have HB2 := Lib.hid (HB1.out.trans (hb2.mono HB1.out.size))
  have hput := D.put HS2.out.sit hx2 (by intro p hp; simp [exE1] at hp; rcases hp with rfl | rfl <;> simp [Pt.fits]) (by decide)
  rw [exE_put.1, exE_put.2] at hput
  have HPU := Lib.hid hput
  clear hput hb2 hx2 hW2
  refine (HPU.out).mono ?_
  rintro e W3 ⟨rfl, h1, h2, h3⟩
  have hst := HS2.out.step HB2.out.size h1 h2 h3
  have HS3 := Lib.hid hst.1
  have HB3 := Lib.hid (HB2.out.trans hst.2)
  clear h1 h2 h3 hst HPU HS2 HB2
  dsimp only
  have hroll := D.roll (now := 300) HS3.out.sit (by omega) (by omega)
  rw [exE_roll.1, exE_roll.2] at hroll
  have HRO := Lib.hid hroll
  clear hroll
  go_wp2_with fail
  refine (HRO.out).mono ?_
  rintro e W4 ⟨rfl, h1, h2, h3⟩
  have hst := HS3.out.step HB3.out.size h1 h2 h3
  have HS4 := Lib.hid hst.1
  have HB4 := Lib.hid (HB3.out.trans hst.2)
  clear h1 h2 h3 hst HRO HS3 HB3
  dsimp only
  have HHN := Lib.hid (honew_any W4)
  go_wp2_with fail
  refine (HHN.out).mono ?_
  rintro e W5 ⟨q, rfl, h1, h2, hb⟩
  have HS5 := Lib.hid (HS4.out.keep hb)
  have HB5 := Lib.hid (HB4.out.trans (hb.mono HB4.out.size))
  have htx : TabX D W5 p (.pointer (some ⟨q, 0, none⟩)) [] := .inr ⟨q, none, rfl, h1, TabM.nil, fun k hk ho => by
    obtain ⟨-, k2⟩ := D.keep HS4.out.sit (only_beyond (S := fun _ => False) hb) (fun _ _ h => h)
    have := D.lt HS4.out.sit (k2 k ho)
    rcases hk with rfl | hk
    · omega
    · cases hk⟩
  have hse := X.series (sr := ⟨#[97]⟩) (a := 100) (b := 0) (c := 0) (now := 120) HS5.out.sit htx ⟨by unfold I64; omega, by unfold I64; omega, by unfold I64; omega, by unfold I64; omega⟩ (by decide)
  rw [exE_ser, exE_err] at hse
  have HSE := Lib.hid hse
  clear h1 h2 hb htx hse HHN HS4 HB4
  dsimp only
  go_wp2_with fail
  refine (HSE.out).mono ?_
  rintro e W6 ⟨rfl, h1, h2, h3⟩
  have hst := HS5.out.step HB5.out.size h1 h2 h3
  have HS6 := Lib.hid hst.1
  have HB6 := Lib.hid (HB5.out.trans hst.2)
  clear h1 h2 h3 hst HSE HS5 HB5
  have ew : wentX exE3 exE4 = .agg #[.int .i64 1, .int .i64 0, .int .i64 0] := rfl
  rw [ew]
  clear ew
  dsimp only
  have hq : ∀ V, (Op.equalIn 10000 35 (.agg #[.int .i64 1, .int .i64 0, .int .i64 0]) (.agg #[.int .i64 1, .int .i64 0, .int .i64 0])).run Tryz.prog V = .ok true V := fun V => cnt_eq 1 0 0 1 0 0 V
  have HLN : Hid (∀ V, Below W6.heap.size W6 V → Calls Tryz.prog 27 #[.pointer (some ⟨p, 0, none⟩), .int .i64 0] V fun e w' => e = .returned (.int .i64 1) ∧ w' = V) := Lib.hid fun V hV => M.len (t := 0) (HS6.out.keep hV).sit (by unfold I64; omega)
  go_wp2_with fail
  refine (HLN.out _ ((Below.refl _ _).alloc (Nat.le_refl _) _)).mono ?_
  rintro e V ⟨rfl, hw⟩; replace hw := hw.symm; subst hw
  dsimp only
  go_wp2
  go_ret
  exact ⟨rfl, HB6.out.alloc HB6.out.size _⟩
end Go.Proofs.YthbdchleppbidaaGreat
/- The law's own: a stock behind acts. Written by py/ex-play.py. -/
namespace Go.Proofs.YthbdchleppbidaaGreat
open Go.RowKit

set_option maxHeartbeats 16000000 in
set_option maxRecDepth 1000000 in
theorem explay_any (D : TierD) {w : World} {v : Value} {L : List TActL} (hv : TActsAt w v L) (hin : ∀ x ∈ L, x.In) (hfew : ∀ x ∈ L, x.l.length ≤ 40) (hn : L.length ≤ 1000000) :
    Calls Tryz.prog 9 #[v] w fun e w' => ∃ p, e = .returned (.pointer (some ⟨p, 0, none⟩)) ∧ OneS D w.heap.size w' p (playT L) ∧ Below w.heap.size w w' := by
  obtain ⟨ad, b, off, cap, rfl, hadr, hacts⟩ := hv
  have HADR := Lib.hid hadr
  have HA := Lib.hid hacts
  have HIN := Lib.hid hin
  have HFEW := Lib.hid hfew
  clear hadr hacts hin hfew
  go_enter Tryz.func9, Tryz.ntmps9
  go_wp2_with fail
  refine (D.new_ w).mono ?_
  rintro e W1 ⟨p, rfl, h1, h2, hb⟩
  have HS1 : Hid (OneS D w.heap.size W1 p newS) := Lib.hid ⟨h1, h2⟩
  have HB1 := Lib.hid hb
  clear h1 h2 hb
  dsimp only
  go_wp2_with fail
  go_loopw [9] (fun c wr => ∃ j : Nat, j ≤ L.length ∧ c = .int .i64 j ∧ OneS D w.heap.size wr p (playT (L.take j)) ∧ Below w.heap.size w wr) (fun c _ => L.length - (intOf c).toNat)
  case atStart => exact ⟨0, Nat.zero_le _, rfl, HS1.out, HB1.out⟩
  case round =>
    obtain ⟨j, hj, rfl, hs, hb⟩ := hrel
    obtain ⟨W3, hW3⟩ : ∃ W3, W3 = wr := ⟨_, rfl⟩
    subst hW3
    obtain ⟨s, hse⟩ : ∃ s, s = playT (L.take j) := ⟨_, rfl⟩
    rw [← hse] at hs
    have HSE : Hid (playT (L.take j) = s) := Lib.hid hse.symm
    have HS3 := Lib.hid hs
    have HB3 := Lib.hid hb
    clear hs hb hse HS1 HB1
    by_cases hlt : j < L.length
    · have ea := HADR.out (by intro h; simp [h] at hlt)
      subst ea
      obtain ⟨x, hx⟩ : ∃ x, L[j]? = some x := ⟨L[j], List.getElem?_eq_getElem hlt⟩
      obtain ⟨u, c0, c1, c2, c3, c4, hpl, -⟩ := (HA.out j x hx).keep HB3.out
      have HXK := Lib.hid hx
      have HXI := Lib.hid (HIN.out x (List.mem_of_getElem? hx))
      have h40 : x.l.length ≤ 40 := HFEW.out x (List.mem_of_getElem? hx)
      obtain ⟨ua, ub, uo, uc, rfl, hua, hup⟩ := hpl
      have hpl2 : PLies W3 (.slice ua x.l.length uc) x.l := ⟨ua, ub, uo, uc, rfl, hua, hup⟩
      clear hx hua hup
      go_upto_region 5 with fail
      refine wp_name fun W4 hW4 => ?_
      obtain ⟨M, hM⟩ : ∃ M, M = W3.heap.size := ⟨_, rfl⟩
      have hb4 : Below W3.heap.size W3 W4 := by rw [hW4.out]; exact (Below.refl _ _).alloc (Nat.le_refl _) _
      have HB4 := Lib.hid (HB3.out.trans (hb4.mono HB3.out.size))
      have HS4 := Lib.hid (HS3.out.keep hb4)
      have HPT4 := Lib.hid (hpl2.beyond hb4)
      have p0 : W4.heap[M]? = some (.cells #[.int .i64 x.kind, .int .i64 x.at_, .slice ua x.l.length uc, .int .i64 x.a, .int .i64 x.b] 70 (0, 0)) := by rw [hW4.out, hM]; exact heap_alloc_new W3 _
      obtain ⟨q0, q1, q2, q3, q4⟩ := tact_cells p0
      rw [← hM]
      clear hb4 hW4 hM c0 c1 c2 c3 c4 p0 hpl2 HS3 HB3
      by_cases hk : x.kind = 0
      · have HPN : Hid (playT (L.take (j + 1)) = putT s x.l) := Lib.hid (by rw [take_snoc HXK.out, playT_snoc, HSE.out]; exact stepT_put (by omega))
        have t0 : (x.kind == 0) = true := by rw [hk]; rfl
        clear hk
        go_wp2_with fail
        refine (D.put HS4.out.sit HPT4.out HXI.out.pts (by omega)).mono ?_
        rintro e W6 ⟨rfl, h1, h2, h3⟩
        have hst := HS4.out.step HB4.out.size h1 h2 h3
        have HOUT : Hid (OneS D w.heap.size W6 p (playT (L.take (j + 1))) ∧ Below w.heap.size w W6) := Lib.hid ⟨by rw [HPN.out]; exact hst.1, HB4.out.trans hst.2⟩
        clear h1 h2 h3 hst
        dsimp only
        go_wp2
        go_roundw
        case rel => exact ⟨j + 1, by omega, by go_num, HOUT.out⟩
        case measure => simp [intOf]; omega
      have t0 : (x.kind == 0) = false := by simpa using hk
      have HK0 := Lib.hid hk
      clear hk
      by_cases hk : x.kind = 1
      · have HPN : Hid (playT (L.take (j + 1)) = putT s x.l) := Lib.hid (by rw [take_snoc HXK.out, playT_snoc, HSE.out]; exact stepT_put (by omega))
        have t0 : (x.kind == 0) = false := by rw [hk]; rfl
        have t1 : (x.kind == 1) = true := by rw [hk]; rfl
        clear hk
        go_wp2_with fail
        refine (D.put HS4.out.sit HPT4.out HXI.out.pts (by omega)).mono ?_
        rintro e W6 ⟨rfl, h1, h2, h3⟩
        have hst := HS4.out.step HB4.out.size h1 h2 h3
        have HOUT : Hid (OneS D w.heap.size W6 p (playT (L.take (j + 1))) ∧ Below w.heap.size w W6) := Lib.hid ⟨by rw [HPN.out]; exact hst.1, HB4.out.trans hst.2⟩
        clear h1 h2 h3 hst
        dsimp only
        go_wp2
        go_roundw
        case rel => exact ⟨j + 1, by omega, by go_num, HOUT.out⟩
        case measure => simp [intOf]; omega
      have t1 : (x.kind == 1) = false := by simpa using hk
      have HK1 := Lib.hid hk
      clear hk
      by_cases hk : x.kind = 2
      · have HPN : Hid (playT (L.take (j + 1)) = putT s x.l) := Lib.hid (by rw [take_snoc HXK.out, playT_snoc, HSE.out]; exact stepT_put (by omega))
        have t0 : (x.kind == 0) = false := by rw [hk]; rfl
        have t1 : (x.kind == 1) = false := by rw [hk]; rfl
        have t2 : (x.kind == 2) = true := by rw [hk]; rfl
        clear hk
        go_wp2_with fail
        refine (D.put HS4.out.sit HPT4.out HXI.out.pts (by omega)).mono ?_
        rintro e W6 ⟨rfl, h1, h2, h3⟩
        have hst := HS4.out.step HB4.out.size h1 h2 h3
        have HOUT : Hid (OneS D w.heap.size W6 p (playT (L.take (j + 1))) ∧ Below w.heap.size w W6) := Lib.hid ⟨by rw [HPN.out]; exact hst.1, HB4.out.trans hst.2⟩
        clear h1 h2 h3 hst
        dsimp only
        go_wp2
        go_roundw
        case rel => exact ⟨j + 1, by omega, by go_num, HOUT.out⟩
        case measure => simp [intOf]; omega
      have t2 : (x.kind == 2) = false := by simpa using hk
      have HK2 := Lib.hid hk
      clear hk
      by_cases hk : x.kind = 3
      · have HPN : Hid (playT (L.take (j + 1)) = rollT s x.at_) := Lib.hid (by rw [take_snoc HXK.out, playT_snoc, HSE.out]; exact stepT_roll (by omega))
        have t0 : (x.kind == 0) = false := by rw [hk]; rfl
        have t1 : (x.kind == 1) = false := by rw [hk]; rfl
        have t2 : (x.kind == 2) = false := by rw [hk]; rfl
        have t3 : (x.kind == 3) = true := by rw [hk]; rfl
        clear hk
        go_wp2_with fail
        refine (D.roll HS4.out.sit HXI.out.t0 HXI.out.t1).mono ?_
        rintro e W6 ⟨rfl, h1, h2, h3⟩
        have hst := HS4.out.step HB4.out.size h1 h2 h3
        have HOUT : Hid (OneS D w.heap.size W6 p (playT (L.take (j + 1))) ∧ Below w.heap.size w W6) := Lib.hid ⟨by rw [HPN.out]; exact hst.1, HB4.out.trans hst.2⟩
        clear h1 h2 h3 hst
        dsimp only
        go_wp2
        go_roundw
        case rel => exact ⟨j + 1, by omega, by go_num, HOUT.out⟩
        case measure => simp [intOf]; omega
      have t3 : (x.kind == 3) = false := by simpa using hk
      have HK3 := Lib.hid hk
      clear hk
      by_cases hk : x.kind = 4
      · have HPN : Hid (playT (L.take (j + 1)) = rollT s x.at_) := Lib.hid (by rw [take_snoc HXK.out, playT_snoc, HSE.out]; exact stepT_roll (by omega))
        have t0 : (x.kind == 0) = false := by rw [hk]; rfl
        have t1 : (x.kind == 1) = false := by rw [hk]; rfl
        have t2 : (x.kind == 2) = false := by rw [hk]; rfl
        have t3 : (x.kind == 3) = false := by rw [hk]; rfl
        have t4 : (x.kind == 4) = true := by rw [hk]; rfl
        clear hk
        go_wp2_with fail
        refine (D.roll HS4.out.sit HXI.out.t0 HXI.out.t1).mono ?_
        rintro e W6 ⟨rfl, h1, h2, h3⟩
        have hst := HS4.out.step HB4.out.size h1 h2 h3
        have HOUT : Hid (OneS D w.heap.size W6 p (playT (L.take (j + 1))) ∧ Below w.heap.size w W6) := Lib.hid ⟨by rw [HPN.out]; exact hst.1, HB4.out.trans hst.2⟩
        clear h1 h2 h3 hst
        dsimp only
        go_wp2
        go_roundw
        case rel => exact ⟨j + 1, by omega, by go_num, HOUT.out⟩
        case measure => simp [intOf]; omega
      have t4 : (x.kind == 4) = false := by simpa using hk
      have HK4 := Lib.hid hk
      clear hk
      by_cases hk : x.kind = 5
      · have HPN : Hid (playT (L.take (j + 1)) = purgeT s x.a x.b) := Lib.hid (by rw [take_snoc HXK.out, playT_snoc, HSE.out]; exact stepT_purge hk)
        have t0 : (x.kind == 0) = false := by rw [hk]; rfl
        have t1 : (x.kind == 1) = false := by rw [hk]; rfl
        have t2 : (x.kind == 2) = false := by rw [hk]; rfl
        have t3 : (x.kind == 3) = false := by rw [hk]; rfl
        have t4 : (x.kind == 4) = false := by rw [hk]; rfl
        have t5 : (x.kind == 5) = true := by rw [hk]; rfl
        clear hk
        go_wp2_with fail
        refine (D.purge HS4.out.sit HXI.out.a0 HXI.out.a1 HXI.out.b0 HXI.out.b1).mono ?_
        rintro e W6 ⟨rfl, h1, h2, h3⟩
        have hst := HS4.out.step HB4.out.size h1 h2 h3
        have HOUT : Hid (OneS D w.heap.size W6 p (playT (L.take (j + 1))) ∧ Below w.heap.size w W6) := Lib.hid ⟨by rw [HPN.out]; exact hst.1, HB4.out.trans hst.2⟩
        clear h1 h2 h3 hst
        dsimp only
        go_wp2
        go_roundw
        case rel => exact ⟨j + 1, by omega, by go_num, HOUT.out⟩
        case measure => simp [intOf]; omega
      have t5 : (x.kind == 5) = false := by simpa using hk
      have HK5 := Lib.hid hk
      clear hk
      have HPN : Hid (playT (L.take (j + 1)) = s) := Lib.hid (by rw [take_snoc HXK.out, playT_snoc, HSE.out]; exact stepT_none (by have := HK0.out; have := HK1.out; have := HK2.out; have := HK3.out; have := HK4.out; have := HK5.out; omega))
      go_wp2
      have HOUT : Hid (OneS D w.heap.size W4 p (playT (L.take (j + 1))) ∧ Below w.heap.size w W4) := Lib.hid ⟨by rw [HPN.out]; exact HS4.out, HB4.out⟩
      go_roundw
      case rel => exact ⟨j + 1, by omega, by go_num, HOUT.out⟩
      case measure => simp [intOf]; omega
    · obtain rfl : j = L.length := by omega
      have HEND : Hid (s = playT L) := Lib.hid (by rw [← HSE.out, List.take_of_length_le (Nat.le_refl _)])
      go_wp2
      go_ret
      exact ⟨p, rfl, by rw [← HEND.out]; exact HS3.out, HB3.out⟩
end Go.Proofs.YthbdchleppbidaaGreat
