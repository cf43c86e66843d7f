/- ExAsk, ExSerD: laid into one. -/
import Derived.Test.YthbdchleppbidaaGreatML
import Derived.Test.YthbdchleppbidaaGreatMT
import Derived.Test.YthbdchleppbidaaGreatZTiDrop1
import Derived.Test.YthbdchleppbidaaGreatMP
import Derived.Test.YthbdchleppbidaaGreatMI
import Derived.Laws.ResultCell
/- Package expire: up to where what a tier has went into the next wider one; does what a range has go? -/
namespace Go.Proofs.YthbdchleppbidaaGreat
open Go.RowKit

/-- up to where -/
def uptoX (s : Stk) (t : Int) : Int := if t = 0 then s.mm else if t = 1 then s.ml else 9223372036854775807
set_option maxHeartbeats 4000000 in
theorem exrolled_any {w : World} {p sp : Nat} {v vm vl : Value} {s : Stk} (h : TSit w p sp v vm vl s) {t : Int} (ht : t = 0 ∨ t = 1 ∨ t = 2) :
    Calls Tryz.prog 32 #[.pointer (some ⟨p, 0, none⟩), .int .i64 t] w fun e w' => e = .returned (.int .i64 (uptoX s t)) ∧ w' = w := by
  have H1 := Lib.hid (timark_any (t := 1) h (by omega) (by omega))
  have H2 := Lib.hid (timark_any (t := 2) h (by omega) (by omega))
  rw [if_pos rfl] at H1
  rw [if_neg (by omega), if_pos rfl] at H2
  clear h
  rcases ht with rfl | rfl | rfl
  · have HE : Hid (uptoX s 0 = s.mm) := Lib.hid rfl
    go_enter Tryz.func32, Tryz.ntmps32
    go_wp2_with fail
    refine H1.out.mono ?_
    rintro e w2 ⟨rfl, hw⟩; replace hw := hw.symm; subst hw
    dsimp only
    go_wp2
    go_ret
    exact ⟨by rw [HE.out]; rfl, rfl⟩
  · have HE : Hid (uptoX s 1 = s.ml) := Lib.hid rfl
    go_enter Tryz.func32, Tryz.ntmps32
    go_wp2_with fail
    refine H2.out.mono ?_
    rintro e w2 ⟨rfl, hw⟩; replace hw := hw.symm; subst hw
    dsimp only
    go_wp2
    go_ret
    exact ⟨by rw [HE.out]; rfl, rfl⟩
  · go_enter Tryz.func32, Tryz.ntmps32
    go_wp2
    go_ret
    exact ⟨rfl, rfl⟩
/-- what the function that Series hands on has captured -/
structure ExBox (W : World) (B Q : Nat) (a b c now : Int) (h : Value) (sr : ByteArray) (t til : Int) : Prop where
  sr : W.heap[B]? = some (.cells #[.string sr] 9 (0, 0))
  h : W.heap[B + 1]? = some (.cells #[h] 31 (0, 0))
  p : PolAt W (B + 2) a b c
  now : W.heap[B + 3]? = some (.cells #[.int .i64 now] 2 (0, 0))
  t : W.heap[Q]? = some (.cells #[.int .i64 t] 3 (0, 0))
  til : W.heap[Q + 1]? = some (.cells #[.int .i64 til] 2 (0, 0))
theorem ExBox.keep {W W' : World} {B Q : Nat} {a b c now : Int} {h : Value} {sr : ByteArray} {t til : Int} (x : ExBox W B Q a b c now h sr t til) (hb : Below W.heap.size W W') : ExBox W' B Q a b c now h sr t til :=
  ⟨box_keep x.sr hb, box_keep x.h hb, x.p.keep hb, box_keep x.now hb, box_keep x.t hb, box_keep x.til hb⟩
set_option maxHeartbeats 4000000 in
set_option maxRecDepth 100000 in
theorem exask_any {W : World} {B Q : Nat} {a b c now : Int} {h : Value} {sr : ByteArray} {t til : Int} (hx : ExBox W B Q a b c now h sr t til) (hn : -9223372036854775808 ≤ now ∧ now ≤ 9223372036854775807) (lo hi : Int) {M : Bool}
    (hm : ∀ V, Below W.heap.size W V → Calls Tryz.prog 36 #[h, .string sr, .agg #[.int .i64 lo, .int .i64 hi]] V fun e w' => e = .returned (.bool M) ∧ Below V.heap.size V w') :
    Calls Tryz.prog 34 #[.agg #[.int .i64 lo, .int .i64 hi], .pointer (some ⟨Q + 1, 0, none⟩), .pointer (some ⟨B + 2, 0, none⟩), .pointer (some ⟨Q, 0, none⟩), .pointer (some ⟨B + 3, 0, none⟩), .pointer (some ⟨B + 1, 0, none⟩), .pointer (some ⟨B, 0, none⟩)] W
      fun e w' => e = .returned (.bool (decide (hi ≤ til) && (goneP (ofP a b c t) hi now && !M))) ∧ Below W.heap.size W w' := by
  have HM := Lib.hid hm
  have HG : Hid (∀ V, Calls Tryz.prog 35 #[.agg #[.int .i64 a, .int .i64 b, .int .i64 c], .int .i64 t, .agg #[.int .i64 lo, .int .i64 hi], .int .i64 now] V fun e w' => e = .returned (.bool (goneP (ofP a b c t) hi now)) ∧ Below V.heap.size V w') := Lib.hid fun V => pogone_any V a b c t lo hi now hn
  obtain ⟨G, hG⟩ : ∃ G, G = goneP (ofP a b c t) hi now := ⟨_, rfl⟩
  rw [← hG] at HG ⊢
  have HX := Lib.hid hx
  clear hx hm hG
  go_enter Tryz.func34, Tryz.ntmps34
  go_upto_region 1 with fail
  refine wp_name fun W1 hW1 => ?_
  obtain ⟨P, hP⟩ : ∃ P, P = W.heap.size := ⟨_, rfl⟩
  have hb1 : Below W.heap.size W W1 := by rw [hW1.out]; exact (Below.refl _ _).alloc (Nat.le_refl _) _
  have HR1 : Hid (RgAt W1 P lo hi) := Lib.hid (by rw [hW1.out, hP]; exact RgAt.new W lo hi)
  have HX1 := Lib.hid (HX.out.keep hb1)
  have HB1 := Lib.hid hb1
  rw [← hP]
  clear hW1 hP hb1 HX
  obtain ⟨r0, r1, -, -⟩ := HR1.out.cells
  obtain ⟨p0, p1, p2, -, -, -⟩ := HX1.out.p.cells
  have s0 := (cells1 HX1.out.sr).1
  have h0 := (cells1 HX1.out.h).1
  have n0 := (cells1 HX1.out.now).1
  have t0 := (cells1 HX1.out.t).1
  have o0 := (cells1 HX1.out.til).1
  by_cases hle : hi ≤ til
  · have d0 : decide (hi ≤ til) = true := decide_eq_true hle
    have D0 := Lib.hid d0
    clear hle
    go_wp2_with fail
    refine (HG.out W1).mono ?_
    rintro e W2 ⟨rfl, hb2⟩
    have HR2 : Hid (RgAt W2 P lo hi) := Lib.hid (HR1.out.keep hb2)
    have HX2 := Lib.hid (HX1.out.keep hb2)
    have HB2 := Lib.hid (HB1.out.trans (hb2.mono HB1.out.size))
    clear r0 r1 p0 p1 p2 s0 h0 n0 t0 o0 hb2 HR1 HX1 HB1 HG
    obtain ⟨r0, r1, -, -⟩ := HR2.out.cells
    have s0 := (cells1 HX2.out.sr).1
    have h0 := (cells1 HX2.out.h).1
    dsimp only
    cases G with
    | false =>
      go_wp2
      go_ret
      exact ⟨by rw [D0.out]; rfl, HB2.out⟩
    | true =>
      go_wp2_with fail
      refine (HM.out W2 HB2.out).mono ?_
      rintro e W3 ⟨rfl, hb3⟩
      have HB3 := Lib.hid (HB2.out.trans (hb3.mono HB2.out.size))
      clear hb3
      dsimp only
      go_wp2
      go_ret
      exact ⟨by rw [D0.out]; rfl, HB3.out⟩
  · have d0 : decide (hi ≤ til) = false := decide_eq_false hle
    have D0 := Lib.hid d0
    clear hle
    go_wp2
    go_ret
    exact ⟨by rw [D0.out]; rfl, HB1.out⟩
end Go.Proofs.YthbdchleppbidaaGreat
/- Package expire: what lies between two tiers of Series. -/
namespace Go.Proofs.YthbdchleppbidaaGreat
open Go.RowKit

theorem end_most (t x : Int) : endW t x ≤ 9223372036854775807 := by unfold endW; split <;> omega
theorem goX_eq {s : Stk} {m : List Hld} {sr : ByteArray} {a b c now t : Int} (ht : t = 0 ∨ t = 1 ∨ t = 2) (x : Int) :
    goX s m sr a b c now t x = (decide (endW t x ≤ uptoX s t) && (goneP (ofP a b c t) (endW t x) now && !(someH m sr fun p q => meetsR p q (startW t x) (endW t x)))) := by
  have hm := end_most t x
  unfold goX
  congr 1
  unfold belowX uptoX
  rcases ht with rfl | rfl | rfl
  · rfl
  · rfl
  · rw [if_neg (by omega), if_neg (by omega), if_neg (by omega), if_neg (by omega), decide_eq_true hm]
/-- between two tiers: the boxes, the counts, the stock -/
structure SerSt (w W : World) (B C p sp : Nat) (v vm vl : Value) (a b c now : Int) (h : Value) (sr : ByteArray) (n0 n1 n2 : Int) (v' vm' vl' : Value) (s : Stk) : Prop where
  b0 : W.heap[B]? = some (.cells #[.string sr] 9 (0, 0))
  b1 : W.heap[B + 1]? = some (.cells #[h] 31 (0, 0))
  b2 : PolAt W (B + 2) a b c
  b3 : W.heap[B + 3]? = some (.cells #[.int .i64 now] 2 (0, 0))
  b4 : W.heap[B + 4]? = some (.cells #[.int .i64 0, .int .i64 0, .int .i64 0] 35 (0, 0))
  b5 : W.heap[C]? = some (.cells #[.int .i64 n0, .int .i64 n1, .int .i64 n2] 35 (0, 0))
  sit : TSit W p sp v' vm' vl' s
  blk : ∀ k, TBlk p sp v' vm' vl' k → TBlk p sp v vm vl k ∨ C + 1 ≤ k
  old : ∀ k, TBlk p sp v vm vl k → k < B
  at_ : B = w.heap.size
  lt : B + 5 ≤ C
  only : Only (TBlk p sp v vm vl) w W
theorem SerSt.keep {w W W' : World} {B C p sp : Nat} {v vm vl : Value} {a b c now : Int} {h : Value} {sr : ByteArray} {n0 n1 n2 : Int} {v' vm' vl' : Value} {s : Stk} (x : SerSt w W B C p sp v vm vl a b c now h sr n0 n1 n2 v' vm' vl' s) (hb : Below W.heap.size W W') : SerSt w W' B C p sp v vm vl a b c now h sr n0 n1 n2 v' vm' vl' s :=
  ⟨box_keep x.b0 hb, box_keep x.b1 hb, x.b2.keep hb, box_keep x.b3 hb, (hb.block _ (lt_of_block x.b4)).trans x.b4, (hb.block _ (lt_of_block x.b5)).trans x.b5, x.sit.keep hb, x.blk, x.old, x.at_, x.lt, x.only.trans (only_beyond (S := fun _ => False) hb) (fun _ _ h => h.elim)⟩
theorem SerSt.off {w W : World} {B C p sp : Nat} {v vm vl : Value} {a b c now : Int} {h : Value} {sr : ByteArray} {n0 n1 n2 : Int} {v' vm' vl' : Value} {s : Stk} (x : SerSt w W B C p sp v vm vl a b c now h sr n0 n1 n2 v' vm' vl' s) {k : Nat} (h0 : B ≤ k) (h1 : k < C + 1) : ¬ TBlk p sp v' vm' vl' k := fun hk => by
  rcases x.blk k hk with h2 | h2
  · have := x.old k h2; omega
  · omega
theorem SerSt.turn {w W W' : World} {B C p sp : Nat} {v vm vl : Value} {a b c now : Int} {h : Value} {sr : ByteArray} {n0 n1 n2 : Int} {v' vm' vl' : Value} {s s' : Stk} (x : SerSt w W B C p sp v vm vl a b c now h sr n0 n1 n2 v' vm' vl' s) (ht : Turned W W' p sp v' vm' vl' s') : ∃ v'' vm'' vl'', SerSt w W' B C p sp v vm vl a b c now h sr n0 n1 n2 v'' vm'' vl'' s' := by
  obtain ⟨v'', vm'', vl'', h1, h2, h3⟩ := ht
  have hs := lt_of_block x.b5
  have hlt := x.lt
  have ho : ∀ k, B ≤ k → k < C + 1 → W'.heap[k]? = W.heap[k]? := fun k h4 h5 => h3.block k (by omega) (x.off h4 h5)
  refine ⟨v'', vm'', vl'', (ho _ (by omega) (by omega)).trans x.b0, (ho _ (by omega) (by omega)).trans x.b1, (ho _ (by omega) (by omega)).trans x.b2, (ho _ (by omega) (by omega)).trans x.b3, (ho _ (by omega) (by omega)).trans x.b4, (ho _ (by omega) (by omega)).trans x.b5, h1, fun k hk => ?_, x.old, x.at_, x.lt, x.only.trans h3 fun i hi hk => ?_⟩
  · rcases h2 k hk with h4 | h4
    · exact x.blk k h4
    · exact .inr (by omega)
  · rcases x.blk i hk with h4 | h4
    · exact h4
    · have := x.at_; omega
theorem SerSt.set {w W W' : World} {B C p sp : Nat} {v vm vl : Value} {a b c now : Int} {h : Value} {sr : ByteArray} {n0 n1 n2 m0 m1 m2 : Int} {v' vm' vl' : Value} {s : Stk} {i : Nat} {u : Int} (x : SerSt w W B C p sp v vm vl a b c now h sr n0 n1 n2 v' vm' vl' s) (hW : W' = W.setCell ⟨C, i, none⟩ (.int .i64 u))
    (he : (#[Value.int .i64 n0, .int .i64 n1, .int .i64 n2] : Array Value).setIfInBounds i (.int .i64 u) = #[.int .i64 m0, .int .i64 m1, .int .i64 m2]) : SerSt w W' B C p sp v vm vl a b c now h sr m0 m1 m2 v' vm' vl' s := by
  have ho : Only (fun k => k = C) W W' := by rw [hW]; exact Only.setCell (S := fun k => k = C) W rfl _
  have e := heap_setCell_same W (C) i _ _ (.int .i64 u) x.b5
  have hs := lt_of_block x.b5
  have hlt := x.lt
  have hk : ∀ k, B ≤ k → k < C → W'.heap[k]? = W.heap[k]? := fun k h4 h5 => ho.block k (by omega) (by omega)
  refine ⟨(hk _ (by omega) (by omega)).trans x.b0, (hk _ (by omega) (by omega)).trans x.b1, (hk _ (by omega) (by omega)).trans x.b2, (hk _ (by omega) (by omega)).trans x.b3, (hk _ (by omega) (by omega)).trans x.b4, by rw [hW, e, he], x.sit.only ho (fun k h1 e => x.off (by omega) (by omega) h1), x.blk, x.old, x.at_, x.lt, x.only.trans ho fun i hi hk => ?_⟩
  have := x.at_; omega
/-- its cells -/
theorem SerSt.cells {w W : World} {B C p sp : Nat} {v vm vl : Value} {a b c now : Int} {h : Value} {sr : ByteArray} {n0 n1 n2 : Int} {v' vm' vl' : Value} {s : Stk} (x : SerSt w W B C p sp v vm vl a b c now h sr n0 n1 n2 v' vm' vl' s) :
    W.cell? ⟨C, 0, none⟩ = some (.int .i64 n0) ∧ W.cell? ⟨C, 1, none⟩ = some (.int .i64 n1) ∧ W.cell? ⟨C, 2, none⟩ = some (.int .i64 n2) ∧ W.frozen? ⟨C, 0, none⟩ = false ∧ W.frozen? ⟨C, 1, none⟩ = false ∧ W.frozen? ⟨C, 2, none⟩ = false := cells3 x.b5
theorem SerSt.drew {w W : World} {B C p sp : Nat} {v vm vl : Value} {a b c now : Int} {h : Value} {sr : ByteArray} {n0 n1 n2 : Int} {v' vm' vl' : Value} {s : Stk} (x : SerSt w W B C p sp v vm vl a b c now h sr n0 n1 n2 v' vm' vl' s) : SerSt w W.drew B C p sp v vm vl a b c now h sr n0 n1 n2 v' vm' vl' s := x.keep ((Below.refl _ W).drew)
/-- what Meets tells, wherever just the stock was changed -/
def MeetX (w : World) (p sp : Nat) (v vm vl h : Value) (m : List Hld) (sr : ByteArray) : Prop := ∀ V, Only (TBlk p sp v vm vl) w V → ∀ lo hi, Calls Tryz.prog 36 #[h, .string sr, .agg #[.int .i64 lo, .int .i64 hi]] V fun e w' => e = .returned (.bool (someH m sr fun a b => meetsR a b lo hi)) ∧ Below V.heap.size V w'
/-- what Series hands on -/
theorem exaskD {w W : World} {B C p sp : Nat} {v vm vl : Value} {a b c now : Int} {h : Value} {sr : ByteArray} {n0 n1 n2 : Int} {v' vm' vl' : Value} {s : Stk} (x : SerSt w W B C p sp v vm vl a b c now h sr n0 n1 n2 v' vm' vl' s) {m : List Hld} (hm : MeetX w p sp v vm vl h m sr) (hn : -9223372036854775808 ≤ now ∧ now ≤ 9223372036854775807)
    {Q : Nat} {t : Int} (ht : t = 0 ∨ t = 1 ∨ t = 2) (q0 : W.heap[Q]? = some (.cells #[.int .i64 t] 3 (0, 0))) (q1 : W.heap[Q + 1]? = some (.cells #[.int .i64 (uptoX s t)] 2 (0, 0))) (L : List Int) :
    AskD W 34 #[.pointer (some ⟨Q + 1, 0, none⟩), .pointer (some ⟨B + 2, 0, none⟩), .pointer (some ⟨Q, 0, none⟩), .pointer (some ⟨B + 3, 0, none⟩), .pointer (some ⟨B + 1, 0, none⟩), .pointer (some ⟨B, 0, none⟩)] t L (goX s m sr a b c now t) := by
  have hx : ExBox W B Q a b c now h sr t (uptoX s t) := ⟨x.b0, x.b1, x.b2, x.b3, q0, q1⟩
  refine ⟨enters_of Tryz.func34 (by kernel_rfl) rfl, fun V hV y _ => ?_⟩
  rw [goX_eq ht]
  have h1 := exask_any (M := someH m sr fun p q => meetsR p q (startW t y) (endW t y)) (hx.keep hV) hn (startW t y) (endW t y) (fun U hU => hm U (x.only.trans (only_beyond (S := fun _ => False) (hV.trans (hU.mono hV.size))) (fun _ _ h => h.elim)) _ _)
  simpa using h1
/-- a count handed back, and an error -/
theorem ret_cnt2 {fn : Func} {p u : Tmp} (h : fn.results = #[.cell p 35, .tmp u]) {tmps : Array Value} {w : World} {Q : Nat} {x y z : Value} (hp : tmps.getD p undef = .pointer (some ⟨Q, 0, none⟩)) (hq : w.heap[Q]? = some (.cells #[x, y, z] 35 (0, 0))) :
    (results fn tmps).run Tryz.prog w = .ok (.tuple #[.agg #[x, y, z], tmps.getD u undef]) w := by
  obtain ⟨c0, c1, c2, -, -, -⟩ := cells3 hq
  rw [results_cell_tmp h, hp]
  go_simp
theorem ret_cnt {fn : Func} {p : Tmp} (h : fn.results = #[.cell p 35]) {tmps : Array Value} {w : World} {Q : Nat} {x y z : Value} (hp : tmps.getD p undef = .pointer (some ⟨Q, 0, none⟩)) (hq : w.heap[Q]? = some (.cells #[x, y, z] 35 (0, 0))) :
    (results fn tmps).run Tryz.prog w = .ok (.agg #[x, y, z]) w := by
  obtain ⟨c0, c1, c2, -, -, -⟩ := cells3 hq
  rw [results_cell h, hp]
  go_simp
end Go.Proofs.YthbdchleppbidaaGreat
