/- Package expire: Series as the laws take it; Due; a nil stock. -/
import Derived.Test.YthbdchleppbidaaGreatZExSer
import Derived.Test.YthbdchleppbidaaGreatMX
import Derived.Test.YthbdchleppbidaaGreatMV
import Derived.Test.YthbdchleppbidaaGreatZTiCopy
namespace Go.Proofs.YthbdchleppbidaaGreat
open Go.RowKit

theorem tierM : TierM tierDoes where
  len := fun {_ _ _ t} h ht => by
    obtain ⟨sp, v, vm, vl, h⟩ := h
    exact tilen_any h ht.1 ht.2
  bytes := fun h => by
    obtain ⟨sp, v, vm, vl, h⟩ := h
    exact tibytes_any h
  copy := fun h => by
    obtain ⟨sp, v, vm, vl, h⟩ := h
    exact (ticopy_any h).mono fun e w' hh => by
      obtain ⟨⟨p', sp', v', vm', vl', rfl, h1, h2⟩, h3⟩ := hh
      exact ⟨p', rfl, ⟨sp', v', vm', vl', h1⟩, fun k hk => h2 k ((h1.own k).1 hk), h3⟩
theorem meetX_of {w : World} {p sp : Nat} {v vm vl h : Value} {m : List Hld} {sr : ByteArray} (ho : ∀ k, tOwn w p k ↔ TBlk p sp v vm vl k) (ht : TabX tierDoes w p h m) : ∃ hp, h = .pointer hp ∧ MeetX w p sp v vm vl (.pointer hp) m sr := by
  rcases ht with ⟨rfl, rfl⟩ | ⟨q, g, rfl, h1, h2, h3⟩
  · exact ⟨none, rfl, fun V _ lo hi => homeet_none V sr lo hi⟩
  · exact ⟨_, rfl, fun V hV lo hi => homeet_any (h1.only hV (fun k hk hk' => h3 k hk ((ho k).2 hk'))) h2 sr lo hi⟩
theorem series_of {w : World} {p : Nat} {s : Stk} {h : Value} {m : List Hld} {sr : ByteArray} {a b c now : Int} (hs : tSit w p s) (ht : TabX tierDoes w p h m) (hp : PolIn a b c now) :
    Calls Tryz.prog 13 #[.pointer (some ⟨p, 0, none⟩), .string sr, h, .agg #[.int .i64 a, .int .i64 b, .int .i64 c], .int .i64 now] w fun e w' => e = .returned (.tuple #[wentX s (serX s m sr a b c now), .int .i64 (errX a b c now)]) ∧ tSit w' p (serX s m sr a b c now) ∧ (∀ k, tOwn w' p k → tOwn w p k ∨ w.heap.size ≤ k) ∧ Only (tOwn w p) w w' := by
  obtain ⟨sp, v, vm, vl, hs⟩ := hs
  obtain ⟨q, rfl, hm⟩ := meetX_of (sr := sr) hs.own ht
  exact (exseries_any hs hm hp.now).mono fun e w' hh => ⟨hh.1, Turned.out hs hh.2⟩
theorem TabX.beyond {D : TierD} {w V : World} {p q : Nat} {h : Value} {m : List Hld} (ht : TabX D w p h m) (hb : Below w.heap.size w V) (ho : ∀ k, D.own V q k → w.heap.size ≤ k) : TabX D V q h m := by
  rcases ht with ⟨rfl, rfl⟩ | ⟨t, g, rfl, h1, h2, h3⟩
  · exact .inl ⟨rfl, rfl⟩
  · exact .inr ⟨t, g, rfl, h1.below hb, h2, fun k hk hk' => by have := h1.lt k hk; have := ho k hk'; omega⟩
/-- while Due runs: a policy's block, the result's, and perhaps the block of the counts -/
structure DuSt (w W : World) (P : Nat) (a b c : Int) (A : Option Nat) : Prop where
  bel : Below w.heap.size w W
  pol : PolAt W P a b c
  res : W.heap[P + 1]? = some (.cells #[.int .i64 0, .int .i64 0, .int .i64 0] 35 (0, 0))
  at_ : P = w.heap.size
  cnt : ∀ k, A = some k → W.heap[k]? = some (.cells #[.int .i64 0, .int .i64 0, .int .i64 0] 35 (0, 0)) ∧ P + 1 < k
theorem DuSt.keep {w W W' : World} {P : Nat} {a b c : Int} {A : Option Nat} (x : DuSt w W P a b c A) (hb : Below W.heap.size W W') : DuSt w W' P a b c A :=
  ⟨x.bel.trans (hb.mono x.bel.size), x.pol.keep hb, (hb.block _ (lt_of_block x.res)).trans x.res, x.at_, fun k hk => ⟨(hb.block _ (lt_of_block (x.cnt k hk).1)).trans (x.cnt k hk).1, (x.cnt k hk).2⟩⟩
theorem DuSt.alloc {w W : World} {P : Nat} {a b c : Int} (x : DuSt w W P a b c none) : DuSt w (W.alloc (.cells #[.int .i64 0, .int .i64 0, .int .i64 0] 35)) P a b c (some W.heap.size) := by
  have hb : Below W.heap.size W (W.alloc (.cells #[.int .i64 0, .int .i64 0, .int .i64 0] 35)) := (Below.refl _ _).alloc (Nat.le_refl _) _
  obtain ⟨h1, h2, h3, h4, -⟩ := x.keep hb
  refine ⟨h1, h2, h3, h4, fun k hk => ?_⟩
  injection hk with hk
  subst hk
  exact ⟨heap_alloc_new W _, lt_of_block x.res⟩
theorem DuSt.allocD {w W : World} {P : Nat} {a b c : Int} (x : DuSt w W.drew P a b c none) : DuSt w (W.alloc (.cells #[.int .i64 0, .int .i64 0, .int .i64 0] 35)).drew P a b c (some W.heap.size) := x.alloc
theorem DuSt.cells {w W : World} {P : Nat} {a b c : Int} {A : Option Nat} (x : DuSt w W P a b c A) : W.cell? ⟨P, 0, none⟩ = some (.int .i64 a) ∧ W.cell? ⟨P, 1, none⟩ = some (.int .i64 b) ∧ W.cell? ⟨P, 2, none⟩ = some (.int .i64 c) := ⟨x.pol.cells.1, x.pol.cells.2.1, x.pol.cells.2.2.1⟩
theorem DuSt.acells {w W : World} {P : Nat} {a b c : Int} {A : Option Nat} {k : Nat} (x : DuSt w W P a b c A) (hA : A = some k) : W.cell? ⟨k, 0, none⟩ = some (.int .i64 0) ∧ W.cell? ⟨k, 1, none⟩ = some (.int .i64 0) ∧ W.cell? ⟨k, 2, none⟩ = some (.int .i64 0) ∧ W.frozen? ⟨k, 0, none⟩ = false ∧ W.frozen? ⟨k, 1, none⟩ = false ∧ W.frozen? ⟨k, 2, none⟩ = false := cells3 (x.cnt k hA).1
/-- and behind Copy: a stock of its own -/
structure DuQ (w W : World) (P : Nat) (a b c : Int) (A : Option Nat) (q : Nat) (s : Stk) : Prop where
  st : DuSt w W P a b c A
  sit : tSit W q s
  own : ∀ k, tOwn W q k → P + 2 ≤ k
  off : ∀ k, A = some k → ¬ tOwn W q k
theorem DuQ.alloc {w W : World} {P q : Nat} {a b c : Int} {s : Stk} (x : DuQ w W P a b c none q s) : DuQ w (W.alloc (.cells #[.int .i64 0, .int .i64 0, .int .i64 0] 35)) P a b c (some W.heap.size) q s := by
  have hb : Below W.heap.size W (W.alloc (.cells #[.int .i64 0, .int .i64 0, .int .i64 0] 35)) := (Below.refl _ _).alloc (Nat.le_refl _) _
  obtain ⟨h1, h2⟩ := tSit_keep x.sit (only_beyond (S := fun _ => False) hb) (fun _ _ h => h)
  refine ⟨x.st.alloc, h1, fun k hk => x.own k (h2 k hk), fun k hk hk' => ?_⟩
  injection hk with hk
  have := tSit_lt x.sit (h2 k hk')
  omega
/-- the counts stored, wherever they lie -/
theorem DuSt.set {w W : World} {P k : Nat} {a b c : Int} {A : Option Nat} (x : DuSt w W P a b c A) (hA : A = some k) (u v z : Value) :
    (setPol W k u v z).cell? ⟨P, 0, none⟩ = some (.int .i64 a) ∧ (setPol W k u v z).cell? ⟨P, 1, none⟩ = some (.int .i64 b) ∧ (setPol W k u v z).cell? ⟨P, 2, none⟩ = some (.int .i64 c) := by
  have hk := (x.cnt k hA).2
  have hp : PolAt (setPol W k u v z) P a b c := x.pol.only (setPol_only W k u v z) (by omega)
  exact ⟨hp.cells.1, hp.cells.2.1, hp.cells.2.2.1⟩
/-- Due at its end: the counts, and the result's block -/
structure DuEnd (w W : World) (P k : Nat) (x y z : Int) : Prop where
  bel : Below w.heap.size w W
  cnt : W.heap[k]? = some (.cells #[.int .i64 x, .int .i64 y, .int .i64 z] 35 (0, 0))
  res : W.heap[P + 1]? = some (.cells #[.int .i64 0, .int .i64 0, .int .i64 0] 35 (0, 0))
  at_ : P = w.heap.size
theorem DuSt.endA {w W : World} {P : Nat} {a b c : Int} {A : Option Nat} (h : DuSt w W P a b c A) (x y z : Int) : DuEnd w (W.alloc (.cells #[.int .i64 x, .int .i64 y, .int .i64 z] 35)) P W.heap.size x y z := by
  have hb : Below W.heap.size W (W.alloc (.cells #[.int .i64 x, .int .i64 y, .int .i64 z] 35)) := (Below.refl _ _).alloc (Nat.le_refl _) _
  exact ⟨(h.keep hb).bel, heap_alloc_new W _, (h.keep hb).res, h.at_⟩
theorem DuSt.endB {w W : World} {P k : Nat} {a b c : Int} (h : DuSt w W P a b c (some k)) (x y z : Int) : DuEnd w (setPol W k (.int .i64 x) (.int .i64 y) (.int .i64 z)) P k x y z := by
  have ho := setPol_only W k (.int .i64 x) (.int .i64 y) (.int .i64 z)
  obtain ⟨h1, h2⟩ := h.cnt k rfl
  have h3 := h.at_
  exact ⟨h.bel.trans (ho.below h.bel.size (fun i hi => by omega)), setPol_at h1 _ _ _, (ho.block _ (lt_of_block h.res) (by omega)).trans h.res, h.at_⟩
theorem DuEnd.out {w W : World} {P k : Nat} {x y z : Int} (h : DuEnd w W P k x y z) (u v t : Value) : Below w.heap.size w (setPol W (P + 1) u v t) := by
  have h3 := h.at_
  exact h.bel.trans ((setPol_only W (P + 1) u v t).below h.bel.size (fun i hi => by omega))
theorem three_alloc {w : World} {p : Nat} {o : Obj} {a b c : Value} (h : w.cell? ⟨p, 0, none⟩ = some a ∧ w.cell? ⟨p, 1, none⟩ = some b ∧ w.cell? ⟨p, 2, none⟩ = some c) :
    (w.alloc o).cell? ⟨p, 0, none⟩ = some a ∧ (w.alloc o).cell? ⟨p, 1, none⟩ = some b ∧ (w.alloc o).cell? ⟨p, 2, none⟩ = some c := by
  have hp := cell_lt h.1
  have hb : Below w.heap.size w (w.alloc o) := (Below.refl _ _).alloc (Nat.le_refl _) _
  exact ⟨(hb.cell (p := ⟨p, 0, none⟩) hp).trans h.1, (hb.cell (p := ⟨p, 1, none⟩) hp).trans h.2.1, (hb.cell (p := ⟨p, 2, none⟩) hp).trans h.2.2⟩
set_option maxHeartbeats 8000000 in
set_option maxRecDepth 100000 in
theorem exdue_any {w : World} {p : Nat} {s : Stk} {hp : Option Addr} {m : List Hld} {sr : ByteArray} {a b c now : Int} (hs : tSit w p s) (ht : TabX tierDoes w p (.pointer hp) m) (hi : PolIn a b c now) :
    Calls Tryz.prog 12 #[.pointer (some ⟨p, 0, none⟩), .string sr, .pointer hp, .agg #[.int .i64 a, .int .i64 b, .int .i64 c], .int .i64 now] w fun e w' => e = .returned (wentX s (serX s m sr a b c now)) ∧ Below w.heap.size w w' := by
  obtain ⟨P, hP⟩ : ∃ P, P = w.heap.size := ⟨_, rfl⟩
  have HCP : Hid (∀ V A, DuSt w V P a b c A → Calls Tryz.prog 11 #[.pointer (some ⟨p, 0, none⟩)] V fun e w' => ∃ q, e = .returned (.pointer (some ⟨q, 0, none⟩)) ∧ DuQ w w' P a b c A q s) := Lib.hid fun V A hV =>
    (tierM.copy ((tSit_keep hs (only_beyond (S := fun _ => False) hV.bel) (fun _ _ h => h)).1)).mono fun e w' hh => by
      obtain ⟨q, rfl, h1, h2, h3⟩ := hh
      have h4 := lt_of_block hV.res
      exact ⟨q, rfl, hV.keep h3, h1, fun k hk => by have h5 : V.heap.size ≤ k := h2 k hk; omega, fun k hk hk' => by have h5 : V.heap.size ≤ k := h2 k hk'; have h6 := lt_of_block (hV.cnt k hk).1; omega⟩
  have HSE : Hid (∀ V A q, DuQ w V P a b c A q s → Calls Tryz.prog 13 #[.pointer (some ⟨q, 0, none⟩), .string sr, .pointer hp, .agg #[.int .i64 a, .int .i64 b, .int .i64 c], .int .i64 now] V fun e w' => e = .returned (.tuple #[wentX s (serX s m sr a b c now), .int .i64 (errX a b c now)]) ∧ DuSt w w' P a b c A) := Lib.hid fun V A q hV =>
    (series_of hV.sit (ht.beyond (D := tierDoes) hV.st.bel (fun k hk => by have := hV.own k hk; omega)) hi).mono fun e w' hh => by
      obtain ⟨h1, -, -, h4⟩ := hh
      refine ⟨h1, hV.st.bel.trans (h4.below hV.st.bel.size (fun k hk => by have := hV.own k hk; omega)), hV.st.pol.only h4 (fun hk => by have := hV.own P hk; omega), (h4.block _ (lt_of_block hV.st.res) (fun hk => by have := hV.own _ hk; omega)).trans hV.st.res, hV.st.at_, fun k hk => ⟨(h4.block _ (lt_of_block (hV.st.cnt k hk).1) (hV.off k hk)).trans (hV.st.cnt k hk).1, (hV.st.cnt k hk).2⟩⟩
  obtain ⟨x, y, z, hx⟩ : ∃ x y z : Int, wentX s (serX s m sr a b c now) = .agg #[.int .i64 x, .int .i64 y, .int .i64 z] := ⟨_, _, _, rfl⟩
  rw [hx] at HSE ⊢
  obtain ⟨er, her⟩ : ∃ er, er = errX a b c now := ⟨_, rfl⟩
  rw [← her] at HSE
  have HPP := Lib.hid hP
  clear hs ht hi hx her hP
  go_enter Tryz.func12, Tryz.ntmps12
  go_upto_region 1 with fail
  refine wp_name fun W1 hW1 => ?_
  have e2 : (w.alloc (.cells #[.int .i64 a, .int .i64 b, .int .i64 c] 25)).heap.size = P + 1 := by rw [HPP.out]; simp
  have H1 : Hid (DuSt w W1.drew P a b c none) := Lib.hid ⟨by rw [hW1.out]; exact below_drew (((Below.refl _ _).alloc (Nat.le_refl _) _).alloc (by simp) _), by rw [hW1.out, HPP.out]; exact (PolAt.new w a b c).old _, by rw [hW1.out, ← e2]; exact heap_alloc_new _ _, HPP.out, fun k hk => by cases hk⟩
  rw [← HPP.out]
  clear hW1 e2
  go_region_held3 (fun w' => w'.cell? ⟨P, 0, none⟩ = some (.int .i64 a) ∧ w'.cell? ⟨P, 1, none⟩ = some (.int .i64 b) ∧ w'.cell? ⟨P, 2, none⟩ = some (.int .i64 c)) (first | with_reducible exact H1.out.cells | with_reducible exact H2.out.st.cells | with_reducible exact H3.out.cells | with_reducible exact three_alloc H1.out.cells | with_reducible exact three_alloc H2.out.st.cells | with_reducible exact three_alloc H3.out.cells | exact H3.out.set rfl _ _ _ | with_reducible exact H1.out.allocD.cells) (((first | (go_at_call 11; refine (HCP.out _ _ (by first | with_reducible exact H1.out | with_reducible exact H1.out.allocD)).mono ?_; rintro e W2 ⟨q, rfl, h2⟩; have H2 := Lib.hid h2; clear h2) | (go_at_call 13; refine (HSE.out _ _ _ (by first | with_reducible exact H2.out | with_reducible exact H2.out.alloc)).mono ?_; rintro e W3 ⟨rfl, h3⟩; have H3 := Lib.hid h3; clear h3; (try obtain ⟨y0, y1, y2, g0, g1, g2⟩ := H3.out.acells rfl))); dsimp only))
  · obtain ⟨k, hk⟩ : ∃ k, k = W3.heap.size := ⟨_, rfl⟩
    obtain ⟨W4, hW4⟩ : ∃ W4, W4 = W3.alloc (.cells #[.int .i64 x, .int .i64 y, .int .i64 z] 35) := ⟨_, rfl⟩
    have HE : Hid (DuEnd w W4 P k x y z) := Lib.hid (by rw [hW4, hk]; exact H3.out.endA x y z)
    rw [← hW4, ← hk]
    clear hW4 hk H1 H2 H3
    obtain ⟨z0, z1, z2, -, -, -⟩ := cells3 HE.out.cnt
    obtain ⟨r0, r1, r2, f0, f1, f2⟩ := cells3 HE.out.res
    go_wp2_with fail
    refine bodyPost_ret (ret_cnt rfl rfl (setPol_at HE.out.res _ _ _)) rfl ?_
    exact ⟨rfl, HE.out.out _ _ _⟩
  · obtain ⟨k, hk⟩ : ∃ k, k = W2.heap.size := ⟨_, rfl⟩
    rw [← hk] at H3 ⊢
    generalize hW4 : World.setCell _ _ _ = W4
    have HE : Hid (DuEnd w W4 P k x y z) := Lib.hid (by rw [← hW4]; exact H3.out.endB x y z)
    clear hW4 hk H1 H2 H3 y0 y1 y2 g0 g1 g2
    obtain ⟨z0, z1, z2, -, -, -⟩ := cells3 HE.out.cnt
    obtain ⟨r0, r1, r2, f0, f1, f2⟩ := cells3 HE.out.res
    go_wp2_with fail
    refine bodyPost_ret (ret_cnt rfl rfl (setPol_at HE.out.res _ _ _)) rfl ?_
    exact ⟨rfl, HE.out.out _ _ _⟩
  · obtain ⟨k, hk⟩ : ∃ k, k = W1.heap.size := ⟨_, rfl⟩
    rw [← hk] at H3 ⊢
    generalize hW4 : World.setCell _ _ _ = W4
    have HE : Hid (DuEnd w W4 P k x y z) := Lib.hid (by rw [← hW4]; exact H3.out.endB x y z)
    clear hW4 hk H1 H2 H3 y0 y1 y2 g0 g1 g2
    obtain ⟨z0, z1, z2, -, -, -⟩ := cells3 HE.out.cnt
    obtain ⟨r0, r1, r2, f0, f1, f2⟩ := cells3 HE.out.res
    go_wp2_with fail
    refine bodyPost_ret (ret_cnt rfl rfl (setPol_at HE.out.res _ _ _)) rfl ?_
    exact ⟨rfl, HE.out.out _ _ _⟩
set_option maxHeartbeats 4000000 in
theorem exseries_none (w : World) (sr : ByteArray) (a b c now : Int) :
    Calls Tryz.prog 13 #[.pointer none, .string sr, .pointer none, .agg #[.int .i64 a, .int .i64 b, .int .i64 c], .int .i64 now] w fun e w' => e = .returned (.tuple #[.agg #[.int .i64 0, .int .i64 0, .int .i64 0], .int .i64 1]) ∧ Below w.heap.size w w' := by
  go_enter Tryz.func13, Tryz.ntmps13
  go_upto_region 1 with fail
  refine wp_name fun W1 hW1 => ?_
  obtain ⟨B, hB⟩ : ∃ B, B = w.heap.size := ⟨_, rfl⟩
  have HBB := Lib.hid hB
  have HW1 : Hid (Below w.heap.size w W1 ∧ W1.heap[B + 4]? = some (.cells #[.int .i64 0, .int .i64 0, .int .i64 0] 35 (0, 0))) := Lib.hid (by
    rw [hW1.out, hB]
    have h := five_boxes w #[.string sr] #[.pointer none] #[.int .i64 a, .int .i64 b, .int .i64 c] #[.int .i64 now] #[.int .i64 0, .int .i64 0, .int .i64 0] 9 31 25 2 35
    exact ⟨h.1, h.2.2.2.2.2.2⟩)
  rw [← hB, show B + 1 + 1 + 1 + 1 = B + 4 from rfl]
  clear hW1 hB
  obtain ⟨r0, r1, r2, f0, f1, f2⟩ := cells3 HW1.out.2
  go_wp2_with fail
  refine bodyPost_ret (ret_cnt2 rfl rfl (setPol_at HW1.out.2 _ _ _)) rfl ?_
  refine ⟨rfl, HW1.out.1.trans ((setPol_only W1 (B + 4) _ _ _).below HW1.out.1.size (fun i hi => ?_))⟩
  rw [hi, HBB.out]; omega
theorem expireD : ExD tierDoes where
  series := fun hs ht hp _ => series_of hs ht hp
  due := fun {_ _ _ h _ _ _ _ _ _} hs ht hp _ => by
    obtain ⟨q, rfl⟩ : ∃ q, h = .pointer q := by
      rcases ht with ⟨rfl, _⟩ | ⟨q, g, rfl, _⟩
      · exact ⟨_, rfl⟩
      · exact ⟨_, rfl⟩
    exact exdue_any hs ht hp
  series_none := fun w sr a b c now _ => exseries_none w sr a b c now
end Go.Proofs.YthbdchleppbidaaGreat
