/- HoSome, HoSm2, HoMeet: laid into one. -/
import Derived.Test.YthbdchleppbidaaGreatMH
import Derived.Test.YthbdchleppbidaaGreatMW
import Derived.Maps.RangeWalk
import Derived.Sort.MapsRangeIn
import Derived.Laws.IdiomRangeMap
import Derived.Shelf.Abstract
/- Package hold: some: is there one of a series, or of all, of whose range it is told? And what is told. -/
namespace Go.Proofs.YthbdchleppbidaaGreat
open Go.RowKit Go.Maps

/-- which have been seen: none of them serves -/
def SeenH (m : List Hld) (left : Lit → Bool) (s : ByteArray) (f : Int → Int → Bool) : Prop := ∀ h ∈ m, left (litS h.name) = false → (ofH s h && f h.a h.b) = false
theorem SeenH.start {es : List (Lit × DataW Hld)} {m : List Hld} (hp : es.Perm (m.map entH)) (s : ByteArray) (f : Int → Int → Bool) : SeenH m (Maps.has (.map es)) s f := fun h hh hl => by
  rw [MapIs.has hp, hasH_false] at hl
  exact absurd rfl (hl h hh)
theorem SeenH.none {m : List Hld} {left : Lit → Bool} {s : ByteArray} {f : Int → Int → Bool} (h : SeenH m left s f) (hl : ∀ k, left k = false) : someH m s f = false := by
  unfold someH
  rw [List.any_eq_false]
  intro x hx
  rw [h x hx (hl _)]; simp
/-- the one that came -/
theorem came_one {es : List (Lit × DataW Hld)} {m : List Hld} {k : ByteArray} {c : Hld} (hp : es.Perm (m.map entH)) (hat : ∀ zd, (DataW.map es).atKey (litS k) zd = .held c) : c ∈ m ∧ c.name = k := by
  have hf : (es.find? fun p => p.1.sameKey (litS k)).map (·.2) = some (.held c) := by
    have h1 := hat .nil
    have h2 := hat (.ptr .nil)
    simp only [DataW.atKey] at h1 h2
    cases hh : es.find? (fun p => p.1.sameKey (litS k)) with
    | none => rw [hh] at h1; cases h1
    | some p => rw [hh] at h1; simpa using h1
  obtain ⟨p, hp1, hp2⟩ := Option.map_eq_some_iff.1 hf
  have hmem := List.mem_of_find?_eq_some hp1
  have hsat := List.find?_some hp1
  obtain ⟨x, hx, rfl⟩ := List.mem_map.1 (hp.mem_iff.1 hmem)
  have hn := litS_same x.name k
  simp only [entH] at hp2 hsat
  rw [hsat] at hn
  injection hp2 with hp2
  subst hp2
  exact ⟨hx, by simpa using hn.symm⟩
theorem SeenH.step {m : List Hld} {left : Lit → Bool} {s : ByteArray} {f : Int → Int → Bool} (t : TabM m) (h : SeenH m left s f) {c : Hld} (hc : c ∈ m) (hno : (ofH s c && f c.a c.b) = false) : SeenH m (fun z => left z && !z.sameKey (litS c.name)) s f := fun x hx hl => by
  dsimp only at hl
  rw [litS_same] at hl
  by_cases e : x.name = c.name
  · rw [t.one hx hc e]; exact hno
  · exact h x hx (by simpa [e] using hl)
theorem some_one {m : List Hld} {s : ByteArray} {f : Int → Int → Bool} {c : Hld} (hc : c ∈ m) (hy : (ofH s c && f c.a c.b) = true) : someH m s f = true := List.any_eq_true.2 ⟨c, hc, hy⟩
theorem keyS_inv {x : ByteArray} {kl : Lit} (h : keyOf Tryz.prog 9 (.string x) = some kl) : kl = litS x := by
  have hx : x.size ≤ maxLen := by
    obtain ⟨y, e, _, hy⟩ := Maps.keyOf_str Tryz.underlying9 h
    have e2 : x = (⟨y.toArray⟩ : ByteArray) := by simpa [encStr] using e
    rw [e2]
    simpa [ByteArray.size] using hy
  rw [litS_of hx] at h
  injection h with h
  exact h.symm
theorem Hld.val_inj {x y : Hld} (h : x.val = y.val) : x = y := by
  obtain ⟨n, s, a, b⟩ := x
  obtain ⟨n', s', a', b'⟩ := y
  simp only [Hld.val, Value.agg.injEq, Array.mk.injEq, List.cons.injEq, Value.string.injEq, Value.int.injEq, true_and, and_true] at h
  obtain ⟨rfl, rfl, rfl, rfl⟩ := h
  rfl
theorem grown_of {B : Nat} {w w' : World} (hb : Below B w w') (hB : w.heap.size ≤ B) : w.grownBy w' none := ⟨hb.os, hb.tape, hb.output, hb.size, fun i hi _ => hb.block i (by omega)⟩
set_option maxHeartbeats 16000000 in
set_option maxRecDepth 100000 in
theorem hosome_map {w : World} {p g : Nat} {m : List Hld} {s : ByteArray} {fn : FuncId} {cb : Array Value} {f : Int → Int → Bool} (h : TabAt w p (some g) m) (t : TabM m)
    (hf : ∀ W a b, Below w.heap.size w W → Calls Tryz.prog fn (#[.agg #[.int .i64 a, .int .i64 b]] ++ cb) W fun e w' => e = .returned (.bool (f a b)) ∧ Below W.heap.size W w') (eg : ∀ args W, (callFunc fn args).run Tryz.prog W = .ok (.enter fn args) W) :
    Calls Tryz.prog 77 #[.pointer (some ⟨p, 0, none⟩), .string s, .func (.func fn) #[] cb] w fun e w' => e = .returned (.bool (someH m s f)) ∧ Below w.heap.size w w' := by
  have HH := Lib.hid (hoheld_any h)
  obtain ⟨es, h1, h2⟩ := h.own g rfl
  have HP := Lib.hid h2
  have HF := Lib.hid hf
  have HT := Lib.hid t
  clear h hf t h2
  go_enter Tryz.func77, Tryz.ntmps77
  go_wp2_with (first | (at_range; refine wpList_range_own _ rfl _ 92 rfl 9 60 keyS mapT readH g m.length _ rfl h1 ?_; intro w0 hrg0 hg0 hs0) | (go_at_call 83; refine (HH.out).mono ?_; rintro e W1 ⟨rfl, hw1⟩; replace hw1 := hw1.symm; subst hw1))
  have hb0 : Below w.heap.size w w0 := ⟨hg0.os, hg0.tape, hg0.output, hg0.size, fun i hi => hg0.block i hi (by simp)⟩
  obtain ⟨B, hB⟩ : ∃ B, B = w.heap.size := ⟨_, rfl⟩
  rw [← hB] at HF hb0 hrg0 ⊢
  have HB := Lib.hid hB
  have HR0 := Lib.hid hrg0
  have HB0 := Lib.hid hb0
  clear hg0 hs0 h1 hB hrg0 hb0
  go_frame
  go_loopw [8] (fun _ wr => ∃ (left : Lit → Bool) (cnt : Nat), wr.ranges Tryz.prog 9 readH g B m.length (.map es) left cnt ∧ SeenH m left s f ∧ Below B w wr) (fun _ wr => wr.rangeLeft g B)
  case atStart => exact ⟨_, _, HR0.out, SeenH.start HP.out s f, HB0.out⟩
  case round =>
    obtain ⟨left, cnt, hrg, hsn, hbl⟩ := hrel
    have HSN := Lib.hid hsn
    have HBL := Lib.hid hbl
    have HRG := Lib.hid hrg
    clear hsn hbl
    go_wp2_with (first
      | (at_next; refine wpList_next_ranges _ rfl _ rfl 9 keyS readH Value.string Hld.val (fun key kl hk => Maps.keyOf_string_inv Tryz.underlying9 hk) (fun v y hv => by obtain ⟨c, rfl, _⟩ := readH_inv hv; exact ⟨c, rfl⟩) g B m.length _ _ _ rfl hrg ?_ ?_))
    · intro hc0 hl0
      have HL0 : Hid (someH m s f = false) := Lib.hid (HSN.out.none hl0)
      clear hrg hl0
      go_wp2
      go_ret
      exact ⟨by rw [HL0.out]; rfl, by rw [← HB.out]; exact HBL.out⟩
    · intro x c kl yd yp w2 cnt2 hkey hlk hv hat hrg2 hlt hg2 hs2 hen
      obtain rfl := keyS_inv hkey
      obtain ⟨c', ec, ez⟩ := readH_inv hv
      obtain rfl : c = c' := Hld.val_inj ec
      obtain ⟨rfl, rfl⟩ := Prod.mk.inj ez
      obtain ⟨hcm, hcn⟩ := came_one HP.out hat
      have HB2 : Hid (Below B w w2) := Lib.hid (HBL.out.trans ((Only.grown hg2).below (by have := hrg.lt; omega) (fun k hk => by injection hk with hk; omega)))
      have HB2S : Hid (B ≤ w2.heap.size) := Lib.hid (by have := hrg2.lt; omega)
      have HRG2 := Lib.hid hrg2
      have HST : Hid ((ofH s c && f c.a c.b) = false → SeenH m (fun z => left z && !z.sameKey (litS x)) s f) := Lib.hid fun hno => by rw [← hcn]; exact HSN.out.step HT.out hcm hno
      have HYS : Hid ((ofH s c && f c.a c.b) = true → someH m s f = true) := Lib.hid fun hy => some_one hcm hy
      have HLT := Lib.hid hlt
      clear hkey hv hlk hat hrg2 hg2 hcm hcn hrg ez ec hs2
      obtain ⟨n, t, a, b⟩ := c
      unfold Hld.val at *
      dsimp only at *
      have te := size_empty t
      have tq := text_beq t s
      have HOF : Hid (ofH s ⟨n, t, a, b⟩ = (decide (t.size = 0) || decide (t = s))) := Lib.hid rfl
      obtain ⟨E, hE⟩ : ∃ E, E = decide (t.size = 0) := ⟨_, rfl⟩
      obtain ⟨Q, hQ⟩ : ∃ Q, Q = decide (t = s) := ⟨_, rfl⟩
      obtain ⟨O, hO⟩ : ∃ O, O = ofH s ⟨n, t, a, b⟩ := ⟨_, rfl⟩
      obtain ⟨V, hV⟩ : ∃ V, V = f a b := ⟨_, rfl⟩
      obtain ⟨W3, hW3⟩ : ∃ W3, W3 = w2.alloc (.cells #[.string n, .string t, .int .i64 a, .int .i64 b] 60) := ⟨_, rfl⟩
      have HB3 : Hid (Below w2.heap.size w2 W3) := Lib.hid (by rw [hW3]; exact (Below.refl _ _).alloc (Nat.le_refl _) _)
      have HV : Hid (Calls Tryz.prog fn (#[.agg #[.int .i64 a, .int .i64 b]] ++ cb) W3 fun e w' => e = .returned (.bool V) ∧ Below W3.heap.size W3 w') := Lib.hid (by rw [hV]; exact HF.out W3 a b (HB2.out.trans (HB3.out.mono HB2S.out)))
      rw [← hE] at te HOF
      rw [← hQ] at tq HOF
      rw [← hO] at HOF HST HYS
      rw [← hV] at HST HYS
      rw [hW3] at HV HB3
      clear hE hQ hO hV hW3
      cases E with
      | false =>
        cases Q with
        | false =>
          go_wp2
          go_roundw
          case rel => exact ⟨_, cnt2, HRG2.out.kept (grown_of HB3.out (Nat.le_refl _)) (by simp) (by simp), HST.out (by rw [HOF.out]; rfl), HB2.out.trans (HB3.out.mono HB2S.out)⟩
          case measure => rw [(HRG2.out.kept (grown_of HB3.out (Nat.le_refl _)) (by simp) (by simp)).left_eq, HRG.out.left_eq]; exact HLT.out
        | true =>
          cases V with
          | false =>
            go_wp2_with ((with_reducible refine (HV.out).mono ?_); clear HV; rintro e W4 ⟨rfl, hb4⟩; have HB4 := Lib.hid (HB3.out.trans (hb4.mono HB3.out.size)); clear hb4)
            go_roundw
            case rel => exact ⟨_, cnt2, HRG2.out.kept (grown_of HB4.out (Nat.le_refl _)) (by simp) (by simp), HST.out (by rw [HOF.out]; rfl), HB2.out.trans (HB4.out.mono HB2S.out)⟩
            case measure => rw [(HRG2.out.kept (grown_of HB4.out (Nat.le_refl _)) (by simp) (by simp)).left_eq, HRG.out.left_eq]; exact HLT.out
          | true =>
            go_wp2_with ((with_reducible refine (HV.out).mono ?_); clear HV; rintro e W4 ⟨rfl, hb4⟩; have HB4 := Lib.hid (HB3.out.trans (hb4.mono HB3.out.size)); clear hb4)
            go_ret
            exact ⟨by rw [HYS.out (by rw [HOF.out]; rfl)]; rfl, by rw [← HB.out]; exact HB2.out.trans (HB4.out.mono HB2S.out)⟩
      | true =>
        cases V with
        | false =>
          go_wp2_with ((with_reducible refine (HV.out).mono ?_); clear HV; rintro e W4 ⟨rfl, hb4⟩; have HB4 := Lib.hid (HB3.out.trans (hb4.mono HB3.out.size)); clear hb4)
          go_roundw
          case rel => exact ⟨_, cnt2, HRG2.out.kept (grown_of HB4.out (Nat.le_refl _)) (by simp) (by simp), HST.out (by simp), HB2.out.trans (HB4.out.mono HB2S.out)⟩
          case measure => rw [(HRG2.out.kept (grown_of HB4.out (Nat.le_refl _)) (by simp) (by simp)).left_eq, HRG.out.left_eq]; exact HLT.out
        | true =>
          go_wp2_with ((with_reducible refine (HV.out).mono ?_); clear HV; rintro e W4 ⟨rfl, hb4⟩; have HB4 := Lib.hid (HB3.out.trans (hb4.mono HB3.out.size)); clear hb4)
          go_ret
          exact ⟨by rw [HYS.out (by rw [HOF.out]; rfl)]; rfl, by rw [← HB.out]; exact HB2.out.trans (HB4.out.mono HB2S.out)⟩
end Go.Proofs.YthbdchleppbidaaGreat
/- Package hold: some, whatever table there is. -/
namespace Go.Proofs.YthbdchleppbidaaGreat
open Go.RowKit Go.Maps Go.Shelf

set_option maxHeartbeats 4000000 in
theorem hosome_nil {w : World} {rv : Value} {s : ByteArray} {fv : Value} (hh : Calls Tryz.prog 83 #[rv] w fun e w' => e = .returned (.map none) ∧ w' = w) :
    Calls Tryz.prog 77 #[rv, .string s, fv] w fun e w' => e = .returned (.bool false) ∧ Below w.heap.size w w' := by
  have HH := Lib.hid hh
  have hr := fun w => run_range_nilMap (P := Tryz.prog) w 92 _ _ mapT
  have hnx := run_next_nilMap (P := Tryz.prog) w
  clear hh
  go_enter Tryz.func77, Tryz.ntmps77
  go_wp2_with (go_at_call 83; refine (HH.out).mono ?_; rintro e W1 ⟨rfl, hw1⟩; replace hw1 := hw1.symm; subst hw1)
  refine wp_loop_rounds 1 ?_
  rw [rounds_succ]
  go_wp2
  go_ret
  exact ⟨rfl, (Below.refl _ _).alloc (Nat.le_refl _) _⟩
/-- whatever map there is -/
theorem hosome_any {w : World} {p : Nat} {b : Option Nat} {m : List Hld} {s : ByteArray} {fn : FuncId} {cb : Array Value} {f : Int → Int → Bool} (h : TabAt w p b m) (t : TabM m)
    (hf : ∀ W a b, Below w.heap.size w W → Calls Tryz.prog fn (#[.agg #[.int .i64 a, .int .i64 b]] ++ cb) W fun e w' => e = .returned (.bool (f a b)) ∧ Below W.heap.size W w') (eg : ∀ args W, (callFunc fn args).run Tryz.prog W = .ok (.enter fn args) W) :
    Calls Tryz.prog 77 #[.pointer (some ⟨p, 0, none⟩), .string s, .func (.func fn) #[] cb] w fun e w' => e = .returned (.bool (someH m s f)) ∧ Below w.heap.size w w' := by
  cases b with
  | some g => exact hosome_map h t hf eg
  | none =>
    have hm := h.nil0 rfl
    subst hm
    exact hosome_nil (hoheld_any h)
end Go.Proofs.YthbdchleppbidaaGreat
/- Package hold: Meets. -/
namespace Go.Proofs.YthbdchleppbidaaGreat
open Go.RowKit Go.Maps Go.Shelf

set_option maxHeartbeats 4000000 in
theorem hoclo_meet {W : World} {C : Nat} {c d : Int} (a b : Int) (hC : RgAt W C c d) :
    Calls Tryz.prog 78 #[.agg #[.int .i64 a, .int .i64 b], .pointer (some ⟨C, 0, none⟩)] W fun e w' => e = .returned (.bool (meetsR a b c d)) ∧ Below W.heap.size W w' := by
  have HI : Hid (∀ W, Calls Tryz.prog 42 #[.agg #[.int .i64 a, .int .i64 b], .agg #[.int .i64 c, .int .i64 d]] W fun e w' => e = .returned (.bool (meetsR a b c d)) ∧ Below W.heap.size W w') := Lib.hid fun W => wimeets_any W a b c d
  obtain ⟨c0, c1, -, -⟩ := (hC.old (.cells #[.int .i64 a, .int .i64 b] 41)).cells
  have HB : Hid (Below W.heap.size W (W.alloc (.cells #[.int .i64 a, .int .i64 b] 41))) := Lib.hid ((Below.refl _ _).alloc (Nat.le_refl _) _)
  obtain ⟨R, hR⟩ : ∃ R, R = meetsR a b c d := ⟨_, rfl⟩
  rw [← hR] at HI ⊢
  clear hC hR
  go_enter Tryz.func78, Tryz.ntmps78
  go_wp2_with (go_at_call 42; refine (HI.out _).mono ?_; rintro e W1 ⟨rfl, hb1⟩; have HB1 := Lib.hid (HB.out.trans (hb1.mono HB.out.size)); clear hb1)
  go_ret
  exact ⟨rfl, HB1.out⟩
set_option maxHeartbeats 4000000 in
theorem homeet_any {w : World} {p : Nat} {b : Option Nat} {m : List Hld} (h : TabAt w p b m) (t : TabM m) (s : ByteArray) (c d : Int) :
    Calls Tryz.prog 36 #[.pointer (some ⟨p, 0, none⟩), .string s, .agg #[.int .i64 c, .int .i64 d]] w fun e w' => e = .returned (.bool (someH m s fun a b => meetsR a b c d)) ∧ Below w.heap.size w w' := by
  have hb0 : Below w.heap.size w (w.alloc (.cells #[.int .i64 c, .int .i64 d] 41)) := (Below.refl _ _).alloc (Nat.le_refl _) _
  have HS := Lib.hid (hosome_any (s := s) (fn := 78) (cb := #[.pointer (some ⟨w.heap.size, 0, none⟩)]) (f := fun a b => meetsR a b c d) (h.below hb0) t (fun W a b hW => hoclo_meet (C := w.heap.size) (c := c) (d := d) a b ((hW.block _ (by simp)).trans (heap_alloc_new w _))) (enters_of Tryz.func78 (by kernel_rfl) rfl))
  have HB := Lib.hid hb0
  obtain ⟨R, hR⟩ : ∃ R, R = someH m s fun a b => meetsR a b c d := ⟨_, rfl⟩
  rw [← hR] at HS ⊢
  clear h hb0 hR
  go_enter Tryz.func36, Tryz.ntmps36
  go_wp2_with (go_at_call 77; refine (HS.out).mono ?_; rintro e W1 ⟨rfl, hb1⟩; have HB1 := Lib.hid (HB.out.trans (hb1.mono HB.out.size)); clear hb1)
  go_ret
  exact ⟨rfl, HB1.out⟩
theorem homeet_none (w : World) (s : ByteArray) (c d : Int) : Calls Tryz.prog 36 #[.pointer none, .string s, .agg #[.int .i64 c, .int .i64 d]] w fun e w' => e = .returned (.bool false) ∧ Below w.heap.size w w' := by
  have HS : Hid (∀ fv, Calls Tryz.prog 77 #[.pointer none, .string s, fv] (w.alloc (.cells #[.int .i64 c, .int .i64 d] 41)) fun e w' => e = .returned (.bool false) ∧ Below (w.alloc (.cells #[.int .i64 c, .int .i64 d] 41)).heap.size (w.alloc (.cells #[.int .i64 c, .int .i64 d] 41)) w') := Lib.hid fun fv => hosome_nil (hoheld_none _)
  have HB : Hid (Below w.heap.size w (w.alloc (.cells #[.int .i64 c, .int .i64 d] 41))) := Lib.hid ((Below.refl _ _).alloc (Nat.le_refl _) _)
  go_enter Tryz.func36, Tryz.ntmps36
  go_wp2_with (go_at_call 77; refine (HS.out _).mono ?_; rintro e W1 ⟨rfl, hb1⟩; have HB1 := Lib.hid (HB.out.trans (hb1.mono HB.out.size)); clear hb1)
  go_ret
  exact ⟨rfl, HB1.out⟩
end Go.Proofs.YthbdchleppbidaaGreat
