/- TiPut1, TiAdv0, TiPut, TiRoll0, TiAdvM, TiAdvL, TiRoll: laid into one. -/
import Derived.Test.YthbdchleppbidaaGreatMT
import Derived.Test.YthbdchleppbidaaGreatMG
import Derived.Deep.RegionLaw
import Derived.Deep.RegionHeld3
/- Package tier: Put. -/
namespace Go.Proofs.YthbdchleppbidaaGreat
open Go.RowKit

set_option maxHeartbeats 4000000 in
set_option maxRecDepth 100000 in
theorem tiidx_any {w : World} {v : Value} {l : List Pt} (hv : PLies w v l) (hn : l.length ≤ maxLen) {B : Nat} {F : Pt → Bool} (hO : ∀ W, Below w.heap.size w W → ∀ p : Pt, Calls Tryz.prog 54 #[.agg #[.int .i64 p.a, .int .i64 p.v], .pointer (some ⟨B, 0, none⟩)] W fun e w' => e = .returned (.bool (F p)) ∧ Below W.heap.size W w') :
    Calls Tryz.prog 95 #[v, .func (.func 54) #[] #[.pointer (some ⟨B, 0, none⟩)]] w fun e w' => (∃ r : Int, e = .returned (.int .i64 r) ∧ decide (0 ≤ r) = l.any F) ∧ Below w.heap.size w w' := by
  obtain ⟨a, b, off, cap, rfl, hadr, hpts⟩ := hv
  have HADR := Lib.hid hadr
  have HP := Lib.hid hpts
  have HN : Hid (l.length ≤ maxLen) := Lib.hid hn
  clear hadr hpts hn
  have HO := Lib.hid hO
  clear hO
  go_enter Tryz.func95, Tryz.ntmps95
  go_wp2_with fail
  go_loopw [8] (fun c wr => ∃ k : Nat, k ≤ l.length ∧ c = .int .i64 k ∧ (l.take k).any F = false ∧ Below w.heap.size w wr) (fun c _ => l.length - (intOf c).toNat)
  case atStart => exact ⟨0, Nat.zero_le _, rfl, rfl, Below.refl _ _⟩
  case round =>
    obtain ⟨k, hk, rfl, hnone, hb⟩ := hrel
    obtain ⟨W3, hW3⟩ : ∃ W3, W3 = wr := ⟨_, rfl⟩
    subst hW3
    have HB := Lib.hid hb
    have HNO := Lib.hid hnone
    have HPT := Lib.hid (HP.out.beyond hb)
    clear hb hnone
    by_cases hlt : k < l.length
    · have ea := HADR.out (by intro h; simp [h] at hlt)
      subst ea
      obtain ⟨p, hp⟩ : ∃ p, l[k]? = some p := ⟨l[k], List.getElem?_eq_getElem hlt⟩
      obtain ⟨c0, c1⟩ := HPT.out k p hp
      have HPK := Lib.hid hp
      have hmax : k < 9223372036854775807 := by have := HN.out; unfold maxLen at this; omega
      clear hp
      go_wp2_with fail
      refine (HO.out W3 HB.out p).mono ?_
      rintro e W4 ⟨rfl, hb4⟩
      have HB4 := Lib.hid (HB.out.trans (hb4.mono HB.out.size))
      clear hb4 c0 c1
      dsimp only
      cases ho : F p with
      | true =>
        have HYES : Hid (l.any F = true) := Lib.hid (List.any_eq_true.2 ⟨p, List.mem_of_getElem? HPK.out, ho⟩)
        clear ho
        go_wp2
        go_ret
        exact ⟨⟨k, rfl, by rw [HYES.out]; exact decide_eq_true (by omega)⟩, HB4.out⟩
      | false =>
        have HNX : Hid ((l.take (k + 1)).any F = false) := Lib.hid (by rw [List.take_add_one, HPK.out, List.any_append, HNO.out]; simp [ho])
        clear ho
        go_wp2_with fail
        go_roundw
        case rel => exact ⟨k + 1, by omega, by go_num, HNX.out, HB4.out⟩
        case measure => simp [intOf]; omega
    · have HZ : Hid (l.any F = false) := Lib.hid (by have h := HNO.out; rwa [List.take_of_length_le (by omega)] at h)
      go_wp2_with fail
      go_ret
      exact ⟨⟨-1, rfl, by rw [HZ.out]; rfl⟩, HB.out⟩
set_option maxHeartbeats 4000000 in
theorem ticont_any {w : World} {v : Value} {l : List Pt} (hv : PLies w v l) (hn : l.length ≤ maxLen) {B : Nat} {F : Pt → Bool} (hO : ∀ W, Below w.heap.size w W → ∀ p : Pt, Calls Tryz.prog 54 #[.agg #[.int .i64 p.a, .int .i64 p.v], .pointer (some ⟨B, 0, none⟩)] W fun e w' => e = .returned (.bool (F p)) ∧ Below W.heap.size W w') :
    Calls Tryz.prog 53 #[v, .func (.func 54) #[] #[.pointer (some ⟨B, 0, none⟩)]] w fun e w' => e = .returned (.bool (l.any F)) ∧ Below w.heap.size w w' := by
  have H := Lib.hid (tiidx_any hv hn hO)
  clear hv hO
  obtain ⟨R, hR⟩ : ∃ R, R = l.any F := ⟨_, rfl⟩
  rw [← hR] at H ⊢
  clear hR
  go_enter Tryz.func53, Tryz.ntmps53
  go_wp2_with fail
  refine H.out.mono ?_
  rintro e W2 ⟨⟨r, rfl, hr⟩, hb⟩
  have HB := Lib.hid hb
  have HR := Lib.hid hr
  clear hb hr
  go_wp2
  go_ret
  exact ⟨by rw [← HR.out]; rfl, HB.out⟩
/-- what is captured: the stock, in a block of its own -/
def CapAt (w : World) (B p : Nat) : Prop := w.heap[B]? = some (.cells #[.pointer (some ⟨p, 0, none⟩)] 29 (0, 0))
theorem CapAt.keep {w w' : World} {B p : Nat} (h : CapAt w B p) (hb : Below w.heap.size w w') : CapAt w' B p := (hb.block B (lt_of_block h)).trans h
theorem CapAt.cell {w : World} {B p : Nat} (h : CapAt w B p) : w.cell? ⟨B, 0, none⟩ = some (.pointer (some ⟨p, 0, none⟩)) := by
  unfold CapAt at h
  simp [World.cell?, h]
theorem CapAt.new (w : World) (p : Nat) : CapAt (w.alloc (.cells #[.pointer (some ⟨p, 0, none⟩)] 29)) w.heap.size p := heap_alloc_new w _
theorem CapAt.only {S : Nat → Prop} {w w' : World} {B p : Nat} (h : CapAt w B p) (ho : Only S w w') (hS : ¬ S B) : CapAt w' B p := (ho.block B (lt_of_block h) hS).trans h
theorem CapAt.lt {w : World} {B p : Nat} (h : CapAt w B p) : B < w.heap.size := lt_of_block h
theorem TSit.nB {w : World} {B p sp : Nat} {v vm vl : Value} {s : Stk} (h : TSit w p sp v vm vl s) (hc : CapAt w B p) : ¬ TBlk p sp v vm vl B := by
  rintro (e | (e | e) | e | e)
  · subst e
    have h1 := h.at_
    unfold CapAt at hc
    rw [hc] at h1
    injection h1 with h1
    injection h1 with h1 h2
    revert h2; decide
  · subst e
    have h1 := h.ser.at_
    unfold CapAt at hc
    rw [hc] at h1
    injection h1 with h1
    injection h1 with h1 h2
    revert h2; decide
  · exact row_ne hc h.ser.row (by decide) e
  · exact row_ne hc h.mid (by decide) e
  · exact row_ne hc h.long (by decide) e
set_option maxHeartbeats 4000000 in
theorem tiput1_any {w : World} {B p sp : Nat} {v vm vl : Value} {s : Stk} (h : TSit w p sp v vm vl s) (hc : CapAt w B p) (q : Pt) :
    Calls Tryz.prog 54 #[.agg #[.int .i64 q.a, .int .i64 q.v], .pointer (some ⟨B, 0, none⟩)] w fun e w' => e = .returned (.bool (decide (q.a < s.mm))) ∧ Below w.heap.size w w' := by
  obtain ⟨-, -, -, -, -, c5, -⟩ := h.cells
  have cb := hc.cell
  clear h hc
  obtain ⟨M, hM⟩ : ∃ M, M = s.mm := ⟨_, rfl⟩
  rw [← hM] at c5 ⊢
  clear hM
  go_enter Tryz.func54, Tryz.ntmps54
  go_upto_region 1 with fail
  refine wp_name fun W1 hW1 => ?_
  obtain ⟨P, hP⟩ : ∃ P, P = w.heap.size := ⟨_, rfl⟩
  have hb1 : Below w.heap.size w W1 := by rw [hW1.out]; exact (Below.refl _ _).alloc (Nat.le_refl _) _
  have hR1 : PtAt W1 P q := by rw [hW1.out, hP]; exact PtAt.new w q
  have hc1 : W1.cell? ⟨P, 0, none⟩ = some (.int .i64 q.a) ∧ W1.cell? ⟨B, 0, none⟩ = some (.pointer (some ⟨p, 0, none⟩)) ∧ W1.cell? ⟨p, 5, none⟩ = some (.int .i64 M) := ⟨hR1.cells.1, (hb1.cell (p := ⟨B, 0, none⟩) (cell_lt cb)).trans cb, (hb1.cell (p := ⟨p, 5, none⟩) (cell_lt c5)).trans c5⟩
  have HC := Lib.hid hc1
  have HB1 := Lib.hid hb1
  rw [← hP]
  clear hW1 hb1 hP hR1 hc1 c5 cb
  go_region_held3 (fun w' => w'.cell? ⟨P, 0, none⟩ = some (.int .i64 q.a) ∧ w'.cell? ⟨B, 0, none⟩ = some (.pointer (some ⟨p, 0, none⟩)) ∧ w'.cell? ⟨p, 5, none⟩ = some (.int .i64 M)) (first | exact HC.out) (fail)
  go_wp2_with fail
  go_ret
  exact ⟨rfl, below_drew HB1.out⟩
end Go.Proofs.YthbdchleppbidaaGreat
/- Package tier: what rolling a tier leaves. -/
namespace Go.Proofs.YthbdchleppbidaaGreat
open Go.RowKit

theorem frozen_block {w w' : World} {p i : Nat} (h : w'.heap[p]? = w.heap[p]?) (hf : w.frozen? ⟨p, i, none⟩ = false) : w'.frozen? ⟨p, i, none⟩ = false := by
  unfold World.frozen? at hf ⊢
  rw [h]; exact hf
/-- where the tier's mark is then -/
def advE (n : Nat) (L : List Ag) (E : Int) : Int := match L[256 - n]? with | some x => x.at_ | none => E
/-- the stock behind: its block stored twice, behind an append -/
theorem TSit.adv_mid {w w1 w2 : World} {p sp : Nat} {v vm vl v1 : Value} {s : Stk} {G : List Ag} {m : Int} (h : TSit w p sp v vm vl s) (h1 : AgRow 0 w1 v1 (s.mid ++ G)) (hg : w.grownBy w1 vm.ownBlock) (hv : v1.ownBlock = vm.ownBlock ∨ v1.ownBlock = some w.heap.size)
    (h2 : w2 = (w1.setCell ⟨p, 2, none⟩ v1).setCell ⟨p, 5, none⟩ (.int .i64 m)) (hgd : GoodT ⟨s.raw, s.mid ++ G, s.long, m, s.ml⟩) : Turned w w2 p sp v vm vl ⟨s.raw, s.mid ++ G, s.long, m, s.ml⟩ := by
  have ho1 := Only.grown hg
  have ho2 : Only (fun k => k = p) w1 w2 := by rw [h2]; exact (Only.setCell (S := fun k => k = p) w1 rfl _).trans (Only.setCell (S := fun k => k = p) _ rfl _) (fun _ _ h => h)
  have ho : Only (fun k => k = p ∨ vm.ownBlock = some k) w w2 := (ho1.mono fun k _ hk => .inr hk).trans ho2 (fun k _ hk => .inl hk)
  have hp := lt_of_block h.at_
  have e1 : w1.heap[p]? = some (.cells #[.pointer (some ⟨sp, 0, none⟩), .slice none 0 0, vm, vl, .int .i64 0, .int .i64 s.mm, .int .i64 s.ml] 76 (0, 0)) := (ho1.block p hp h.nm).trans h.at_
  have e2 := heap_setCell_same w1 p 2 _ _ v1 e1
  have e3 := heap_setCell_same _ p 5 _ _ (.int .i64 m) e2
  refine ⟨v, v1, vl, ⟨?_, h.ser.only ho (fun k hk => ?_), row_only h1 ho2 (fun k hk => ?_), row_only h.long ho (fun k hk => ?_), fun k hk => ?_, hgd⟩, fun k hk => ?_, ho.mono fun k _ hk => ?_⟩
  · rw [h2, e3]; simp
  · rintro (e | e)
    · exact h.np (e ▸ hk)
    · exact h.nsm k e hk
  · rintro rfl
    rcases hv with e | e
    · rw [e] at hk; exact h.nm hk
    · rw [e] at hk; injection hk with hk; omega
  · rintro (e | e)
    · exact h.nl (e ▸ hk)
    · exact h.two k e hk
  · rcases hv with e | e
    · rw [e] at hk; exact h.two k hk
    · rw [e] at hk; injection hk with hk
      intro hl
      have := (h.long.lt k hl).2
      omega
  · rcases hk with e | e | e | e
    · exact .inl (.inl e)
    · exact .inl (.inr (.inl e))
    · rcases hv with e' | e'
      · exact .inl (.inr (.inr (.inl (by rw [← e']; exact e))))
      · rw [e'] at e; injection e with e; exact .inr (by omega)
    · exact .inl (.inr (.inr (.inr e)))
  · rcases hk with e | e
    · exact .inl e
    · exact .inr (.inr (.inl e))
theorem TSit.adv_long {w w1 w2 : World} {p sp : Nat} {v vm vl v1 : Value} {s : Stk} {G : List Ag} {m : Int} (h : TSit w p sp v vm vl s) (h1 : AgRow 0 w1 v1 (s.long ++ G)) (hg : w.grownBy w1 vl.ownBlock) (hv : v1.ownBlock = vl.ownBlock ∨ v1.ownBlock = some w.heap.size)
    (h2 : w2 = (w1.setCell ⟨p, 3, none⟩ v1).setCell ⟨p, 6, none⟩ (.int .i64 m)) (hgd : GoodT ⟨s.raw, s.mid, s.long ++ G, s.mm, m⟩) : Turned w w2 p sp v vm vl ⟨s.raw, s.mid, s.long ++ G, s.mm, m⟩ := by
  have ho1 := Only.grown hg
  have ho2 : Only (fun k => k = p) w1 w2 := by rw [h2]; exact (Only.setCell (S := fun k => k = p) w1 rfl _).trans (Only.setCell (S := fun k => k = p) _ rfl _) (fun _ _ h => h)
  have ho : Only (fun k => k = p ∨ vl.ownBlock = some k) w w2 := (ho1.mono fun k _ hk => .inr hk).trans ho2 (fun k _ hk => .inl hk)
  have hp := lt_of_block h.at_
  have e1 : w1.heap[p]? = some (.cells #[.pointer (some ⟨sp, 0, none⟩), .slice none 0 0, vm, vl, .int .i64 0, .int .i64 s.mm, .int .i64 s.ml] 76 (0, 0)) := (ho1.block p hp h.nl).trans h.at_
  have e2 := heap_setCell_same w1 p 3 _ _ v1 e1
  have e3 := heap_setCell_same _ p 6 _ _ (.int .i64 m) e2
  refine ⟨v, vm, v1, ⟨?_, h.ser.only ho (fun k hk => ?_), row_only h.mid ho (fun k hk => ?_), row_only h1 ho2 (fun k hk => ?_), fun k hk => ?_, hgd⟩, fun k hk => ?_, ho.mono fun k _ hk => ?_⟩
  · rw [h2, e3]; simp
  · rintro (e | e)
    · exact h.np (e ▸ hk)
    · exact h.nsl k e hk
  · rintro (e | e)
    · exact h.nm (e ▸ hk)
    · exact h.two k hk e
  · rintro rfl
    rcases hv with e | e
    · rw [e] at hk; exact h.nl hk
    · rw [e] at hk; injection hk with hk; omega
  · rcases hv with e | e
    · rw [e]; exact h.two k hk
    · rw [e]
      intro hl
      injection hl with hl
      have := (h.mid.lt k hk).2
      omega
  · rcases hk with e | e | e | e
    · exact .inl (.inl e)
    · exact .inl (.inr (.inl e))
    · exact .inl (.inr (.inr (.inl e)))
    · rcases hv with e' | e'
      · exact .inl (.inr (.inr (.inr (by rw [← e']; exact e))))
      · rw [e'] at e; injection e with e; exact .inr (by omega)
  · rcases hk with e | e
    · exact .inl e
    · exact .inr (.inr (.inr e))
end Go.Proofs.YthbdchleppbidaaGreat
/- Package tier: Put, of a stock that is there. -/
namespace Go.Proofs.YthbdchleppbidaaGreat
open Go.RowKit

/-- another series: what came of a stock -/
theorem TSit.series {w w' : World} {p sp : Nat} {v vm vl v' : Value} {s : Stk} {r : List Pt} (h : TSit w p sp v vm vl s) (ho : Only (SBlk sp v) w w') (hs : SerV w' sp v' r) (hv : ∀ k, v'.ownBlock = some k → v.ownBlock = some k ∨ w.heap.size ≤ k) (hg : GoodT ⟨r, s.mid, s.long, s.mm, s.ml⟩) : Turned w w' p sp v vm vl ⟨r, s.mid, s.long, s.mm, s.ml⟩ := by
  refine ⟨v', vm, vl, ⟨(ho.block p (lt_of_block h.at_) h.np).trans h.at_, hs, row_only h.mid ho h.nsm, row_only h.long ho h.nsl, h.two, hg⟩, fun k hk => ?_, ho.mono fun k _ hk => .inr (.inl hk)⟩
  rcases hk with e | (e | e) | e | e
  · exact .inl (.inl e)
  · exact .inl (.inr (.inl (.inl e)))
  · rcases hv k e with e | e
    · exact .inl (.inr (.inl (.inr e)))
    · exact .inr e
  · exact .inl (.inr (.inr (.inl e)))
  · exact .inl (.inr (.inr (.inr e)))
theorem out_off (l : List Pt) : l.any outP = l.any offT := by
  have e : outP = offT := by
    funext p
    unfold outP offT
    rw [Bool.eq_iff_iff]
    simp only [Bool.or_eq_true, decide_eq_true_eq, Bool.not_eq_true', Bool.and_eq_false_iff, decide_eq_false_iff_not]
    omega
  rw [e]
set_option maxHeartbeats 8000000 in
set_option maxRecDepth 100000 in
theorem tiput_any {w : World} {p sp : Nat} {v vm vl : Value} {s : Stk} (h : TSit w p sp v vm vl s) {x : Value} {l : List Pt} (hx : PLies w x l) (hf : ∀ q ∈ l, q.fits) (hn : l.length ≤ 1000000) :
    Calls Tryz.prog 25 #[.pointer (some ⟨p, 0, none⟩), x] w fun e w' => e = .returned (.tuple #[.int .i64 (putR s l).1, .int .i64 (putR s l).2]) ∧ Turned w w' p sp v vm vl (putT s l) := by
  have hmax : l.length ≤ maxLen := by unfold maxLen; omega
  have HT := Lib.hid h
  have HX := Lib.hid hx
  have HPU : Hid (∀ W, Below w.heap.size w W → Calls Tryz.prog 55 #[.pointer (some ⟨sp, 0, none⟩), x] W fun e w' => e = .returned (.tuple #[.int .i64 (putE s.raw l).1, .int .i64 (putE s.raw l).2.1]) ∧ (∃ v', SerV w' sp v' (putE s.raw l).2.2 ∧ (v' = v ∨ PtRowB W.heap.size w' v' (putE s.raw l).2.2)) ∧ Only (fun b => b = sp) W w') := Lib.hid fun W hb => seput_any (h.ser.keep hb) (hx.beyond hb) hf hmax
  have HCO : Hid (∀ W B, Below w.heap.size w W → CapAt W B p → Calls Tryz.prog 53 #[x, .func (.func 54) #[] #[.pointer (some ⟨B, 0, none⟩)]] W fun e w' => e = .returned (.bool (l.any fun q => decide (q.a < s.mm))) ∧ Below W.heap.size W w') := Lib.hid fun W B hb hc => ticont_any (hx.beyond hb) hmax (fun V hV q => tiput1_any ((h.keep hb).keep hV) (hc.keep hV) q)
  have HPG : Hid (GoodT (putT s l)) := Lib.hid (putT_good h.good hf)
  obtain ⟨c0, -, -, -, -, -, -⟩ := h.cells
  have HC0 := Lib.hid c0
  obtain ⟨a, c, rfl⟩ := hx.len
  clear h hx hf c0
  obtain ⟨A, hA⟩ : ∃ A, A = l.any fun q => decide (q.a < s.mm) := ⟨_, rfl⟩
  have HA := Lib.hid hA
  rw [← hA] at HCO
  clear hA
  go_enter Tryz.func25, Tryz.ntmps25
  go_upto_region 1 with fail
  refine wp_name fun W1 hW1 => ?_
  obtain ⟨B, hB⟩ : ∃ B, B = w.heap.size := ⟨_, rfl⟩
  have hb1 : Below w.heap.size w W1 := by rw [hW1.out]; exact (Below.refl _ _).alloc (Nat.le_refl _) _
  have hcap : CapAt W1 B p := by rw [hW1.out, hB]; exact CapAt.new w p
  have HCA := Lib.hid hcap
  have HB1 := Lib.hid hb1
  have HC1 := Lib.hid (HCO.out W1 B hb1 hcap)
  rw [← hB]
  clear hW1 hb1 hB HCO hcap
  have c0 := HCA.out.cell
  cases A with
  | true =>
    have HR : Hid (putR s l = (0, 14) ∧ putT s l = s) := Lib.hid (by
      have e : putBad s l = true := by unfold putBad; rw [← HA.out]; rfl
      exact ⟨by unfold putR; rw [if_pos HA.out.symm], by unfold putT; rw [if_pos e]⟩)
    go_wp2_with fail
    refine HC1.out.mono ?_
    rintro e W2 ⟨rfl, hb⟩
    have HB2 := Lib.hid (HB1.out.trans (hb.mono HB1.out.size))
    clear hb c0
    dsimp only
    go_wp2_with fail
    go_ret2
    exact ⟨by rw [HR.out.1]; rfl, by rw [HR.out.2]; exact Turned.same HT.out HB2.out⟩
  | false =>
    go_wp2_with fail
    refine HC1.out.mono ?_
    rintro e W2 ⟨rfl, hb⟩
    have HB2 := Lib.hid (HB1.out.trans (hb.mono HB1.out.size))
    have c2 : W2.cell? ⟨B, 0, none⟩ = some (.pointer (some ⟨p, 0, none⟩)) := (HCA.out.keep hb).cell
    have hc0 : W2.cell? ⟨p, 0, none⟩ = some (.pointer (some ⟨sp, 0, none⟩)) := (HB2.out.cell (p := ⟨p, 0, none⟩) (cell_lt HC0.out)).trans HC0.out
    clear hb c0
    have HP2 := Lib.hid (HPU.out W2 HB2.out)
    clear HPU
    dsimp only
    go_wp2_with fail
    refine HP2.out.mono ?_
    rintro e W3 ⟨rfl, hs3, ho3⟩
    have HS3 := Lib.hid hs3
    have HO3 := Lib.hid ho3
    clear hs3 ho3 c2 hc0 HP2 HC1
    dsimp only
    go_wp2_with fail
    go_ret2
    have hpe : putE s.raw l = if l.any offT = true then (0, 3, s.raw) else if 256 < (putL s.raw l).length then (0, 6, s.raw) else (((putL s.raw l).length : Int) - s.raw.length, 0, putL s.raw l) := by unfold putE; rw [out_off]
    have hpr : putR s l = ((putE s.raw l).1, (putE s.raw l).2.1) := by
      unfold putR
      rw [if_neg (by rw [← HA.out]; simp), hpe]
      split
      · rfl
      · split <;> rfl
    have hpt : putT s l = ⟨(putE s.raw l).2.2, s.mid, s.long, s.mm, s.ml⟩ := by
      unfold putT putBad
      rw [← HA.out, hpe, Bool.false_or]
      by_cases h1 : l.any offT = true
      · rw [if_pos (by rw [h1]; rfl), if_pos h1]
      · rw [if_neg h1]
        by_cases h2 : 256 < (putL s.raw l).length
        · rw [if_pos (by rw [decide_eq_true h2, Bool.or_true]), if_pos h2]
        · rw [if_neg (by rw [decide_eq_false h2, Bool.or_false]; exact h1), if_neg h2]
    refine ⟨by rw [hpr]; rfl, ?_⟩
    obtain ⟨v', hs, hv⟩ := HS3.out
    rw [hpt]
    refine Turned.from HB2.out ((HT.out.keep HB2.out).series (HO3.out.mono fun k _ hk => .inl hk) hs (fun k hk => ?_) ?_)
    · rcases hv with rfl | hv
      · exact .inl hk
      · exact .inr (hv.lt k hk).1
    · rw [← hpt]; exact HPG.out
end Go.Proofs.YthbdchleppbidaaGreat
/- Package tier: what the windows of a range come to: Roll's two functions. -/
namespace Go.Proofs.YthbdchleppbidaaGreat
open Go.RowKit

theorem points_runs {s : Stk} (h : GoodT s) (a b : Int) : pointsR 1 (getL s.raw a b) = (runs (fun p => startW 1 p.a) (getL s.raw a b)).map fun e => ofA e.1 e.2 := by
  unfold pointsR
  have hu : upFrom (-1) ((getL s.raw a b).map Pt.a) = true := upFrom_of (List.pairwise_map.2 (getL_srt h.srt a b)) (fun x hx => by
    obtain ⟨t, ht, rfl⟩ := List.mem_map.1 hx
    have := (h.tick t (List.mem_filter.1 ht).1).1
    omega)
  rw [if_neg (by rw [hu]; rintro (h | h); exact absurd h (by decide); cases h)]
/-- Mid's groups, as Roll asks for them -/
theorem mid_groups {s : Stk} (h : GoodT s) (now : Int) : pointsR 1 (getL s.raw s.mm (max s.mm (now - now % 300))) = (midG s now).map fun e => ofA e.1 e.2 := points_runs h _ _
/-- Long's groups, as Roll asks for them -/
theorem long_groups {s : Stk} (h : GoodT s) (c : Int) : aggsR 2 (s.mid.filter fun x => decide (s.ml < max s.ml (c - c % 3600)) && metA 300 s.ml (max s.ml (c - c % 3600)) x.at_) = (longC s c).filterMap fun e => joinA e.1 e.2 := by
  have hE : upTo 3600 s.ml c % 3600 = 0 := upTo_mul h.ml.2.2
  have hf : (s.mid.filter fun x => decide (s.ml < max s.ml (c - c % 3600)) && metA 300 s.ml (max s.ml (c - c % 3600)) x.at_) = s.mid.filter fun t => decide (s.ml ≤ t.at_) && decide (t.at_ < upTo 3600 s.ml c) := by
    refine List.filter_congr fun t ht => ?_
    have hb := h.mid.beg t ht
    have hl := h.ml
    unfold upTo at hE ⊢
    unfold metA
    generalize max s.ml (c - c % 3600) = Z at hE ⊢
    rw [Bool.eq_iff_iff]
    simp only [decide_eq_true_eq, Bool.and_eq_true]
    omega
  rw [hf]
  unfold aggsR longC
  have hu : upFrom (-1) ((s.mid.filter fun t => decide (s.ml ≤ t.at_) && decide (t.at_ < upTo 3600 s.ml c)).map Ag.at_) = true := upFrom_of (List.pairwise_map.2 (h.mid.up.filter _)) (fun x hx => by
    obtain ⟨t, ht, rfl⟩ := List.mem_map.1 hx
    have := (h.mid.beg t (List.mem_filter.1 ht).1).1
    omega)
  rw [if_neg (by rw [hu]; rintro (h | h); exact absurd h (by decide); cases h)]
set_option maxHeartbeats 8000000 in
set_option maxRecDepth 100000 in
theorem tiroll1_any {w : World} {B p sp : Nat} {v vm vl : Value} {s : Stk} (h : TSit w p sp v vm vl s) (hc : CapAt w B p) (a b : Int) :
    Calls Tryz.prog 57 #[.agg #[.int .i64 a, .int .i64 b], .pointer (some ⟨B, 0, none⟩)] w fun e w' => ∃ v', e = .returned v' ∧ AgRow w.heap.size w' v' (pointsR 1 (getL s.raw a b)) ∧ Below w.heap.size w w' := by
  have HG : Hid (∀ W, Below w.heap.size w W → Calls Tryz.prog 37 #[.pointer (some ⟨sp, 0, none⟩), .agg #[.int .i64 a, .int .i64 b]] W fun e w' => ∃ v', e = .returned v' ∧ PtRowB W.heap.size w' v' (getL s.raw a b) ∧ Below W.heap.size W w') := Lib.hid fun W hb => seget_any (h.ser.keep hb) a b
  have HRP : Hid (∀ W B' u, PtRowB B' W u (getL s.raw a b) → Calls Tryz.prog 58 #[.int .i64 1, u] W fun e w' => ∃ v', e = .returned v' ∧ AgRow W.heap.size w' v' (pointsR 1 (getL s.raw a b)) ∧ Below W.heap.size W w') := Lib.hid fun W B' u hu => ropoints_any (by omega) (by omega) hu.plies (row_fits hu) (fun q hq => h.good.pfits q (List.mem_filter.1 hq).1) (by have h1 : (getL s.raw a b).length ≤ s.raw.length := List.length_filter_le _ _; have := h.good.plen; omega)
  obtain ⟨c0, -, -, -, -, -, -⟩ := h.cells
  have cb := hc.cell
  obtain ⟨G, hG⟩ : ∃ G, G = getL s.raw a b := ⟨_, rfl⟩
  rw [← hG] at HG HRP ⊢
  obtain ⟨O, hO⟩ : ∃ O, O = pointsR 1 G := ⟨_, rfl⟩
  rw [← hO] at HRP ⊢
  clear hG hO h hc
  go_enter Tryz.func57, Tryz.ntmps57
  go_upto_region 1 with fail
  refine wp_name fun W1 hW1 => ?_
  obtain ⟨P, hP⟩ : ∃ P, P = w.heap.size := ⟨_, rfl⟩
  have hb1 : Below w.heap.size w W1 := by rw [hW1.out]; exact (Below.refl _ _).alloc (Nat.le_refl _) _
  have hR1 : RgAt W1 P a b := by rw [hW1.out, hP]; exact RgAt.new w a b
  have HG1 := Lib.hid (HG.out _ (below_drew hb1))
  have HC : Hid (W1.cell? ⟨P, 0, none⟩ = some (.int .i64 a) ∧ W1.cell? ⟨P, 1, none⟩ = some (.int .i64 b) ∧ W1.cell? ⟨p, 0, none⟩ = some (.pointer (some ⟨sp, 0, none⟩)) ∧ W1.cell? ⟨B, 0, none⟩ = some (.pointer (some ⟨p, 0, none⟩))) := Lib.hid ⟨hR1.cells.1, hR1.cells.2.1, (hb1.cell (p := ⟨p, 0, none⟩) (cell_lt c0)).trans c0, (hb1.cell (p := ⟨B, 0, none⟩) (cell_lt cb)).trans cb⟩
  have HB1 := Lib.hid hb1
  rw [← hP]
  clear hW1 hb1 hP hR1 HG c0 cb
  go_region_held3 (fun w' => w'.cell? ⟨P, 0, none⟩ = some (.int .i64 a) ∧ w'.cell? ⟨P, 1, none⟩ = some (.int .i64 b) ∧ w'.cell? ⟨p, 0, none⟩ = some (.pointer (some ⟨sp, 0, none⟩)) ∧ w'.cell? ⟨B, 0, none⟩ = some (.pointer (some ⟨p, 0, none⟩))) (first | exact HC.out | exact HC2.out | exact HC3.out) ((first | (go_at_call 37; refine (HG1.out).mono ?_; rintro e W2 ⟨v2, rfl, hr2, hb2⟩; have HC2 : Hid (W2.cell? ⟨P, 0, none⟩ = some (.int .i64 a) ∧ W2.cell? ⟨P, 1, none⟩ = some (.int .i64 b) ∧ W2.cell? ⟨p, 0, none⟩ = some (.pointer (some ⟨sp, 0, none⟩)) ∧ W2.cell? ⟨B, 0, none⟩ = some (.pointer (some ⟨p, 0, none⟩))) := Lib.hid ⟨(hb2.cell (p := ⟨P, 0, none⟩) (cell_lt HC.out.1)).trans HC.out.1, (hb2.cell (p := ⟨P, 1, none⟩) (cell_lt HC.out.2.1)).trans HC.out.2.1, (hb2.cell (p := ⟨p, 0, none⟩) (cell_lt HC.out.2.2.1)).trans HC.out.2.2.1, (hb2.cell (p := ⟨B, 0, none⟩) (cell_lt HC.out.2.2.2)).trans HC.out.2.2.2⟩; have HB2 : Hid (Below w.heap.size w W2) := Lib.hid (HB1.out.trans ((below_drew (Below.refl w.heap.size W1)).trans (hb2.mono HB1.out.size))); have HP2 := Lib.hid (HRP.out W2 _ v2 hr2); clear hb2 hr2) | (go_at_call 58; refine (HP2.out).mono ?_; rintro e W3 ⟨v3, rfl, hr3, hb3⟩; have HC3 : Hid (W3.cell? ⟨P, 0, none⟩ = some (.int .i64 a) ∧ W3.cell? ⟨P, 1, none⟩ = some (.int .i64 b) ∧ W3.cell? ⟨p, 0, none⟩ = some (.pointer (some ⟨sp, 0, none⟩)) ∧ W3.cell? ⟨B, 0, none⟩ = some (.pointer (some ⟨p, 0, none⟩))) := Lib.hid ⟨(hb3.cell (p := ⟨P, 0, none⟩) (cell_lt HC2.out.1)).trans HC2.out.1, (hb3.cell (p := ⟨P, 1, none⟩) (cell_lt HC2.out.2.1)).trans HC2.out.2.1, (hb3.cell (p := ⟨p, 0, none⟩) (cell_lt HC2.out.2.2.1)).trans HC2.out.2.2.1, (hb3.cell (p := ⟨B, 0, none⟩) (cell_lt HC2.out.2.2.2)).trans HC2.out.2.2.2⟩; have HB3 : Hid (Below w.heap.size w W3) := Lib.hid (HB2.out.trans (hb3.mono HB2.out.size)); have HR3 : Hid (AgRow w.heap.size W3 v3 O) := Lib.hid (hr3.base HB2.out.size); clear hb3 hr3)))
  go_wp2_with fail
  go_ret
  exact ⟨_, rfl, HR3.out, HB3.out⟩
set_option maxHeartbeats 8000000 in
set_option maxRecDepth 100000 in
theorem tiroll2_any {w : World} {B p sp : Nat} {v vm vl : Value} {s : Stk} (h : TSit w p sp v vm vl s) (hc : CapAt w B p) (a b : Int) :
    Calls Tryz.prog 59 #[.agg #[.int .i64 a, .int .i64 b], .pointer (some ⟨B, 0, none⟩)] w fun e w' => ∃ v', e = .returned v' ∧ AgRow w.heap.size w' v' (aggsR 2 (s.mid.filter fun x => decide (a < b) && metA 300 a b x.at_)) ∧ Below w.heap.size w w' := by
  have HG : Hid (∀ W, Below w.heap.size w W → Calls Tryz.prog 20 #[.pointer (some ⟨p, 0, none⟩), .int .i64 1, .agg #[.int .i64 a, .int .i64 b]] W fun e w' => ∃ v', e = .returned v' ∧ AgRow W.heap.size w' v' (s.mid.filter fun x => decide (a < b) && metA 300 a b x.at_) ∧ Below W.heap.size W w') := Lib.hid fun W hb => tiaggs_mid (h.keep hb) a b
  have HRP : Hid (∀ W B' u, AgRow B' W u (s.mid.filter fun x => decide (a < b) && metA 300 a b x.at_) → Calls Tryz.prog 60 #[.int .i64 2, u] W fun e w' => ∃ v', e = .returned v' ∧ AgRow W.heap.size w' v' (aggsR 2 (s.mid.filter fun x => decide (a < b) && metA 300 a b x.at_)) ∧ Below W.heap.size W w') := Lib.hid fun W B' u hu => roaggs_any (by omega) (by omega) hu.lies (row_fits hu) (fun q hq => h.good.mid.fits q (List.mem_filter.1 hq).1) (by have h1 : (s.mid.filter fun x => decide (a < b) && metA 300 a b x.at_).length ≤ s.mid.length := List.length_filter_le _ _; have := h.good.mid.len; omega)
  have cb := hc.cell
  obtain ⟨G, hG⟩ : ∃ G, G = s.mid.filter fun x => decide (a < b) && metA 300 a b x.at_ := ⟨_, rfl⟩
  rw [← hG] at HG HRP ⊢
  obtain ⟨O, hO⟩ : ∃ O, O = aggsR 2 G := ⟨_, rfl⟩
  rw [← hO] at HRP ⊢
  clear hG hO h hc
  go_enter Tryz.func59, Tryz.ntmps59
  go_upto_region 1 with fail
  refine wp_name fun W1 hW1 => ?_
  obtain ⟨P, hP⟩ : ∃ P, P = w.heap.size := ⟨_, rfl⟩
  have hb1 : Below w.heap.size w W1 := by rw [hW1.out]; exact (Below.refl _ _).alloc (Nat.le_refl _) _
  have hR1 : RgAt W1 P a b := by rw [hW1.out, hP]; exact RgAt.new w a b
  have HG1 := Lib.hid (HG.out _ hb1)
  have c1 : W1.cell? ⟨B, 0, none⟩ = some (.pointer (some ⟨p, 0, none⟩)) := (hb1.cell (p := ⟨B, 0, none⟩) (cell_lt cb)).trans cb
  obtain ⟨c2, c3, -, -⟩ := hR1.cells
  have HB1 := Lib.hid hb1
  rw [← hP]
  clear hW1 hb1 hP hR1 HG cb
  go_wp2_with fail
  refine HG1.out.mono ?_
  rintro e W2 ⟨v2, rfl, hr2, hb2⟩
  have HP2 := Lib.hid (HRP.out W2 _ v2 hr2)
  have HB2 : Hid (Below w.heap.size w W2) := Lib.hid (HB1.out.trans (hb2.mono HB1.out.size))
  clear hb2 hr2 c1 c2 c3
  dsimp only
  go_wp2_with fail
  refine HP2.out.mono ?_
  rintro e W3 ⟨v3, rfl, hr3, hb3⟩
  have HB3 : Hid (Below w.heap.size w W3) := Lib.hid (HB2.out.trans (hb3.mono HB2.out.size))
  have HR3 : Hid (AgRow w.heap.size W3 v3 O) := Lib.hid (hr3.base HB2.out.size)
  clear hr3 hb3
  dsimp only
  go_wp2_with fail
  go_ret
  exact ⟨_, rfl, HR3.out, HB3.out⟩
end Go.Proofs.YthbdchleppbidaaGreat
/- Package tier: advance of Mid. Written by py/ti-adv.py. -/
namespace Go.Proofs.YthbdchleppbidaaGreat
open Go.RowKit

set_option maxHeartbeats 16000000 in
set_option maxRecDepth 1000000 in
theorem tiadv_mid {w : World} {p sp B : Nat} {v vm vl : Value} {s : Stk} (h : TSit w p sp v vm vl s) {tu : Int} (h0 : -9223372036854775808 ≤ tu) (h1 : tu ≤ 9223372036854775807) {L : List Ag} (hL : L.length ≤ 1000)
    (hco : ∀ V, Below w.heap.size w V → Calls Tryz.prog 57 #[.agg #[.int .i64 s.mm, .int .i64 (max s.mm (startW 1 tu))], .pointer (some ⟨B, 0, none⟩)] V fun e w' => ∃ v', e = .returned v' ∧ AgRow V.heap.size w' v' L ∧ Below V.heap.size V w')
    (hgd : GoodT ⟨s.raw, s.mid ++ L.take (256 - s.mid.length), s.long, advE s.mid.length L (max s.mm (startW 1 tu)), s.ml⟩) :
    Calls Tryz.prog 56 #[.pointer (some ⟨p, 0, none⟩), .int .i64 1, .int .i64 tu, .func (.func 57) #[] #[.pointer (some ⟨B, 0, none⟩)]] w fun e w' => e = .returned (.tuple #[.int .i64 ((L.take (256 - s.mid.length)).length : Nat), .bool (decide (256 - s.mid.length < L.length))]) ∧ Turned w w' p sp v vm vl ⟨s.raw, s.mid ++ L.take (256 - s.mid.length), s.long, advE s.mid.length L (max s.mm (startW 1 tu)), s.ml⟩ := by
  have HST := Lib.hid (wistart_any w 1 tu (by omega) (by omega) h0 h1)
  have hn := h.good.mid.len
  have HCO := Lib.hid hco
  have HGD := Lib.hid hgd
  have HLL := Lib.hid hL
  obtain ⟨am, cm, e0⟩ := own_slice h.mid
  subst e0
  obtain ⟨n, hnn⟩ : ∃ n, n = s.mid.length := ⟨_, rfl⟩
  rw [← hnn] at h hn HGD ⊢
  have HNN := Lib.hid hnn
  have HT := Lib.hid h
  obtain ⟨M, hM⟩ : ∃ M, M = s.mm := ⟨_, rfl⟩
  obtain ⟨S, hS⟩ : ∃ S, S = startW 1 tu := ⟨_, rfl⟩
  rw [← hM, ← hS] at HGD HCO
  rw [← hM, ← hS]
  rw [← hS] at HST
  have HMM := Lib.hid hM
  obtain ⟨-, -, ca, -, -, cb, -⟩ := h.cells
  rw [← hM] at cb
  obtain ⟨E, hE⟩ : ∃ E, E = max M S := ⟨_, rfl⟩
  rw [← hE] at HGD HCO ⊢
  obtain ⟨K, hK⟩ : ∃ K, K = 256 - n := ⟨_, rfl⟩
  rw [← hK] at HGD ⊢
  have hw : IntKind.i64.wrap (256 - (n : Int)) = (K : Int) := by rw [IntKind.wrap_i64]; omega
  have HKN : Hid (K = 256 - n) := Lib.hid hK
  have hme : max M S = E := hE.symm
  clear h hco hgd hL hnn hM hS hE h0 h1 hK
  go_enter Tryz.func56, Tryz.ntmps56
  go_wp2_with fail
  refine HST.out.mono ?_
  rintro e Wx ⟨rfl, hw'⟩; replace hw' := hw'.symm; subst hw'
  dsimp only
  clear HST
  go_wp2_with fail
  refine (HCO.out w (Below.refl _ _)).mono ?_
  rintro e W2 ⟨v2, rfl, hr2, hb2⟩
  have HB2 := Lib.hid hb2
  have HT2 := Lib.hid (HT.out.keep hb2)
  have HR2 := Lib.hid hr2
  clear hb2 hr2 ca cb HCO
  obtain ⟨-, -, ca, -, -, cb, -⟩ := HT2.out.cells
  clear cb
  dsimp only
  by_cases hfull : K < L.length
  · obtain ⟨x, hx⟩ : ∃ x, L[K]? = some x := ⟨L[K], List.getElem?_eq_getElem hfull⟩
    have HADV : Hid (advE n L E = x.at_) := Lib.hid (by unfold advE; rw [← HKN.out, hx])
    have HG : Hid (SrcA W2 v2 L) := Lib.hid HR2.out.src
    rcases HR2.out.opened with ⟨-, e1⟩ | ⟨g, cap, R, e1, hgB, hgr, hR, hnc, hcm⟩
    · exfalso; rw [e1] at hfull; simp at hfull
    have htk := srcA_take HR2.out (n := K) (by omega)
    subst e1
    have hc0 : W2.cell? ⟨g, K * 5, none⟩ = some (.int .i64 x.at_) := by
      have h5 := flatA_get hx 0 (by omega)
      rw [Nat.add_zero] at h5
      exact hgr.cell (by rw [List.getElem?_append_left (List.getElem?_eq_some_iff.1 h5).1]; exact h5)
    have HXC := Lib.hid hc0
    have HSR : Hid (SrcA W2 (.slice (some ⟨g, 0, none⟩) K cap) (L.take K)) := Lib.hid (by
      obtain ⟨ad, cap', e2, -, h3⟩ := htk
      injection e2 with e2 e3 e4
      subst e2 e4
      rcases h3 with ⟨h3, -⟩ | h3
      · cases h3
      · exact h3)
    obtain ⟨m, hm⟩ : ∃ m, m = L.length := ⟨_, rfl⟩
    have HML := Lib.hid hm
    rw [← hm] at hfull hnc ⊢
    clear hm hx hgr hR htk hc0 hgB hcm
    have d1 : decide ((K : Int) < (m : Int)) = true := decide_eq_true (by omega)
    have d2 : decide (K < m) = true := decide_eq_true hfull
    have d3 : (K : Int) ≤ (cap : Int) := by omega
    have d4 : K ≤ cap := by omega
    go_wp2_with fail
    go_region_held3 (fun w' => w'.cell? ⟨g, K * 5, none⟩ = some (.int .i64 x.at_)) (first | exact HXC.out) (fail)
    go_upto_region 7 with fail
    refine wp_name fun W3 hW3 => ?_
    have HB3 : Hid (Below w.heap.size w W3) := Lib.hid (by rw [hW3.out]; exact below_drew HB2.out)
    obtain ⟨G, hG⟩ : ∃ G, G = L.take K := ⟨_, rfl⟩
    have HSRC : Hid (SrcA W3 (.slice (some ⟨g, 0, none⟩) K cap) G) := Lib.hid (by rw [hG]; exact HSR.out.keep (by rw [hW3.out]; exact below_drew (Below.refl _ W2)))
    have HGLEN : Hid (G.length = K) := Lib.hid (by rw [hG, List.length_take, ← HML.out]; omega)
    have HGL : Hid (s.mid.length + G.length ≤ 1000000) := Lib.hid (by rw [HGLEN.out, ← HNN.out]; have := HKN.out; omega)
    rw [HADV.out, ← hG] at HGD
    have HGE := Lib.hid hG
    clear hW3 hG ca HT2 HB2 HR2 HG HXC HSR
    have HBW3 : Hid (Below w.heap.size w W3) := HB3
    have HT3 := Lib.hid (HT.out.keep HBW3.out)
    obtain ⟨-, -, x3, -, -, y3, -⟩ := HT3.out.cells
    rw [← HMM.out] at y3
    have HX3 := Lib.hid x3
    have HY3 := Lib.hid y3
    clear y3
    go_region_law (refine step_append_ags rfl (.tmp 57) (.tmp 58) rfl 0 (.slice am n cm) s.mid (by simp [Act.eval]) HT3.out.drew.mid (.slice (some ⟨g, 0, none⟩) K cap) G (by simp [Act.eval]) (SrcA.keep HSRC.out (below_drew (Below.refl _ W3))) HGL.out (Nat.zero_le _) ?_; intro v8 W8 HROW8 HGR8 HWH8; have c8 : W8.cell? ⟨p, 2, none⟩ = some (.slice am n cm) := (World.cell?_of_block (w := W3.drew) ((Only.grown HGR8.out).block p (lt_of_block HT3.out.at_) HT3.out.nm)).trans HX3.out; have d8 : W8.cell? ⟨p, 5, none⟩ = some (.int .i64 M) := (World.cell?_of_block (w := W3.drew) ((Only.grown HGR8.out).block p (lt_of_block HT3.out.at_) HT3.out.nm)).trans HY3.out; have e8f : ∀ i, W8.frozen? ⟨p, i, none⟩ = false := fun i => frozen_block ((Only.grown HGR8.out).block p (lt_of_block HT3.out.at_) HT3.out.nm) (HT3.out.free i); have f8 := e8f 2; have g8 := e8f 5; clear e8f; have HR8 := Lib.hid HROW8.out; have hrw := HROW8.out; obtain ⟨n8, hn8⟩ : ∃ n8, n8 = (s.mid ++ G).length := ⟨_, rfl⟩; obtain ⟨a8, c8', e8⟩ := own_slice hrw; rw [← hn8] at e8; subst e8; clear hrw hn8 HROW8)
    clear x3
    go_wp2_with fail
    go_ret2
    refine ⟨?_, ?_⟩
    · rw [← HGE.out, HGLEN.out, ← HML.out, decide_eq_true hfull]; rfl
    · rw [HADV.out, ← HGE.out]
      exact Turned.from (below_drew HB3.out) (HT3.out.drew.adv_mid HR8.out HGR8.out HWH8.out rfl HGD.out)
  · have HADV : Hid (advE n L E = E) := Lib.hid (by unfold advE; rw [← HKN.out, List.getElem?_eq_none (by omega)])
    have HSR : Hid (SrcA W2 v2 L) := Lib.hid HR2.out.src
    have hrw := HR2.out
    obtain ⟨ay, cy, e1⟩ := own_slice hrw
    subst e1
    obtain ⟨G, hG⟩ : ∃ G, G = L.take K := ⟨_, rfl⟩
    have hGL : G = L := by rw [hG, List.take_of_length_le (by omega)]
    have HGE := Lib.hid hG
    rw [← hG] at HGD
    obtain ⟨m, hm⟩ : ∃ m, m = L.length := ⟨_, rfl⟩
    have HML := Lib.hid hm
    have HGLEN : Hid (G.length = m) := Lib.hid (by rw [hGL, hm])
    rw [← hm] at hfull
    rw [← hm] at HSR ⊢
    rw [← hGL] at HSR
    have hm1 : m ≤ 1000 := by rw [hm]; exact HLL.out
    clear hm hG hrw hGL HR2
    have d1 : decide ((K : Int) < (m : Int)) = false := decide_eq_false (by omega)
    have d2 : decide (K < m) = false := decide_eq_false hfull
    go_upto_region 7 with fail
    refine wp_name fun W3 hW3 => ?_
    have HB3 : Hid (Below w.heap.size w W3) := Lib.hid (by rw [hW3.out]; exact HB2.out)
    have HSRC : Hid (SrcA W3 (.slice ay m cy) G) := Lib.hid (by rw [hW3.out]; exact HSR.out)
    have HGL : Hid (s.mid.length + G.length ≤ 1000000) := Lib.hid (by rw [HGLEN.out, ← HNN.out]; omega)
    rw [HADV.out] at HGD
    clear hW3 ca HT2 HB2 HSR
    have HBW3 : Hid (Below w.heap.size w W3) := HB3
    have HT3 := Lib.hid (HT.out.keep HBW3.out)
    obtain ⟨-, -, x3, -, -, y3, -⟩ := HT3.out.cells
    rw [← HMM.out] at y3
    have HX3 := Lib.hid x3
    have HY3 := Lib.hid y3
    clear y3
    go_region_law (refine step_append_ags rfl (.tmp 57) (.tmp 58) rfl 0 (.slice am n cm) s.mid (by simp [Act.eval]) HT3.out.drew.mid (.slice ay m cy) G (by simp [Act.eval]) (SrcA.keep HSRC.out (below_drew (Below.refl _ W3))) HGL.out (Nat.zero_le _) ?_; intro v8 W8 HROW8 HGR8 HWH8; have c8 : W8.cell? ⟨p, 2, none⟩ = some (.slice am n cm) := (World.cell?_of_block (w := W3.drew) ((Only.grown HGR8.out).block p (lt_of_block HT3.out.at_) HT3.out.nm)).trans HX3.out; have d8 : W8.cell? ⟨p, 5, none⟩ = some (.int .i64 M) := (World.cell?_of_block (w := W3.drew) ((Only.grown HGR8.out).block p (lt_of_block HT3.out.at_) HT3.out.nm)).trans HY3.out; have e8f : ∀ i, W8.frozen? ⟨p, i, none⟩ = false := fun i => frozen_block ((Only.grown HGR8.out).block p (lt_of_block HT3.out.at_) HT3.out.nm) (HT3.out.free i); have f8 := e8f 2; have g8 := e8f 5; clear e8f; have HR8 := Lib.hid HROW8.out; have hrw := HROW8.out; obtain ⟨n8, hn8⟩ : ∃ n8, n8 = (s.mid ++ G).length := ⟨_, rfl⟩; obtain ⟨a8, c8', e8⟩ := own_slice hrw; rw [← hn8] at e8; subst e8; clear hrw hn8 HROW8)
    clear x3
    go_wp2_with fail
    go_ret2
    refine ⟨?_, ?_⟩
    · rw [← HGE.out, HGLEN.out, ← HML.out, decide_eq_false hfull]; rfl
    · rw [HADV.out, ← HGE.out]
      exact Turned.from (below_drew HB3.out) (HT3.out.drew.adv_mid HR8.out HGR8.out HWH8.out rfl HGD.out)
end Go.Proofs.YthbdchleppbidaaGreat
/- Package tier: advance of Long. Written by py/ti-adv.py. -/
namespace Go.Proofs.YthbdchleppbidaaGreat
open Go.RowKit

set_option maxHeartbeats 16000000 in
set_option maxRecDepth 1000000 in
theorem tiadv_long {w : World} {p sp B : Nat} {v vm vl : Value} {s : Stk} (h : TSit w p sp v vm vl s) {tu : Int} (h0 : -9223372036854775808 ≤ tu) (h1 : tu ≤ 9223372036854775807) {L : List Ag} (hL : L.length ≤ 1000)
    (hco : ∀ V, Below w.heap.size w V → Calls Tryz.prog 59 #[.agg #[.int .i64 s.ml, .int .i64 (max s.ml (startW 2 tu))], .pointer (some ⟨B, 0, none⟩)] V fun e w' => ∃ v', e = .returned v' ∧ AgRow V.heap.size w' v' L ∧ Below V.heap.size V w')
    (hgd : GoodT ⟨s.raw, s.mid, s.long ++ L.take (256 - s.long.length), s.mm, advE s.long.length L (max s.ml (startW 2 tu))⟩) :
    Calls Tryz.prog 56 #[.pointer (some ⟨p, 0, none⟩), .int .i64 2, .int .i64 tu, .func (.func 59) #[] #[.pointer (some ⟨B, 0, none⟩)]] w fun e w' => e = .returned (.tuple #[.int .i64 ((L.take (256 - s.long.length)).length : Nat), .bool (decide (256 - s.long.length < L.length))]) ∧ Turned w w' p sp v vm vl ⟨s.raw, s.mid, s.long ++ L.take (256 - s.long.length), s.mm, advE s.long.length L (max s.ml (startW 2 tu))⟩ := by
  have HST := Lib.hid (wistart_any w 2 tu (by omega) (by omega) h0 h1)
  have hn := h.good.long.len
  have HCO := Lib.hid hco
  have HGD := Lib.hid hgd
  have HLL := Lib.hid hL
  obtain ⟨am, cm, e0⟩ := own_slice h.long
  subst e0
  obtain ⟨n, hnn⟩ : ∃ n, n = s.long.length := ⟨_, rfl⟩
  rw [← hnn] at h hn HGD ⊢
  have HNN := Lib.hid hnn
  have HT := Lib.hid h
  obtain ⟨M, hM⟩ : ∃ M, M = s.ml := ⟨_, rfl⟩
  obtain ⟨S, hS⟩ : ∃ S, S = startW 2 tu := ⟨_, rfl⟩
  rw [← hM, ← hS] at HGD HCO
  rw [← hM, ← hS]
  rw [← hS] at HST
  have HMM := Lib.hid hM
  obtain ⟨-, -, -, ca, -, -, cb⟩ := h.cells
  rw [← hM] at cb
  obtain ⟨E, hE⟩ : ∃ E, E = max M S := ⟨_, rfl⟩
  rw [← hE] at HGD HCO ⊢
  obtain ⟨K, hK⟩ : ∃ K, K = 256 - n := ⟨_, rfl⟩
  rw [← hK] at HGD ⊢
  have hw : IntKind.i64.wrap (256 - (n : Int)) = (K : Int) := by rw [IntKind.wrap_i64]; omega
  have HKN : Hid (K = 256 - n) := Lib.hid hK
  have hme : max M S = E := hE.symm
  clear h hco hgd hL hnn hM hS hE h0 h1 hK
  go_enter Tryz.func56, Tryz.ntmps56
  go_wp2_with fail
  refine HST.out.mono ?_
  rintro e Wx ⟨rfl, hw'⟩; replace hw' := hw'.symm; subst hw'
  dsimp only
  clear HST
  go_wp2_with fail
  refine (HCO.out w (Below.refl _ _)).mono ?_
  rintro e W2 ⟨v2, rfl, hr2, hb2⟩
  have HB2 := Lib.hid hb2
  have HT2 := Lib.hid (HT.out.keep hb2)
  have HR2 := Lib.hid hr2
  clear hb2 hr2 ca cb HCO
  obtain ⟨-, -, -, ca, -, -, cb⟩ := HT2.out.cells
  clear cb
  dsimp only
  by_cases hfull : K < L.length
  · obtain ⟨x, hx⟩ : ∃ x, L[K]? = some x := ⟨L[K], List.getElem?_eq_getElem hfull⟩
    have HADV : Hid (advE n L E = x.at_) := Lib.hid (by unfold advE; rw [← HKN.out, hx])
    have HG : Hid (SrcA W2 v2 L) := Lib.hid HR2.out.src
    rcases HR2.out.opened with ⟨-, e1⟩ | ⟨g, cap, R, e1, hgB, hgr, hR, hnc, hcm⟩
    · exfalso; rw [e1] at hfull; simp at hfull
    have htk := srcA_take HR2.out (n := K) (by omega)
    subst e1
    have hc0 : W2.cell? ⟨g, K * 5, none⟩ = some (.int .i64 x.at_) := by
      have h5 := flatA_get hx 0 (by omega)
      rw [Nat.add_zero] at h5
      exact hgr.cell (by rw [List.getElem?_append_left (List.getElem?_eq_some_iff.1 h5).1]; exact h5)
    have HXC := Lib.hid hc0
    have HSR : Hid (SrcA W2 (.slice (some ⟨g, 0, none⟩) K cap) (L.take K)) := Lib.hid (by
      obtain ⟨ad, cap', e2, -, h3⟩ := htk
      injection e2 with e2 e3 e4
      subst e2 e4
      rcases h3 with ⟨h3, -⟩ | h3
      · cases h3
      · exact h3)
    obtain ⟨m, hm⟩ : ∃ m, m = L.length := ⟨_, rfl⟩
    have HML := Lib.hid hm
    rw [← hm] at hfull hnc ⊢
    clear hm hx hgr hR htk hc0 hgB hcm
    have d1 : decide ((K : Int) < (m : Int)) = true := decide_eq_true (by omega)
    have d2 : decide (K < m) = true := decide_eq_true hfull
    have d3 : (K : Int) ≤ (cap : Int) := by omega
    have d4 : K ≤ cap := by omega
    go_wp2_with fail
    go_region_held3 (fun w' => w'.cell? ⟨g, K * 5, none⟩ = some (.int .i64 x.at_)) (first | exact HXC.out) (fail)
    go_upto_region 7 with fail
    refine wp_name fun W3 hW3 => ?_
    have HB3 : Hid (Below w.heap.size w W3) := Lib.hid (by rw [hW3.out]; exact below_drew HB2.out)
    obtain ⟨G, hG⟩ : ∃ G, G = L.take K := ⟨_, rfl⟩
    have HSRC : Hid (SrcA W3 (.slice (some ⟨g, 0, none⟩) K cap) G) := Lib.hid (by rw [hG]; exact HSR.out.keep (by rw [hW3.out]; exact below_drew (Below.refl _ W2)))
    have HGLEN : Hid (G.length = K) := Lib.hid (by rw [hG, List.length_take, ← HML.out]; omega)
    have HGL : Hid (s.long.length + G.length ≤ 1000000) := Lib.hid (by rw [HGLEN.out, ← HNN.out]; have := HKN.out; omega)
    rw [HADV.out, ← hG] at HGD
    have HGE := Lib.hid hG
    clear hW3 hG ca HT2 HB2 HR2 HG HXC HSR
    have HBW3 : Hid (Below w.heap.size w W3) := HB3
    have HT3 := Lib.hid (HT.out.keep HBW3.out)
    obtain ⟨-, -, -, x3, -, -, y3⟩ := HT3.out.cells
    rw [← HMM.out] at y3
    have HX3 := Lib.hid x3
    have HY3 := Lib.hid y3
    clear y3
    go_region_law (refine step_append_ags rfl (.tmp 57) (.tmp 58) rfl 0 (.slice am n cm) s.long (by simp [Act.eval]) HT3.out.drew.long (.slice (some ⟨g, 0, none⟩) K cap) G (by simp [Act.eval]) (SrcA.keep HSRC.out (below_drew (Below.refl _ W3))) HGL.out (Nat.zero_le _) ?_; intro v8 W8 HROW8 HGR8 HWH8; have c8 : W8.cell? ⟨p, 3, none⟩ = some (.slice am n cm) := (World.cell?_of_block (w := W3.drew) ((Only.grown HGR8.out).block p (lt_of_block HT3.out.at_) HT3.out.nl)).trans HX3.out; have d8 : W8.cell? ⟨p, 6, none⟩ = some (.int .i64 M) := (World.cell?_of_block (w := W3.drew) ((Only.grown HGR8.out).block p (lt_of_block HT3.out.at_) HT3.out.nl)).trans HY3.out; have e8f : ∀ i, W8.frozen? ⟨p, i, none⟩ = false := fun i => frozen_block ((Only.grown HGR8.out).block p (lt_of_block HT3.out.at_) HT3.out.nl) (HT3.out.free i); have f8 := e8f 3; have g8 := e8f 6; clear e8f; have HR8 := Lib.hid HROW8.out; have hrw := HROW8.out; obtain ⟨n8, hn8⟩ : ∃ n8, n8 = (s.long ++ G).length := ⟨_, rfl⟩; obtain ⟨a8, c8', e8⟩ := own_slice hrw; rw [← hn8] at e8; subst e8; clear hrw hn8 HROW8)
    clear x3
    go_wp2_with fail
    go_ret2
    refine ⟨?_, ?_⟩
    · rw [← HGE.out, HGLEN.out, ← HML.out, decide_eq_true hfull]; rfl
    · rw [HADV.out, ← HGE.out]
      exact Turned.from (below_drew HB3.out) (HT3.out.drew.adv_long HR8.out HGR8.out HWH8.out rfl HGD.out)
  · have HADV : Hid (advE n L E = E) := Lib.hid (by unfold advE; rw [← HKN.out, List.getElem?_eq_none (by omega)])
    have HSR : Hid (SrcA W2 v2 L) := Lib.hid HR2.out.src
    have hrw := HR2.out
    obtain ⟨ay, cy, e1⟩ := own_slice hrw
    subst e1
    obtain ⟨G, hG⟩ : ∃ G, G = L.take K := ⟨_, rfl⟩
    have hGL : G = L := by rw [hG, List.take_of_length_le (by omega)]
    have HGE := Lib.hid hG
    rw [← hG] at HGD
    obtain ⟨m, hm⟩ : ∃ m, m = L.length := ⟨_, rfl⟩
    have HML := Lib.hid hm
    have HGLEN : Hid (G.length = m) := Lib.hid (by rw [hGL, hm])
    rw [← hm] at hfull
    rw [← hm] at HSR ⊢
    rw [← hGL] at HSR
    have hm1 : m ≤ 1000 := by rw [hm]; exact HLL.out
    clear hm hG hrw hGL HR2
    have d1 : decide ((K : Int) < (m : Int)) = false := decide_eq_false (by omega)
    have d2 : decide (K < m) = false := decide_eq_false hfull
    go_upto_region 7 with fail
    refine wp_name fun W3 hW3 => ?_
    have HB3 : Hid (Below w.heap.size w W3) := Lib.hid (by rw [hW3.out]; exact HB2.out)
    have HSRC : Hid (SrcA W3 (.slice ay m cy) G) := Lib.hid (by rw [hW3.out]; exact HSR.out)
    have HGL : Hid (s.long.length + G.length ≤ 1000000) := Lib.hid (by rw [HGLEN.out, ← HNN.out]; omega)
    rw [HADV.out] at HGD
    clear hW3 ca HT2 HB2 HSR
    have HBW3 : Hid (Below w.heap.size w W3) := HB3
    have HT3 := Lib.hid (HT.out.keep HBW3.out)
    obtain ⟨-, -, -, x3, -, -, y3⟩ := HT3.out.cells
    rw [← HMM.out] at y3
    have HX3 := Lib.hid x3
    have HY3 := Lib.hid y3
    clear y3
    go_region_law (refine step_append_ags rfl (.tmp 57) (.tmp 58) rfl 0 (.slice am n cm) s.long (by simp [Act.eval]) HT3.out.drew.long (.slice ay m cy) G (by simp [Act.eval]) (SrcA.keep HSRC.out (below_drew (Below.refl _ W3))) HGL.out (Nat.zero_le _) ?_; intro v8 W8 HROW8 HGR8 HWH8; have c8 : W8.cell? ⟨p, 3, none⟩ = some (.slice am n cm) := (World.cell?_of_block (w := W3.drew) ((Only.grown HGR8.out).block p (lt_of_block HT3.out.at_) HT3.out.nl)).trans HX3.out; have d8 : W8.cell? ⟨p, 6, none⟩ = some (.int .i64 M) := (World.cell?_of_block (w := W3.drew) ((Only.grown HGR8.out).block p (lt_of_block HT3.out.at_) HT3.out.nl)).trans HY3.out; have e8f : ∀ i, W8.frozen? ⟨p, i, none⟩ = false := fun i => frozen_block ((Only.grown HGR8.out).block p (lt_of_block HT3.out.at_) HT3.out.nl) (HT3.out.free i); have f8 := e8f 3; have g8 := e8f 6; clear e8f; have HR8 := Lib.hid HROW8.out; have hrw := HROW8.out; obtain ⟨n8, hn8⟩ : ∃ n8, n8 = (s.long ++ G).length := ⟨_, rfl⟩; obtain ⟨a8, c8', e8⟩ := own_slice hrw; rw [← hn8] at e8; subst e8; clear hrw hn8 HROW8)
    clear x3
    go_wp2_with fail
    go_ret2
    refine ⟨?_, ?_⟩
    · rw [← HGE.out, HGLEN.out, ← HML.out, decide_eq_false hfull]; rfl
    · rw [HADV.out, ← HGE.out]
      exact Turned.from (below_drew HB3.out) (HT3.out.drew.adv_long HR8.out HGR8.out HWH8.out rfl HGD.out)
end Go.Proofs.YthbdchleppbidaaGreat
/- Package tier: Roll, of a stock that is there. -/
namespace Go.Proofs.YthbdchleppbidaaGreat
open Go.RowKit

theorem adv_mid_eq {s : Stk} {now : Int} (h0 : 0 ≤ now) : (⟨s.raw, s.mid ++ ((midG s now).map fun e => ofA e.1 e.2).take (256 - s.mid.length), s.long, advE s.mid.length ((midG s now).map fun e => ofA e.1 e.2) (max s.mm (startW 1 now)), s.ml⟩ : Stk) = rollM s now := by
  have e1 : max s.mm (startW 1 now) = upTo 300 s.mm now := by rw [start_mid, if_pos h0]; rfl
  have e2 : advE s.mid.length ((midG s now).map fun e => ofA e.1 e.2) (upTo 300 s.mm now) = (rollTo (midG s now) (256 - s.mid.length) (upTo 300 s.mm now)).2 := by
    unfold advE rollTo
    rw [List.getElem?_map]
    simp only
    cases (midG s now)[256 - s.mid.length]? with
    | none => rfl
    | some e => exact ofA_at _ _
  rw [e1, e2, ← List.map_take]
  rfl
/-- each of Long's groups comes to something -/
theorem long_some {s : Stk} (h : GoodT s) {c : Int} : ∀ e ∈ longC s c, ∃ a, joinA e.1 e.2 = some a ∧ a.at_ = e.1 := fun e he => by
  obtain ⟨-, g2⟩ := longC_facts h (c := c)
  obtain ⟨-, -, hne, hm⟩ := g2 e he
  obtain ⟨a, ha⟩ := joinA_some (k := e.1) hne (fun t ht => (right_n (h.mid.right t (hm t ht))).1)
  refine ⟨a, ha, ?_⟩
  rw [joinA_eq] at ha
  cases hj : joinedA e.2 with
  | none => rw [hj] at ha; cases ha
  | some c => rw [hj] at ha; rw [← Option.some.inj ha]
theorem fmap_all {α β : Type} [Inhabited β] {f : α → Option β} {l : List α} (h : ∀ e ∈ l, ∃ a, f e = some a) : l.filterMap f = l.map fun e => (f e).getD default := by
  induction l with
  | nil => rfl
  | cons x r ih =>
    obtain ⟨a, ha⟩ := h x (by simp)
    rw [List.filterMap_cons, ha, List.map_cons, ha, ih fun e he => h e (List.mem_cons_of_mem _ he)]; rfl
theorem adv_long_eq {s : Stk} (h : GoodT s) {c : Int} (h0 : 0 ≤ c) : (⟨s.raw, s.mid, s.long ++ ((longC s c).filterMap fun e => joinA e.1 e.2).take (256 - s.long.length), s.mm, advE s.long.length ((longC s c).filterMap fun e => joinA e.1 e.2) (max s.ml (startW 2 c))⟩ : Stk) = rollC s c := by
  have e1 : max s.ml (startW 2 c) = upTo 3600 s.ml c := by rw [start_long, if_pos h0]; rfl
  have hs := long_some h (c := c)
  have ef := fmap_all (f := fun e : Int × List Ag => joinA e.1 e.2) (fun e he => (hs e he).imp fun a ha => ha.1)
  have eg := fmap_all (f := fun e : Int × List Ag => joinA e.1 e.2) (l := (longC s c).take (256 - s.long.length)) (fun e he => (hs e (List.mem_of_mem_take he)).imp fun a ha => ha.1)
  have e2 : advE s.long.length ((longC s c).filterMap fun e => joinA e.1 e.2) (upTo 3600 s.ml c) = (rollTo (longC s c) (256 - s.long.length) (upTo 3600 s.ml c)).2 := by
    unfold advE rollTo
    rw [ef, List.getElem?_map]
    simp only
    cases hk : (longC s c)[256 - s.long.length]? with
    | none => rfl
    | some e =>
      obtain ⟨a, ha, hat⟩ := hs e (List.mem_of_getElem? hk)
      simp only [Option.map_some, ha, Option.getD_some, hat]
  have e3 : ((longC s c).filterMap fun e => joinA e.1 e.2).take (256 - s.long.length) = ((longC s c).take (256 - s.long.length)).filterMap fun e => joinA e.1 e.2 := by
    rw [ef, eg, List.map_take]
  rw [e1, e2, e3]
  rfl
theorem long_len {s : Stk} (h : GoodT s) (c : Int) : ((longC s c).filterMap fun e => joinA e.1 e.2).length = (longC s c).length := by
  rw [fmap_all (f := fun e : Int × List Ag => joinA e.1 e.2) (fun e he => (long_some h e he).imp fun a ha => ha.1), List.length_map]
theorem midG_few {s : Stk} (h : GoodT s) (now : Int) : (midG s now).length ≤ 256 := by
  have h1 : (midG s now).length ≤ (s.raw.filter fun p => decide (s.mm ≤ p.a) && decide (p.a < upTo 300 s.mm now)).length := runs_len _ _
  have h2 : (s.raw.filter fun p => decide (s.mm ≤ p.a) && decide (p.a < upTo 300 s.mm now)).length ≤ s.raw.length := List.length_filter_le _ _
  have := h.plen
  omega
theorem longC_few {s : Stk} (h : GoodT s) (c : Int) : (longC s c).length ≤ 256 := by
  have h1 : (longC s c).length ≤ (s.mid.filter fun t => decide (s.ml ≤ t.at_) && decide (t.at_ < upTo 3600 s.ml c)).length := runs_len _ _
  have h2 : (s.mid.filter fun t => decide (s.ml ≤ t.at_) && decide (t.at_ < upTo 3600 s.ml c)).length ≤ s.mid.length := List.length_filter_le _ _
  have := h.mid.len
  omega
/-- advance of Mid, as Roll asks for it -/
theorem tiadvM_any {w : World} {B p sp : Nat} {v vm vl : Value} {s : Stk} (h : TSit w p sp v vm vl s) (hc : CapAt w B p) {now : Int} (h0 : 0 ≤ now) (h1 : now ≤ 1099511627776) :
    Calls Tryz.prog 56 #[.pointer (some ⟨p, 0, none⟩), .int .i64 1, .int .i64 now, .func (.func 57) #[] #[.pointer (some ⟨B, 0, none⟩)]] w fun e w' => e = .returned (.tuple #[.int .i64 (((rollM s now).mid.length : Int) - s.mid.length), .bool (decide (256 < s.mid.length + (midG s now).length))]) ∧ Turned w w' p sp v vm vl (rollM s now) := by
  have hA := adv_mid_eq (s := s) h0
  have hl := h.good.mid.len
  have hfew := midG_few h.good now
  have H := tiadv_mid (B := B) h (tu := now) (by omega) (by omega) (L := (midG s now).map fun e => ofA e.1 e.2) (by rw [List.length_map]; omega) (fun V hb => by
    have h1 := tiroll1_any (h.keep hb) (hc.keep hb) s.mm (max s.mm (startW 1 now))
    have e1 : startW 1 now = now - now % 300 := by rw [start_mid, if_pos h0]
    rw [e1] at h1 ⊢
    rwa [mid_groups h.good now] at h1) (by rw [hA]; exact rollM_good h.good h0 h1)
  rw [hA] at H
  refine H.mono fun e w' hh => ⟨?_, hh.2⟩
  rw [hh.1, ← hA]
  have e1 : (((((midG s now).map fun e => ofA e.1 e.2).take (256 - s.mid.length)).length : Nat) : Int) = ((s.mid ++ ((midG s now).map fun e => ofA e.1 e.2).take (256 - s.mid.length)).length : Int) - s.mid.length := by rw [List.length_append]; omega
  rw [e1, List.length_map]
  have e2 : decide (256 - s.mid.length < (midG s now).length) = decide (256 < s.mid.length + (midG s now).length) := by
    rw [Bool.eq_iff_iff]; simp only [decide_eq_true_eq]; omega
  rw [e2]
theorem tiadvL_any {w : World} {B p sp : Nat} {v vm vl : Value} {s : Stk} (h : TSit w p sp v vm vl s) (hc : CapAt w B p) {c : Int} (h0 : 0 ≤ c) (h1 : c ≤ s.mm) :
    Calls Tryz.prog 56 #[.pointer (some ⟨p, 0, none⟩), .int .i64 2, .int .i64 c, .func (.func 59) #[] #[.pointer (some ⟨B, 0, none⟩)]] w fun e w' => e = .returned (.tuple #[.int .i64 (((rollC s c).long.length : Int) - s.long.length), .bool (decide (256 < s.long.length + (longC s c).length))]) ∧ Turned w w' p sp v vm vl (rollC s c) := by
  have hA := adv_long_eq h.good h0
  have hl := h.good.long.len
  have hfew := longC_few h.good c
  have hmm := h.good.mm
  have H := tiadv_long (B := B) h (tu := c) (by omega) (by omega) (L := (longC s c).filterMap fun e => joinA e.1 e.2) (by rw [long_len h.good]; omega) (fun V hb => by
    have h1 := tiroll2_any (h.keep hb) (hc.keep hb) s.ml (max s.ml (startW 2 c))
    have e1 : startW 2 c = c - c % 3600 := by rw [start_long, if_pos h0]
    rw [e1] at h1 ⊢
    rwa [long_groups h.good c] at h1) (by rw [hA]; exact rollC_good h.good h1)
  rw [hA] at H
  refine H.mono fun e w' hh => ⟨?_, hh.2⟩
  rw [hh.1, ← hA]
  have e1 : (((((longC s c).filterMap fun e => joinA e.1 e.2).take (256 - s.long.length)).length : Nat) : Int) = ((s.long ++ ((longC s c).filterMap fun e => joinA e.1 e.2).take (256 - s.long.length)).length : Int) - s.long.length := by rw [List.length_append]; omega
  rw [e1, long_len h.good]
  have e2 : decide (256 - s.long.length < (longC s c).length) = decide (256 < s.long.length + (longC s c).length) := by
    rw [Bool.eq_iff_iff]; simp only [decide_eq_true_eq]; omega
  rw [e2]
/-- what Roll holds is still there -/
theorem turned_held {w w' : World} {B p sp : Nat} {v vm vl : Value} {s s' : Stk} {MM : Int} (h : TSit w p sp v vm vl s) (hc : CapAt w B p) (ht : Turned w.drew w' p sp v vm vl s') (hm : s'.mm = MM) : w'.cell? ⟨B, 0, none⟩ = some (.pointer (some ⟨p, 0, none⟩)) ∧ w'.cell? ⟨p, 5, none⟩ = some (.int .i64 MM) := by
  obtain ⟨v3, vm3, vl3, x1, x2, x3⟩ := ht
  have hd := hc.keep ((Below.refl _ w).drew)
  exact ⟨(hd.only x3 (h.drew.nB hd)).cell, by rw [← hm]; exact x1.cells.c5⟩
set_option maxHeartbeats 8000000 in
set_option maxRecDepth 100000 in
theorem tiroll_any {w : World} {p sp : Nat} {v vm vl : Value} {s : Stk} (h : TSit w p sp v vm vl s) {now : Int} (h0 : -9223372036854775808 ≤ now) (h1 : now ≤ 9223372036854775807) :
    Calls Tryz.prog 26 #[.pointer (some ⟨p, 0, none⟩), .int .i64 now] w fun e w' => e = .returned (.tuple #[.int .i64 (rollR s now).1, .int .i64 (rollR s now).2]) ∧ Turned w w' p sp v vm vl (rollT s now) := by
  have HT := Lib.hid h
  by_cases hin : 0 ≤ now ∧ now ≤ 1099511627776
  · obtain ⟨g0, g1⟩ := hin
    have t0 : decide (now < 0) = false := decide_eq_false (by omega)
    have t1 : decide (1099511627776 < now) = false := decide_eq_false (by omega)
    have HRE : Hid (rollT s now = rollS s now) := Lib.hid (by unfold rollT; rw [if_pos ⟨g0, g1⟩])
    have HRR : Hid (rollR s now = (((rollS s now).mid.length : Int) - s.mid.length + ((rollS s now).long.length - s.long.length), if 256 < s.mid.length + (midG s now).length ∨ 256 < s.long.length + (longR s now).length then 6 else 0)) := Lib.hid (by unfold rollR; rw [if_pos ⟨g0, g1⟩])
    have HAM : Hid (∀ W B, Below w.heap.size w W → CapAt W B p → Calls Tryz.prog 56 #[.pointer (some ⟨p, 0, none⟩), .int .i64 1, .int .i64 now, .func (.func 57) #[] #[.pointer (some ⟨B, 0, none⟩)]] W fun e w' => e = .returned (.tuple #[.int .i64 (((rollM s now).mid.length : Int) - s.mid.length), .bool (decide (256 < s.mid.length + (midG s now).length))]) ∧ Turned W w' p sp v vm vl (rollM s now)) := Lib.hid fun W B hb hc => tiadvM_any (h.keep hb) hc g0 g1
    have HGM := Lib.hid (rollM_good h.good g0 g1)
    have hl1 := (rollM_good h.good g0 g1).mid.len
    obtain ⟨s1, hs1⟩ : ∃ s1, s1 = rollM s now := ⟨_, rfl⟩
    rw [← hs1] at HAM HGM hl1
    have HS1 := Lib.hid hs1
    obtain ⟨c, hcm⟩ : ∃ c, c = min now s1.mm := ⟨_, rfl⟩
    have HCM := Lib.hid hcm
    have hmc : min now s1.mm = c := hcm.symm
    have HC0 : Hid (0 ≤ c ∧ c ≤ s1.mm) := Lib.hid (by have := HGM.out.mm.1; omega)
    obtain ⟨b1, hbb⟩ : ∃ b1, b1 = decide (256 < s.mid.length + (midG s now).length) := ⟨_, rfl⟩
    obtain ⟨k1, hkk⟩ : ∃ k1 : Int, k1 = (s1.mid.length : Int) - s.mid.length := ⟨_, rfl⟩
    rw [← hbb, ← hkk] at HAM
    have HBB := Lib.hid hbb
    have HKK := Lib.hid hkk
    have hkr : -256 ≤ k1 ∧ k1 ≤ 256 := by have := h.good.mid.len; omega
    clear h hcm hs1 hbb hkk hl1
    go_enter Tryz.func26, Tryz.ntmps26
    go_upto_region 1 with fail
    refine wp_name fun W1 hW1 => ?_
    obtain ⟨B, hB⟩ : ∃ B, B = w.heap.size := ⟨_, rfl⟩
    have hb1 : Below w.heap.size w W1 := by rw [hW1.out]; exact (Below.refl _ _).alloc (Nat.le_refl _) _
    have hcap : CapAt W1 B p := by rw [hW1.out, hB]; exact CapAt.new w p
    have HCA := Lib.hid hcap
    have HB1 := Lib.hid hb1
    have HA1 := Lib.hid (HAM.out W1 B hb1 hcap)
    rw [← hB]
    clear hW1 hb1 hB HAM hcap
    have c0 := HCA.out.cell
    go_wp2_with fail
    refine HA1.out.mono ?_
    rintro e W2 ⟨rfl, ht2⟩
    obtain ⟨v', vm', vl', k1', k2, k3⟩ := ht2
    have HT2 := Lib.hid k1'
    have HK2 := Lib.hid k2
    have HK3 := Lib.hid k3
    have hcap2 : CapAt W2 B p := HCA.out.only k3 ((HT.out.keep HB1.out).nB HCA.out)
    have HCA2 := Lib.hid hcap2
    clear k1' k2 k3 hcap2 c0 HA1
    dsimp only
    have HAL : Hid (Calls Tryz.prog 56 #[.pointer (some ⟨p, 0, none⟩), .int .i64 2, .int .i64 c, .func (.func 59) #[] #[.pointer (some ⟨B, 0, none⟩)]] W2.drew fun e w' => e = .returned (.tuple #[.int .i64 (((rollC s1 c).long.length : Int) - s1.long.length), .bool (decide (256 < s1.long.length + (longC s1 c).length))]) ∧ Turned W2.drew w' p sp v' vm' vl' (rollC s1 c)) := Lib.hid (tiadvL_any HT2.out.drew (HCA2.out.keep ((Below.refl _ W2).drew)) HC0.out.1 HC0.out.2)
    have hl2 := (rollC_good HGM.out HC0.out.2).long.len
    have hl3 := HGM.out.long.len
    obtain ⟨s2, hs2⟩ : ∃ s2, s2 = rollC s1 c := ⟨_, rfl⟩
    have HS2 := Lib.hid hs2
    have HMM2 : Hid (s2.mm = s1.mm) := Lib.hid (by rw [hs2]; rfl)
    obtain ⟨b2, hbb2⟩ : ∃ b2, b2 = decide (256 < s1.long.length + (longC s1 c).length) := ⟨_, rfl⟩
    obtain ⟨k2, hkk2⟩ : ∃ k2 : Int, k2 = (s2.long.length : Int) - s1.long.length := ⟨_, rfl⟩
    rw [← hs2] at HAL hl2
    rw [← hbb2, ← hkk2] at HAL
    have HBB2 := Lib.hid hbb2
    have HKK2 := Lib.hid hkk2
    have hkr2 : -256 ≤ k2 ∧ k2 ≤ 256 := by omega
    have hw : IntKind.i64.wrap (k1 + k2) = k1 + k2 := by rw [IntKind.wrap_i64]; omega
    obtain ⟨-, -, -, -, -, c5, -⟩ := HT2.out.cells
    obtain ⟨MM, hMM⟩ : ∃ MM, MM = s1.mm := ⟨_, rfl⟩
    have HMM := Lib.hid hMM
    rw [← hMM] at c5 hmc
    have HC : Hid (W2.cell? ⟨B, 0, none⟩ = some (.pointer (some ⟨p, 0, none⟩)) ∧ W2.cell? ⟨p, 5, none⟩ = some (.int .i64 MM)) := Lib.hid ⟨HCA2.out.cell, c5⟩
    clear hs2 hbb2 hkk2 hl2 hl3 c5 hMM
    go_upto_region 6 with fail
    go_region_held3 (fun w' => w'.cell? ⟨B, 0, none⟩ = some (.pointer (some ⟨p, 0, none⟩)) ∧ w'.cell? ⟨p, 5, none⟩ = some (.int .i64 MM)) (first | exact HC.out | exact HC3.out) ((go_at_call 56; refine (HAL.out).mono ?_; rintro e W3 ⟨rfl, ht3⟩; have HTU3 := Lib.hid ht3; have HC3 : Hid (W3.cell? ⟨B, 0, none⟩ = some (.pointer (some ⟨p, 0, none⟩)) ∧ W3.cell? ⟨p, 5, none⟩ = some (.int .i64 MM)) := Lib.hid (turned_held HT2.out HCA2.out ht3 (HMM2.out.trans HMM.out.symm)); clear ht3))
    all_goals
      have HFIN : Hid (Turned w W3 p sp v vm vl (rollT s now)) := Lib.hid (by
        have e : rollT s now = s2 := by rw [HRE.out, HS2.out, HCM.out, HS1.out]; rfl
        rw [e]
        exact Turned.from HB1.out (Turned.then HT2.out HK2.out HK3.out (Turned.from (Below.drew (Below.refl _ W2)) HTU3.out)))
      have HNUM : Hid ((rollR s now).1 = k1 + k2 ∧ (rollR s now).2 = if (b1 || b2) = true then 6 else 0) := Lib.hid (by
        have e1 : rollS s now = s2 := by rw [HS2.out, HCM.out, HS1.out]; rfl
        have e2 : s2.mid = s1.mid := by rw [HS2.out]; rfl
        have e3 : s1.long = s.long := by rw [HS1.out]; rfl
        have e4 : longR s now = longC s1 c := by rw [HCM.out, HS1.out]; rfl
        rw [HRR.out, e1, e2, e4]
        refine ⟨by simp only; rw [HKK.out, HKK2.out, e3], ?_⟩
        simp only
        rw [HBB.out, HBB2.out, e3]
        simp only [Bool.or_eq_true, decide_eq_true_eq])
      clear HC HC3 HAL
      cases b1 with
      | true =>
        go_wp2_with fail
        go_ret2
        exact ⟨by rw [HNUM.out.1, HNUM.out.2]; rfl, HFIN.out⟩
      | false =>
        cases b2 with
        | true =>
          go_wp2_with fail
          go_ret2
          exact ⟨by rw [HNUM.out.1, HNUM.out.2]; rfl, HFIN.out⟩
        | false =>
          go_wp2_with fail
          go_ret2
          exact ⟨by rw [HNUM.out.1, HNUM.out.2]; rfl, HFIN.out⟩
  · have HRE : Hid (rollT s now = s ∧ rollR s now = (0, 3)) := Lib.hid ⟨by unfold rollT; rw [if_neg hin], by unfold rollR; rw [if_neg hin]⟩
    clear h
    by_cases hn : now < 0
    · have t0 : decide (now < 0) = true := decide_eq_true hn
      clear hin hn
      go_enter Tryz.func26, Tryz.ntmps26
      go_wp2_with fail
      go_ret2
      exact ⟨by rw [HRE.out.2]; rfl, by rw [HRE.out.1]; exact Turned.same HT.out ((Below.refl _ _).alloc (Nat.le_refl _) _)⟩
    · have t0 : decide (now < 0) = false := decide_eq_false hn
      have t1 : decide (1099511627776 < now) = true := decide_eq_true (by omega)
      clear hin hn
      go_enter Tryz.func26, Tryz.ntmps26
      go_wp2_with fail
      go_ret2
      exact ⟨by rw [HRE.out.2]; rfl, by rw [HRE.out.1]; exact Turned.same HT.out ((Below.refl _ _).alloc (Nat.le_refl _) _)⟩
end Go.Proofs.YthbdchleppbidaaGreat
