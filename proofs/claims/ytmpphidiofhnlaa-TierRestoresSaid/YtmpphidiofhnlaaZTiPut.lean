/- Package tier: Put, of a stock that is there. -/
import Derived.Test.YtmpphidiofhnlaaZTiPut1
namespace Go.Proofs.Ytmpphidiofhnlaa
open Go.RowKit

/-- another series: what came of a stock -/
theorem TSit.series {w w' : World} {p sp : Nat} {v vm vl v' : Value} {s : Stk} {r : List Pt} (h : TSit w p sp v vm vl s) (ho : Only (SBlk sp v) w w') (hs : SerV w' sp v' r) (hv : ∀ k, v'.ownBlock = some k → v.ownBlock = some k ∨ w.heap.size ≤ k) (hg : GoodT ⟨r, s.mid, s.long, s.mm, s.ml⟩) : Turned w w' p sp v vm vl ⟨r, s.mid, s.long, s.mm, s.ml⟩ := by
  refine ⟨v', vm, vl, ⟨(ho.block p (lt_of_block h.at_) h.np).trans h.at_, hs, row_only h.mid ho h.nsm, row_only h.long ho h.nsl, h.two, hg⟩, fun k hk => ?_, ho.mono fun k _ hk => .inr (.inl hk)⟩
  rcases hk with e | (e | e) | e | e
  · exact .inl (.inl e)
  · exact .inl (.inr (.inl (.inl e)))
  · rcases hv k e with e | e
    · exact .inl (.inr (.inl (.inr e)))
    · exact .inr e
  · exact .inl (.inr (.inr (.inl e)))
  · exact .inl (.inr (.inr (.inr e)))
theorem out_off (l : List Pt) : l.any outP = l.any offT := by
  have e : outP = offT := by
    funext p
    unfold outP offT
    rw [Bool.eq_iff_iff]
    simp only [Bool.or_eq_true, decide_eq_true_eq, Bool.not_eq_true', Bool.and_eq_false_iff, decide_eq_false_iff_not]
    omega
  rw [e]
set_option maxHeartbeats 8000000 in
set_option maxRecDepth 100000 in
theorem tiput_any {w : World} {p sp : Nat} {v vm vl : Value} {s : Stk} (h : TSit w p sp v vm vl s) {x : Value} {l : List Pt} (hx : PLies w x l) (hf : ∀ q ∈ l, q.fits) (hn : l.length ≤ 1000000) :
    Calls Try.prog 14 #[.pointer (some ⟨p, 0, none⟩), x] w fun e w' => e = .returned (.tuple #[.int .i64 (putR s l).1, .int .i64 (putR s l).2]) ∧ Turned w w' p sp v vm vl (putT s l) := by
  have hmax : l.length ≤ maxLen := by unfold maxLen; omega
  have HT := Lib.hid h
  have HX := Lib.hid hx
  have HPU : Hid (∀ W, Below w.heap.size w W → Calls Try.prog 37 #[.pointer (some ⟨sp, 0, none⟩), x] W fun e w' => e = .returned (.tuple #[.int .i64 (putE s.raw l).1, .int .i64 (putE s.raw l).2.1]) ∧ (∃ v', SerV w' sp v' (putE s.raw l).2.2 ∧ (v' = v ∨ PtRowB W.heap.size w' v' (putE s.raw l).2.2)) ∧ Only (fun b => b = sp) W w') := Lib.hid fun W hb => seput_any (h.ser.keep hb) (hx.beyond hb) hf hmax
  have HCO : Hid (∀ W B, Below w.heap.size w W → CapAt W B p → Calls Try.prog 35 #[x, .func (.func 36) #[] #[.pointer (some ⟨B, 0, none⟩)]] W fun e w' => e = .returned (.bool (l.any fun q => decide (q.a < s.mm))) ∧ Below W.heap.size W w') := Lib.hid fun W B hb hc => ticont_any (hx.beyond hb) hmax (fun V hV q => tiput1_any ((h.keep hb).keep hV) (hc.keep hV) q)
  have HPG : Hid (GoodT (putT s l)) := Lib.hid (putT_good h.good hf)
  obtain ⟨c0, -, -, -, -, -, -⟩ := h.cells
  have HC0 := Lib.hid c0
  obtain ⟨a, c, rfl⟩ := hx.len
  clear h hx hf c0
  obtain ⟨A, hA⟩ : ∃ A, A = l.any fun q => decide (q.a < s.mm) := ⟨_, rfl⟩
  have HA := Lib.hid hA
  rw [← hA] at HCO
  clear hA
  go_enter Try.func14, Try.ntmps14
  go_upto_region 1 with fail
  refine wp_name fun W1 hW1 => ?_
  obtain ⟨B, hB⟩ : ∃ B, B = w.heap.size := ⟨_, rfl⟩
  have hb1 : Below w.heap.size w W1 := by rw [hW1.out]; exact (Below.refl _ _).alloc (Nat.le_refl _) _
  have hcap : CapAt W1 B p := by rw [hW1.out, hB]; exact CapAt.new w p
  have HCA := Lib.hid hcap
  have HB1 := Lib.hid hb1
  have HC1 := Lib.hid (HCO.out W1 B hb1 hcap)
  rw [← hB]
  clear hW1 hb1 hB HCO hcap
  have c0 := HCA.out.cell
  cases A with
  | true =>
    have HR : Hid (putR s l = (0, 14) ∧ putT s l = s) := Lib.hid (by
      have e : putBad s l = true := by unfold putBad; rw [← HA.out]; rfl
      exact ⟨by unfold putR; rw [if_pos HA.out.symm], by unfold putT; rw [if_pos e]⟩)
    go_wp2_with fail
    refine HC1.out.mono ?_
    rintro e W2 ⟨rfl, hb⟩
    have HB2 := Lib.hid (HB1.out.trans (hb.mono HB1.out.size))
    clear hb c0
    dsimp only
    go_wp2_with fail
    go_ret2
    exact ⟨by rw [HR.out.1]; rfl, by rw [HR.out.2]; exact Turned.same HT.out HB2.out⟩
  | false =>
    go_wp2_with fail
    refine HC1.out.mono ?_
    rintro e W2 ⟨rfl, hb⟩
    have HB2 := Lib.hid (HB1.out.trans (hb.mono HB1.out.size))
    have c2 : W2.cell? ⟨B, 0, none⟩ = some (.pointer (some ⟨p, 0, none⟩)) := (HCA.out.keep hb).cell
    have hc0 : W2.cell? ⟨p, 0, none⟩ = some (.pointer (some ⟨sp, 0, none⟩)) := (HB2.out.cell (p := ⟨p, 0, none⟩) (cell_lt HC0.out)).trans HC0.out
    clear hb c0
    have HP2 := Lib.hid (HPU.out W2 HB2.out)
    clear HPU
    dsimp only
    go_wp2_with fail
    refine HP2.out.mono ?_
    rintro e W3 ⟨rfl, hs3, ho3⟩
    have HS3 := Lib.hid hs3
    have HO3 := Lib.hid ho3
    clear hs3 ho3 c2 hc0 HP2 HC1
    dsimp only
    go_wp2_with fail
    go_ret2
    have hpe : putE s.raw l = if l.any offT = true then (0, 3, s.raw) else if 256 < (putL s.raw l).length then (0, 6, s.raw) else (((putL s.raw l).length : Int) - s.raw.length, 0, putL s.raw l) := by unfold putE; rw [out_off]
    have hpr : putR s l = ((putE s.raw l).1, (putE s.raw l).2.1) := by
      unfold putR
      rw [if_neg (by rw [← HA.out]; simp), hpe]
      split
      · rfl
      · split <;> rfl
    have hpt : putT s l = ⟨(putE s.raw l).2.2, s.mid, s.long, s.mm, s.ml⟩ := by
      unfold putT putBad
      rw [← HA.out, hpe, Bool.false_or]
      by_cases h1 : l.any offT = true
      · rw [if_pos (by rw [h1]; rfl), if_pos h1]
      · rw [if_neg h1]
        by_cases h2 : 256 < (putL s.raw l).length
        · rw [if_pos (by rw [decide_eq_true h2, Bool.or_true]), if_pos h2]
        · rw [if_neg (by rw [decide_eq_false h2, Bool.or_false]; exact h1), if_neg h2]
    refine ⟨by rw [hpr]; rfl, ?_⟩
    obtain ⟨v', hs, hv⟩ := HS3.out
    rw [hpt]
    refine Turned.from HB2.out ((HT.out.keep HB2.out).series (HO3.out.mono fun k _ hk => .inl hk) hs (fun k hk => ?_) ?_)
    · rcases hv with rfl | hv
      · exact .inl hk
      · exact .inr (hv.lt k hk).1
    · rw [← hpt]; exact HPG.out
end Go.Proofs.Ytmpphidiofhnlaa
