/- Package tier: Purge, of a stock that is there. -/
import Derived.Test.YtmpphidiofhnlaaZTiRenM
import Derived.Test.YtmpphidiofhnlaaZTiRenL
import Derived.Test.YtmpphidiofhnlaaZTiPut
import Derived.Test.YtmpphidiofhnlaaMS
import Derived.Test.YtmpphidiofhnlaaZTiDoes
import Derived.Deep.RegionHeld3
namespace Go.Proofs.Ytmpphidiofhnlaa
open Go.RowKit

/-- a stock whose points were cut, only -/
theorem good_cut {s : Stk} (h : GoodT s) (a b : Int) : GoodT ⟨cutL s.raw a b, s.mid, s.long, s.mm, s.ml⟩ :=
  ⟨cutL_srt h.srt a b, fun p hp => h.tick p (List.mem_filter.1 hp).1, fun p hp => h.pfits p (List.mem_filter.1 hp).1, Nat.le_trans (List.length_filter_le _ _) h.plen, h.mid, h.long, h.mm, h.ml⟩
/-- and Mid's aggregates, too -/
theorem good_purM {s : Stk} (h : GoodT s) {raw : List Pt} (hr : ∀ p ∈ raw, p.fits) (hl : raw.length ≤ 256) (a b : Int) : GoodT ⟨s.raw, s.mid.filterMap (purM raw a b), s.long, s.mm, s.ml⟩ := by
  refine ⟨h.srt, h.tick, h.pfits, h.plen, ?_, h.long, h.mm, h.ml⟩
  refine goodA_fmap h.mid fun t ht u hu => ?_
  unfold purM at hu
  split at hu
  · split at hu
    · cases hu
    · rename_i hne
      rw [← Option.some.inj hu, ofA_at]
      have hf := h.mid.fits t ht
      refine ⟨rfl, right_of hne, ofA_fits hf.a0 hf.a1 (fun p hp => hr p (List.mem_filter.1 hp).1) ?_⟩
      have : (getL raw t.at_ (t.at_ + 300)).length ≤ raw.length := List.length_filter_le _ _
      omega
  · rw [← Option.some.inj hu]; exact ⟨rfl, h.mid.right t ht, h.mid.fits t ht⟩
theorem good_purL {s : Stk} (h : GoodT s) {mid : List Ag} (hm : ∀ t ∈ mid, rightA t = true ∧ t.fits) (a b : Int) : GoodT ⟨s.raw, s.mid, s.long.filterMap (purL mid a b), s.mm, s.ml⟩ := by
  refine ⟨h.srt, h.tick, h.pfits, h.plen, h.mid, ?_, h.mm, h.ml⟩
  refine goodA_fmap h.long fun t ht u hu => ?_
  unfold purL at hu
  split at hu
  · have hf := h.long.fits t ht
    obtain ⟨r1, r2, r3⟩ := joinA_good hf.a0 hf.a1 (fun x hx => (hm x (List.mem_filter.1 hx).1).1) (fun x hx => (hm x (List.mem_filter.1 hx).1).2) hu
    exact ⟨r3, r1, r2⟩
  · rw [← Option.some.inj hu]; exact ⟨rfl, h.long.right t ht, h.long.fits t ht⟩
theorem right_lt {a b : Int} (h : rightT a b = true) : a < b := by
  unfold rightT at h
  simp only [Bool.and_eq_true, decide_eq_true_eq] at h
  omega
/-- renew of Mid, as Purge asks for it -/
theorem tirenM_any {w : World} {B p sp : Nat} {v vm vl : Value} {s : Stk} (h : TSit w p sp v vm vl s) (hc : CapAt w B p) {a b : Int} (hab : a < b) :
    Calls Try.prog 29 #[.pointer (some ⟨p, 0, none⟩), .int .i64 1, .agg #[.int .i64 a, .int .i64 b], .func (.func 30) #[] #[.pointer (some ⟨B, 0, none⟩)]] w fun e w' => e = .returned (.tuple #[]) ∧ Turned w w' p sp v vm vl ⟨s.raw, s.mid.filterMap (purM s.raw a b), s.long, s.mm, s.ml⟩ := by
  refine tiren_mid (B := B) h a b (f := fun x => ofR x.at_ (getL s.raw x.at_ (x.at_ + 300))) (g := fun x => !(getL s.raw x.at_ (x.at_ + 300)).isEmpty) (P := purM s.raw a b) (fun x _ => ?_) (fun V hb x hx => ?_) (good_purM h.good h.good.pfits h.good.plen a b)
  · unfold purM
    rw [decide_eq_true hab, Bool.true_and]
    by_cases hm : metA 300 a b x.at_ = true
    · rw [if_pos hm, if_pos hm]
      by_cases h0 : getL s.raw x.at_ (x.at_ + 300) = []
      · rw [if_pos h0, if_neg (by rw [h0]; simp)]
      · rw [if_neg h0, if_pos (by simpa using h0)]
        unfold ofR
        rw [if_neg h0]
    · rw [if_neg hm, if_neg hm]
  · have hf := h.good.mid.fits x hx
    exact tipur1_any (h.keep hb) (hc.keep hb) hf.a0 hf.a1
theorem tirenL_any {w : World} {B p sp : Nat} {v vm vl : Value} {s : Stk} (h : TSit w p sp v vm vl s) (hc : CapAt w B p) {a b : Int} (hab : a < b) :
    Calls Try.prog 29 #[.pointer (some ⟨p, 0, none⟩), .int .i64 2, .agg #[.int .i64 a, .int .i64 b], .func (.func 33) #[] #[.pointer (some ⟨B, 0, none⟩)]] w fun e w' => e = .returned (.tuple #[]) ∧ Turned w w' p sp v vm vl ⟨s.raw, s.mid, s.long.filterMap (purL s.mid a b), s.mm, s.ml⟩ := by
  have hin : ∀ x : Ag, x ∈ s.long → (s.mid.filter fun t => decide (x.at_ < x.at_ + 3600) && metA 300 x.at_ (x.at_ + 3600) t.at_) = inW s.mid x.at_ := fun x hx => by
    unfold inW
    refine List.filter_congr fun t ht => ?_
    have h1 := h.good.mid.beg t ht
    have h2 := h.good.long.beg x hx
    unfold metA
    rw [Bool.eq_iff_iff]
    simp only [decide_eq_true_eq, Bool.and_eq_true]
    omega
  refine tiren_long (B := B) h a b (f := fun x => joinR x.at_ (inW s.mid x.at_)) (g := fun x => (joinA x.at_ (inW s.mid x.at_)).isSome) (P := purL s.mid a b) (fun x _ => ?_) (fun V hb x hx => ?_) (good_purL h.good (fun t ht => ⟨h.good.mid.right t ht, h.good.mid.fits t ht⟩) a b)
  · unfold purL
    rw [decide_eq_true hab, Bool.true_and]
    by_cases hm : metA 3600 a b x.at_ = true
    · rw [if_pos hm, if_pos hm]
      unfold joinR
      cases joinA x.at_ (inW s.mid x.at_) with
      | none => rfl
      | some c => rfl
    · rw [if_neg hm, if_neg hm]
  · have hf := h.good.long.fits x hx
    have := tipur2_any (h.keep hb) (hc.keep hb) (a := x.at_) (b := x.at_ + 3600) hf.a0 hf.a1
    rwa [hin x hx] at this
theorem ptr_range_new (w : World) (p : Nat) (a b : Int) {W : World} (hW : W = (w.alloc (.cells #[.pointer (some ⟨p, 0, none⟩)] 28)).alloc (.cells #[.int .i64 a, .int .i64 b] 24)) : CapAt W w.heap.size p ∧ RgAt W (w.heap.size + 1) a b ∧ Below w.heap.size w W := by
  subst hW
  have h1 := CapAt.new w p
  have h2 := RgAt.new (w.alloc (.cells #[.pointer (some ⟨p, 0, none⟩)] 28)) a b
  rw [show (w.alloc (.cells #[.pointer (some ⟨p, 0, none⟩)] 28)).heap.size = w.heap.size + 1 by simp] at h2
  exact ⟨h1.keep ((Below.refl _ _).alloc (Nat.le_refl _) _), h2, ((Below.refl _ w).alloc (Nat.le_refl _) _).alloc (by simp) _⟩
theorem CapAt.drew {w : World} {B p : Nat} (h : CapAt w B p) : CapAt w.drew B p := h
/-- a range beside a stock is none of its blocks -/
theorem TSit.nR {w : World} {R p sp : Nat} {v vm vl : Value} {s : Stk} {a b : Int} (h : TSit w p sp v vm vl s) (hc : RgAt w R a b) : ¬ TBlk p sp v vm vl R := by
  rintro (e | (e | e) | e | e)
  · subst e
    have h1 := h.at_
    unfold RgAt at hc
    rw [hc] at h1
    injection h1 with h1
    injection h1 with h1 h2
    revert h2; decide
  · subst e
    have h1 := h.ser.at_
    unfold RgAt at hc
    rw [hc] at h1
    injection h1 with h1
    injection h1 with h1 h2
    revert h2; decide
  · exact row_ne hc h.ser.row (by decide) e
  · exact row_ne hc h.mid (by decide) e
  · exact row_ne hc h.long (by decide) e
theorem TSit.nRs {w : World} {R p sp : Nat} {v vm vl : Value} {s : Stk} {a b : Int} (h : TSit w p sp v vm vl s) (hc : RgAt w R a b) : ¬ SBlk sp v R := fun e => h.nR hc (.inr (.inl e))
theorem TSit.nBs {w : World} {B p sp : Nat} {v vm vl : Value} {s : Stk} (h : TSit w p sp v vm vl s) (hc : CapAt w B p) : ¬ SBlk sp v B := fun e => h.nB hc (.inr (.inl e))
theorem purge_cut {w w' : World} {p sp : Nat} {v vm vl : Value} {s : Stk} {a b : Int} (h : TSit w p sp v vm vl s) (hs : ∃ v', SerV w' sp v' (cutL s.raw a b) ∧ v'.ownBlock = v.ownBlock) (ho : Only (SBlk sp v) w.drew w') : Turned w.drew w' p sp v vm vl ⟨cutL s.raw a b, s.mid, s.long, s.mm, s.ml⟩ := by
  obtain ⟨v', h1, h2⟩ := hs
  exact h.drew.series ho h1 (fun k hk => .inl (by rw [← h2]; exact hk)) (good_cut h.good a b)
theorem purge_held {w w' : World} {B p sp : Nat} {v vm vl : Value} {s : Stk} {a b : Int} (h : TSit w p sp v vm vl s) (hc : CapAt w B p) (hr : RgAt w (B + 1) a b) (ho : Only (SBlk sp v) w.drew w') : w'.cell? ⟨B, 0, none⟩ = some (.pointer (some ⟨p, 0, none⟩)) ∧ w'.cell? ⟨p, 0, none⟩ = some (.pointer (some ⟨sp, 0, none⟩)) ∧ w'.cell? ⟨B + 1, 0, none⟩ = some (.int .i64 a) ∧ w'.cell? ⟨B + 1, 1, none⟩ = some (.int .i64 b) := by
  have h1 := hc.drew.only ho (h.drew.nBs hc.drew)
  have h2 := hr.drew.only ho (h.drew.nRs hr.drew)
  exact ⟨h1.cell, (World.cell?_of_block (a := ⟨p, 0, none⟩) (ho.block p (lt_of_block h.drew.at_) h.np)).trans h.cells.c0, h2.cells.1, h2.cells.2.1⟩
set_option maxHeartbeats 8000000 in
set_option maxRecDepth 100000 in
theorem tipurge_any {w : World} {p sp : Nat} {v vm vl : Value} {s : Stk} (h : TSit w p sp v vm vl s) (a b : Int) :
    Calls Try.prog 13 #[.pointer (some ⟨p, 0, none⟩), .agg #[.int .i64 a, .int .i64 b]] w fun e w' => e = .returned (.int .i64 (goneR s a b)) ∧ Turned w w' p sp v vm vl (purgeT s a b) := by
  have HT := Lib.hid h
  have HRI : Hid (∀ W, Calls Try.prog 8 #[.agg #[.int .i64 a, .int .i64 b]] W fun e w' => e = .returned (.bool (rightT a b)) ∧ Below W.heap.size W w') := Lib.hid fun W => wiright_any W a b
  have HCU : Hid (∀ W, Below w.heap.size w W → Calls Try.prog 28 #[.pointer (some ⟨sp, 0, none⟩), .agg #[.int .i64 a, .int .i64 b]] W fun e w' => e = .returned (.int .i64 ((getL s.raw a b).length : Nat)) ∧ (∃ v', SerV w' sp v' (cutL s.raw a b) ∧ v'.ownBlock = v.ownBlock) ∧ Only (SBlk sp v) W w') := Lib.hid fun W hb => secut_any (h.ser.keep hb) a b
  obtain ⟨c0, -, -, -, -, -, -⟩ := h.cells
  have hplt : p < w.heap.size := cell_lt c0
  clear h
  cases hr : rightT a b with
  | false =>
    have HRE : Hid (goneR s a b = 0 ∧ purgeT s a b = s) := Lib.hid ⟨by unfold goneR; rw [if_neg (by rw [hr]; simp)], by unfold purgeT; rw [if_neg (by rw [hr]; simp)]⟩
    rw [hr] at HRI
    clear hr hplt c0
    go_enter Try.func13, Try.ntmps13
    go_upto_region 1 with fail
    refine wp_name fun W1 hW1 => ?_
    obtain ⟨B, hB⟩ : ∃ B, B = w.heap.size := ⟨_, rfl⟩
    obtain ⟨h1, h2, h3⟩ := ptr_range_new w p a b hW1.out
    rw [← hB] at h1 h2 ⊢
    have HB1 := Lib.hid h3
    have c1 := h1.cell
    obtain ⟨c2, c3, -, -⟩ := h2.cells
    clear hW1 hB h1 h2 h3
    go_wp2_with fail
    refine (HRI.out W1).mono ?_
    rintro e W2 ⟨rfl, hb⟩
    have HB2 := Lib.hid (HB1.out.trans (hb.mono HB1.out.size))
    clear hb c1 c2 c3
    dsimp only
    go_wp2_with fail
    go_ret
    exact ⟨by rw [HRE.out.1]; rfl, by rw [HRE.out.2]; exact Turned.same HT.out HB2.out⟩
  | true =>
    have HAB : Hid (a < b) := Lib.hid (right_lt hr)
    have HRE : Hid (goneR s a b = ((getL s.raw a b).length : Nat) ∧ purgeT s a b = purgeS s a b) := Lib.hid ⟨by unfold goneR goneT; rw [if_pos hr], by unfold purgeT; rw [if_pos hr]⟩
    rw [hr] at HRI
    obtain ⟨n, hn⟩ : ∃ n, n = (getL s.raw a b).length := ⟨_, rfl⟩
    rw [← hn] at HCU HRE
    clear hr hn
    go_enter Try.func13, Try.ntmps13
    go_upto_region 1 with fail
    refine wp_name fun W1 hW1 => ?_
    obtain ⟨B, hB⟩ : ∃ B, B = w.heap.size := ⟨_, rfl⟩
    obtain ⟨h1, h2, h3⟩ := ptr_range_new w p a b hW1.out
    rw [← hB] at h1 h2 ⊢
    have HB1 := Lib.hid h3
    have HC1 := Lib.hid h1
    have HR1 := Lib.hid h2
    have c1 := h1.cell
    obtain ⟨c2, c3, -, -⟩ := h2.cells
    clear hW1 hB h1 h2 h3
    go_wp2_with fail
    refine (HRI.out W1).mono ?_
    rintro e W2 ⟨rfl, hb⟩
    have HB2 := Lib.hid (HB1.out.trans (hb.mono HB1.out.size))
    have HC2 := Lib.hid (HC1.out.keep hb)
    have HR2 := Lib.hid (HR1.out.keep hb)
    have HT2 := Lib.hid (HT.out.keep HB2.out)
    replace c0 := (HB2.out.cell (p := ⟨p, 0, none⟩) hplt).trans c0
    have HC : Hid (W2.cell? ⟨B, 0, none⟩ = some (.pointer (some ⟨p, 0, none⟩)) ∧ W2.cell? ⟨p, 0, none⟩ = some (.pointer (some ⟨sp, 0, none⟩)) ∧ W2.cell? ⟨B + 1, 0, none⟩ = some (.int .i64 a) ∧ W2.cell? ⟨B + 1, 1, none⟩ = some (.int .i64 b)) := Lib.hid ⟨HC2.out.cell, c0, HR2.out.cells.1, HR2.out.cells.2.1⟩
    have HCD : Hid (W2.drew.cell? ⟨B, 0, none⟩ = some (.pointer (some ⟨p, 0, none⟩)) ∧ W2.drew.cell? ⟨p, 0, none⟩ = some (.pointer (some ⟨sp, 0, none⟩)) ∧ W2.drew.cell? ⟨B + 1, 0, none⟩ = some (.int .i64 a) ∧ W2.drew.cell? ⟨B + 1, 1, none⟩ = some (.int .i64 b)) := Lib.hid HC.out
    have HCW := Lib.hid (HCU.out W2.drew (below_drew HB2.out))
    clear hb c1 c2 c3 c0 hplt HC1 HR1 HB1 HCU
    dsimp only
    go_upto_region 3 with fail
    go_region_held3 (fun w' => w'.cell? ⟨B, 0, none⟩ = some (.pointer (some ⟨p, 0, none⟩)) ∧ w'.cell? ⟨p, 0, none⟩ = some (.pointer (some ⟨sp, 0, none⟩)) ∧ w'.cell? ⟨B + 1, 0, none⟩ = some (.int .i64 a) ∧ w'.cell? ⟨B + 1, 1, none⟩ = some (.int .i64 b)) (first | with_reducible exact HC.out | with_reducible exact HCD.out | with_reducible exact HC3.out) ((go_at_call 28; refine (HCW.out).mono ?_; rintro e W3 ⟨rfl, hs3, ho3⟩; have HTU3 := Lib.hid (purge_cut HT2.out hs3 ho3); have HC3 := Lib.hid (purge_held HT2.out HC2.out HR2.out ho3); have HCA3 : Hid (CapAt W3 B p ∧ RgAt W3 (B + 1) a b) := Lib.hid ⟨HC2.out.drew.only ho3 (HT2.out.drew.nBs HC2.out.drew), HR2.out.drew.only ho3 (HT2.out.drew.nRs HR2.out.drew)⟩; clear hs3 ho3))
    obtain ⟨v3, vm3, vl3, x1, x2, x3⟩ := HTU3.out
    have HT3 := Lib.hid x1
    have HX2 := Lib.hid x2
    have HX3 := Lib.hid x3
    have HRM := Lib.hid (tirenM_any x1 HCA3.out.1 HAB.out)
    obtain ⟨b0, -, b1, b2⟩ := HC3.out
    clear x1 x2 x3 HC HCD HCW
    go_wp2_with fail
    refine HRM.out.mono ?_
    rintro e W4 ⟨rfl, ht4⟩
    obtain ⟨v4, vm4, vl4, x1, x2, x3⟩ := ht4
    have HCA4 : Hid (CapAt W4 B p ∧ RgAt W4 (B + 1) a b) := Lib.hid ⟨HCA3.out.1.only x3 (HT3.out.nB HCA3.out.1), HCA3.out.2.only x3 (HT3.out.nR HCA3.out.2)⟩
    have HT4 := Lib.hid x1
    have HY2 := Lib.hid x2
    have HY3 := Lib.hid x3
    have HRL := Lib.hid (tirenL_any x1 HCA4.out.1 HAB.out)
    clear x1 x2 x3 b0 b1 b2 HRM
    have b0 := HCA4.out.1.cell
    obtain ⟨b1, b2, -, -⟩ := HCA4.out.2.cells
    dsimp only
    go_wp2_with fail
    refine HRL.out.mono ?_
    rintro e W5 ⟨rfl, ht5⟩
    have HTU5 := Lib.hid ht5
    clear ht5 b0 b1 b2 HRL
    dsimp only
    go_wp2_with fail
    go_ret
    refine ⟨by rw [HRE.out.1]; rfl, ?_⟩
    rw [HRE.out.2]
    have t5 : Turned W3 W5 p sp v3 vm3 vl3 (purgeS s a b) := Turned.then HT4.out HY2.out HY3.out HTU5.out
    exact Turned.from (below_drew HB2.out) (Turned.then HT3.out HX2.out HX3.out t5)
end Go.Proofs.Ytmpphidiofhnlaa
