/- Package tier: Drop, by a function that is handed in. Written by py/ti-drop.py. -/
import Derived.Test.YthbdchleppbidaaGreatZTiTicksR
import Derived.Test.YthbdchleppbidaaGreatZTiDrop1
import Derived.Test.YthbdchleppbidaaGreatMF
import Derived.Test.YthbdchleppbidaaGreatMT
namespace Go.Proofs.YthbdchleppbidaaGreat
open Go.RowKit

/-- where those of a tier begin -/
def ticksT (s : Stk) (t : Int) : List Int := if t = 0 then s.raw.map Pt.a else if t = 1 then s.mid.map Ag.at_ else if t = 2 then s.long.map Ag.at_ else []
/-- what is left of a stock, where those of a tier that are gone are dropped -/
def dropT (s : Stk) (t : Int) (f : Int → Bool) : Stk := if t = 0 then ⟨s.raw.filter fun q => !f q.a, s.mid, s.long, s.mm, s.ml⟩ else if t = 1 then ⟨s.raw, s.mid.filter fun a => !f a.at_, s.long, s.mm, s.ml⟩ else if t = 2 then ⟨s.raw, s.mid, s.long.filter fun a => !f a.at_, s.mm, s.ml⟩ else s
theorem drop_raw (r : List Pt) (f : Int → Bool) : dropR r ((r.map Pt.a).filter f) = r.filter fun q => !f q.a := by
  unfold dropR
  refine List.filter_congr fun q hq => ?_
  congr 1
  rw [Bool.eq_iff_iff, List.contains_eq_mem, decide_eq_true_eq, List.mem_filter]
  exact ⟨fun h => h.2, fun h => ⟨List.mem_map.2 ⟨q, hq, rfl⟩, h⟩⟩
theorem drop_ags (r : List Ag) (f : Int → Bool) : (r.filter fun a => !((r.map Ag.at_).filter f).contains a.at_) = r.filter fun a => !f a.at_ := by
  refine List.filter_congr fun q hq => ?_
  congr 1
  rw [Bool.eq_iff_iff, List.contains_eq_mem, decide_eq_true_eq, List.mem_filter]
  exact ⟨fun h => h.2, fun h => ⟨List.mem_map.2 ⟨q, hq, rfl⟩, h⟩⟩
theorem ags_rise {w m : Int} {l : List Ag} (h : GoodA w m l) (f : Int → Bool) : ((l.map Ag.at_).filter f).Pairwise (· ≤ ·) := by
  refine List.Pairwise.filter f ?_
  rw [List.pairwise_map]
  exact h.up.imp fun h => Int.le_of_lt h
set_option maxHeartbeats 8000000 in
set_option maxRecDepth 100000 in
theorem tidrop_raw {w : World} {p sp : Nat} {v vm vl : Value} {s : Stk} (h : TSit w p sp v vm vl s) {G : FuncId} {cap : Array Value} {f : Int → Bool} (ha : AskD w G cap 0 (s.raw.map Pt.a) f) :
    Calls Tryz.prog 33 #[.pointer (some ⟨p, 0, none⟩), .int .i64 0, .func (.func G) #[] cap] w fun e w' => e = .returned (.int .i64 ((s.raw.length - (s.raw.filter fun a => !f a.a).length : Nat) : Int)) ∧ Turned w w' p sp v vm vl ⟨s.raw.filter fun q => !f q.a, s.mid, s.long, s.mm, s.ml⟩ := by
  have hlen : (s.raw.map Pt.a).length ≤ 256 := by rw [List.length_map]; exact h.good.plen
  have hbd : ∀ x ∈ s.raw.map Pt.a, 0 ≤ x ∧ x ≤ 1099511627776 := fun x hx => by
    obtain ⟨q, hq, rfl⟩ := List.mem_map.1 hx
    exact h.good.tick q hq
  have HT := Lib.hid h
  have HAS := Lib.hid ha
  obtain ⟨L, hL⟩ : ∃ L, L = s.raw.map Pt.a := ⟨_, rfl⟩
  have HTK : Hid (∀ V, TSit V p sp v vm vl s → Calls Tryz.prog 72 #[.pointer (some ⟨p, 0, none⟩), .int .i64 0] V fun e w' => (∃ u, e = .returned u ∧ IntRow V.heap.size w' u L) ∧ Below V.heap.size V w') := Lib.hid fun V hV => by rw [hL]; exact titicks_raw hV
  have HDL : Hid (∀ V (B : Nat) (u' : Value), TSit V p sp v vm vl s → IntRow B V u' (L.filter f) → Calls Tryz.prog 74 #[.pointer (some ⟨p, 0, none⟩), u'] V fun e w' => e = .returned (.int .i64 ((s.raw.length - (s.raw.filter fun a => !f a.a).length : Nat) : Int)) ∧ Turned V w' p sp v vm vl ⟨s.raw.filter fun q => !f q.a, s.mid, s.long, s.mm, s.ml⟩) := Lib.hid fun V B u' hV hu => by
    have hl2 : (L.filter f).length ≤ 1000000 := by have := List.length_filter_le f L; rw [← hL] at hlen; omega
    have := tidropp_any hV hu hl2 (fun x hx => by rw [hL] at hx; exact hbd x (List.mem_filter.1 hx).1)
    rwa [hL, drop_raw] at this
  obtain ⟨ST, hST⟩ : ∃ ST : Stk, ST = ⟨s.raw.filter fun q => !f q.a, s.mid, s.long, s.mm, s.ml⟩ := ⟨_, rfl⟩
  obtain ⟨NN, hNN⟩ : ∃ NN, NN = ((s.raw.length - (s.raw.filter fun a => !f a.a).length : Nat) : Int) := ⟨_, rfl⟩
  rw [← hL] at hlen hbd HAS
  rw [← hST, ← hNN] at HDL ⊢
  have HBD := Lib.hid hbd
  have HI := Lib.hid (fun V => tiis_any V 0)
  clear h ha hL hST hNN hbd
  go_enter Tryz.func33, Tryz.ntmps33
  go_upto_region 1 with fail
  refine wp_name fun W1 hW1 => ?_
  obtain ⟨Tb, hTb⟩ : ∃ Tb, Tb = w.heap.size := ⟨_, rfl⟩
  have e2 : (w.alloc (.cells #[.int .i64 0] 3)).heap.size = Tb + 1 := by rw [hTb]; simp
  have hb1 : Below w.heap.size w W1 := by rw [hW1.out]; exact ((Below.refl _ _).alloc (Nat.le_refl _) _).alloc (by simp) _
  have HTB1 : Hid (W1.heap[Tb]? = some (.cells #[.int .i64 0] 3 (0, 0))) := Lib.hid (by rw [hW1.out, hTb]; exact (Below.heap_alloc _ _ _ (by simp)).trans (heap_alloc_new w _))
  have HGB1 : Hid (W1.heap[Tb + 1]? = some (.cells #[.func (.func G) #[] cap] 83 (0, 0))) := Lib.hid (by rw [hW1.out, ← e2]; exact heap_alloc_new _ _)
  have HT1 := Lib.hid (HT.out.keep hb1)
  have HB1 := Lib.hid hb1
  rw [← hTb]
  clear hW1 hb1 e2 hTb
  obtain ⟨d0, -⟩ := cells1 HTB1.out
  go_wp2_with fail
  refine (HI.out W1).mono ?_
  rintro e Wx ⟨rfl, hw⟩; replace hw := hw.symm; subst hw
  dsimp only
  go_wp2_with fail
  refine (HTK.out W1 HT1.out).mono ?_
  rintro e W2 ⟨⟨u, rfl, hr2⟩, hb2⟩
  have HR2 := Lib.hid hr2
  have HT2 := Lib.hid (HT1.out.keep hb2)
  have HB2 := Lib.hid (HB1.out.trans (hb2.mono HB1.out.size))
  have HTB2 := Lib.hid (box_keep HTB1.out hb2)
  have HGB2 := Lib.hid (box_keep HGB1.out hb2)
  have HUN : Hid (∀ k, u.ownBlock = some k → w.heap.size ≤ k ∧ k ≠ Tb ∧ k ≠ Tb + 1) := Lib.hid fun k hk => by
    have h1 := (hr2.lt k hk).1
    have h2 := lt_of_block HTB1.out
    have h3 := lt_of_block HGB1.out
    have h4 := HB1.out.size
    omega
  clear hr2 hb2 d0 HT1 HB1 HTB1 HGB1 HTK
  dsimp only
  have HDE : Hid (Calls Tryz.prog 71 #[u, .func (.func 73) #[] #[.pointer (some ⟨Tb + 1, 0, none⟩), .pointer (some ⟨Tb, 0, none⟩)]] W2 fun e w' => (∃ u', e = .returned u' ∧ IntRow W1.heap.size w' u' (L.filter f) ∧ u'.ownBlock = u.ownBlock) ∧ Only (fun k => u.ownBlock = some k) W2 w') := Lib.hid (by
    have h1 := delI_any (F := fun x => !f x) (C := #[.pointer (some ⟨Tb + 1, 0, none⟩), .pointer (some ⟨Tb, 0, none⟩)]) HR2.out (by omega) (enters_of Tryz.func73 (by kernel_rfl) rfl) (fun W hW x hx => by
      have hbW : Below w.heap.size w W := HB2.out.trans (hW.below HB2.out.size (fun k hk => (HUN.out k hk).1))
      have hg : W.heap[Tb + 1]? = some (.cells #[.func (.func G) #[] cap] 83 (0, 0)) := (hW.block _ (lt_of_block HGB2.out) (fun e => (HUN.out _ e).2.2 rfl)).trans HGB2.out
      have ht : W.heap[Tb]? = some (.cells #[.int .i64 0] 3 (0, 0)) := (hW.block _ (lt_of_block HTB2.out) (fun e => (HUN.out _ e).2.1 rfl)).trans HTB2.out
      have hb := HBD.out x hx
      exact tidrop1_any HAS.out (by omega) (by omega) hg ht hbW hx (by omega) (by omega))
    simpa using h1)
  obtain ⟨d0, -⟩ := cells1 HTB2.out
  go_wp2_with fail
  refine HDE.out.mono ?_
  rintro e W3 ⟨⟨u', rfl, hr3, hv3⟩, ho3⟩
  have HR3 := Lib.hid hr3
  have hTb3 : W3.heap[Tb]? = some (.cells #[.int .i64 0] 3 (0, 0)) := (ho3.block _ (lt_of_block HTB2.out) (fun e => (HUN.out _ e).2.1 rfl)).trans HTB2.out
  have HT3 := Lib.hid (HT2.out.only ho3 (fun k hk e => HR2.out.notT HT2.out k e hk))
  have HB3 : Hid (Below w.heap.size w W3) := Lib.hid (HB2.out.trans (ho3.below HB2.out.size (fun k hk => (HUN.out k hk).1)))
  clear hr3 hv3 ho3 d0 HDE HTB2 HGB2 HT2 HB2
  dsimp only
  obtain ⟨d0, -⟩ := cells1 hTb3
  clear hTb3
  have HLL := Lib.hid (HDL.out W3 _ u' HT3.out HR3.out)
  clear HDL
  go_wp2_with fail
  refine HLL.out.mono ?_
  rintro e W4 ⟨rfl, ht4⟩
  have H4 := Lib.hid (Turned.from HB3.out ht4)
  clear ht4 d0
  dsimp only
  go_wp2
  go_ret
  exact ⟨rfl, H4.out⟩
set_option maxHeartbeats 8000000 in
set_option maxRecDepth 100000 in
theorem tidrop_mid {w : World} {p sp : Nat} {v vm vl : Value} {s : Stk} (h : TSit w p sp v vm vl s) {G : FuncId} {cap : Array Value} {f : Int → Bool} (ha : AskD w G cap 1 (s.mid.map Ag.at_) f) :
    Calls Tryz.prog 33 #[.pointer (some ⟨p, 0, none⟩), .int .i64 1, .func (.func G) #[] cap] w fun e w' => e = .returned (.int .i64 ((s.mid.length - (s.mid.filter fun a => !f a.at_).length : Nat) : Int)) ∧ Turned w w' p sp v vm vl ⟨s.raw, s.mid.filter fun a => !f a.at_, s.long, s.mm, s.ml⟩ := by
  have hlen : (s.mid.map Ag.at_).length ≤ 256 := by rw [List.length_map]; exact h.good.mid.len
  have hbd : ∀ x ∈ s.mid.map Ag.at_, 0 ≤ x ∧ x ≤ 1099511631376 := fun x hx => by
    obtain ⟨q, hq, rfl⟩ := List.mem_map.1 hx
    have h1 := h.good.mid.beg q hq; have h2 := h.good.mm; have h3 := h.good.ml; omega
  have HT := Lib.hid h
  have HAS := Lib.hid ha
  obtain ⟨L, hL⟩ : ∃ L, L = s.mid.map Ag.at_ := ⟨_, rfl⟩
  have HTK : Hid (∀ V, TSit V p sp v vm vl s → Calls Tryz.prog 72 #[.pointer (some ⟨p, 0, none⟩), .int .i64 1] V fun e w' => (∃ u, e = .returned u ∧ IntRow V.heap.size w' u L) ∧ Below V.heap.size V w') := Lib.hid fun V hV => by rw [hL]; exact titicks_mid hV
  have HDL : Hid (∀ V (B : Nat) (u' : Value), TSit V p sp v vm vl s → IntRow B V u' (L.filter f) → Calls Tryz.prog 75 #[.pointer (some ⟨p, 0, none⟩), .int .i64 1, u'] V fun e w' => e = .returned (.int .i64 ((s.mid.length - (s.mid.filter fun a => !f a.at_).length : Nat) : Int)) ∧ Turned V w' p sp v vm vl ⟨s.raw, s.mid.filter fun a => !f a.at_, s.long, s.mm, s.ml⟩) := Lib.hid fun V B u' hV hu => by
    have hl2 : (L.filter f).length ≤ 1000000 := by have := List.length_filter_le f L; rw [← hL] at hlen; omega
    have := tidropa_mid hV hu hl2 (by rw [hL]; exact ags_rise hV.good.mid f)
    rwa [hL, drop_ags] at this
  obtain ⟨ST, hST⟩ : ∃ ST : Stk, ST = ⟨s.raw, s.mid.filter fun a => !f a.at_, s.long, s.mm, s.ml⟩ := ⟨_, rfl⟩
  obtain ⟨NN, hNN⟩ : ∃ NN, NN = ((s.mid.length - (s.mid.filter fun a => !f a.at_).length : Nat) : Int) := ⟨_, rfl⟩
  rw [← hL] at hlen hbd HAS
  rw [← hST, ← hNN] at HDL ⊢
  have HBD := Lib.hid hbd
  have HI := Lib.hid (fun V => tiis_any V 1)
  clear h ha hL hST hNN hbd
  go_enter Tryz.func33, Tryz.ntmps33
  go_upto_region 1 with fail
  refine wp_name fun W1 hW1 => ?_
  obtain ⟨Tb, hTb⟩ : ∃ Tb, Tb = w.heap.size := ⟨_, rfl⟩
  have e2 : (w.alloc (.cells #[.int .i64 1] 3)).heap.size = Tb + 1 := by rw [hTb]; simp
  have hb1 : Below w.heap.size w W1 := by rw [hW1.out]; exact ((Below.refl _ _).alloc (Nat.le_refl _) _).alloc (by simp) _
  have HTB1 : Hid (W1.heap[Tb]? = some (.cells #[.int .i64 1] 3 (0, 0))) := Lib.hid (by rw [hW1.out, hTb]; exact (Below.heap_alloc _ _ _ (by simp)).trans (heap_alloc_new w _))
  have HGB1 : Hid (W1.heap[Tb + 1]? = some (.cells #[.func (.func G) #[] cap] 83 (0, 0))) := Lib.hid (by rw [hW1.out, ← e2]; exact heap_alloc_new _ _)
  have HT1 := Lib.hid (HT.out.keep hb1)
  have HB1 := Lib.hid hb1
  rw [← hTb]
  clear hW1 hb1 e2 hTb
  obtain ⟨d0, -⟩ := cells1 HTB1.out
  go_wp2_with fail
  refine (HI.out W1).mono ?_
  rintro e Wx ⟨rfl, hw⟩; replace hw := hw.symm; subst hw
  dsimp only
  go_wp2_with fail
  refine (HTK.out W1 HT1.out).mono ?_
  rintro e W2 ⟨⟨u, rfl, hr2⟩, hb2⟩
  have HR2 := Lib.hid hr2
  have HT2 := Lib.hid (HT1.out.keep hb2)
  have HB2 := Lib.hid (HB1.out.trans (hb2.mono HB1.out.size))
  have HTB2 := Lib.hid (box_keep HTB1.out hb2)
  have HGB2 := Lib.hid (box_keep HGB1.out hb2)
  have HUN : Hid (∀ k, u.ownBlock = some k → w.heap.size ≤ k ∧ k ≠ Tb ∧ k ≠ Tb + 1) := Lib.hid fun k hk => by
    have h1 := (hr2.lt k hk).1
    have h2 := lt_of_block HTB1.out
    have h3 := lt_of_block HGB1.out
    have h4 := HB1.out.size
    omega
  clear hr2 hb2 d0 HT1 HB1 HTB1 HGB1 HTK
  dsimp only
  have HDE : Hid (Calls Tryz.prog 71 #[u, .func (.func 73) #[] #[.pointer (some ⟨Tb + 1, 0, none⟩), .pointer (some ⟨Tb, 0, none⟩)]] W2 fun e w' => (∃ u', e = .returned u' ∧ IntRow W1.heap.size w' u' (L.filter f) ∧ u'.ownBlock = u.ownBlock) ∧ Only (fun k => u.ownBlock = some k) W2 w') := Lib.hid (by
    have h1 := delI_any (F := fun x => !f x) (C := #[.pointer (some ⟨Tb + 1, 0, none⟩), .pointer (some ⟨Tb, 0, none⟩)]) HR2.out (by omega) (enters_of Tryz.func73 (by kernel_rfl) rfl) (fun W hW x hx => by
      have hbW : Below w.heap.size w W := HB2.out.trans (hW.below HB2.out.size (fun k hk => (HUN.out k hk).1))
      have hg : W.heap[Tb + 1]? = some (.cells #[.func (.func G) #[] cap] 83 (0, 0)) := (hW.block _ (lt_of_block HGB2.out) (fun e => (HUN.out _ e).2.2 rfl)).trans HGB2.out
      have ht : W.heap[Tb]? = some (.cells #[.int .i64 1] 3 (0, 0)) := (hW.block _ (lt_of_block HTB2.out) (fun e => (HUN.out _ e).2.1 rfl)).trans HTB2.out
      have hb := HBD.out x hx
      exact tidrop1_any HAS.out (by omega) (by omega) hg ht hbW hx (by omega) (by omega))
    simpa using h1)
  obtain ⟨d0, -⟩ := cells1 HTB2.out
  go_wp2_with fail
  refine HDE.out.mono ?_
  rintro e W3 ⟨⟨u', rfl, hr3, hv3⟩, ho3⟩
  have HR3 := Lib.hid hr3
  have hTb3 : W3.heap[Tb]? = some (.cells #[.int .i64 1] 3 (0, 0)) := (ho3.block _ (lt_of_block HTB2.out) (fun e => (HUN.out _ e).2.1 rfl)).trans HTB2.out
  have HT3 := Lib.hid (HT2.out.only ho3 (fun k hk e => HR2.out.notT HT2.out k e hk))
  have HB3 : Hid (Below w.heap.size w W3) := Lib.hid (HB2.out.trans (ho3.below HB2.out.size (fun k hk => (HUN.out k hk).1)))
  clear hr3 hv3 ho3 d0 HDE HTB2 HGB2 HT2 HB2
  dsimp only
  obtain ⟨d0, -⟩ := cells1 hTb3
  clear hTb3
  have HLL := Lib.hid (HDL.out W3 _ u' HT3.out HR3.out)
  clear HDL
  go_wp2_with fail
  refine HLL.out.mono ?_
  rintro e W4 ⟨rfl, ht4⟩
  have H4 := Lib.hid (Turned.from HB3.out ht4)
  clear ht4 d0
  dsimp only
  go_wp2
  go_ret
  exact ⟨rfl, H4.out⟩
set_option maxHeartbeats 8000000 in
set_option maxRecDepth 100000 in
theorem tidrop_long {w : World} {p sp : Nat} {v vm vl : Value} {s : Stk} (h : TSit w p sp v vm vl s) {G : FuncId} {cap : Array Value} {f : Int → Bool} (ha : AskD w G cap 2 (s.long.map Ag.at_) f) :
    Calls Tryz.prog 33 #[.pointer (some ⟨p, 0, none⟩), .int .i64 2, .func (.func G) #[] cap] w fun e w' => e = .returned (.int .i64 ((s.long.length - (s.long.filter fun a => !f a.at_).length : Nat) : Int)) ∧ Turned w w' p sp v vm vl ⟨s.raw, s.mid, s.long.filter fun a => !f a.at_, s.mm, s.ml⟩ := by
  have hlen : (s.long.map Ag.at_).length ≤ 256 := by rw [List.length_map]; exact h.good.long.len
  have hbd : ∀ x ∈ s.long.map Ag.at_, 0 ≤ x ∧ x ≤ 1099511631376 := fun x hx => by
    obtain ⟨q, hq, rfl⟩ := List.mem_map.1 hx
    have h1 := h.good.long.beg q hq; have h2 := h.good.mm; have h3 := h.good.ml; omega
  have HT := Lib.hid h
  have HAS := Lib.hid ha
  obtain ⟨L, hL⟩ : ∃ L, L = s.long.map Ag.at_ := ⟨_, rfl⟩
  have HTK : Hid (∀ V, TSit V p sp v vm vl s → Calls Tryz.prog 72 #[.pointer (some ⟨p, 0, none⟩), .int .i64 2] V fun e w' => (∃ u, e = .returned u ∧ IntRow V.heap.size w' u L) ∧ Below V.heap.size V w') := Lib.hid fun V hV => by rw [hL]; exact titicks_long hV
  have HDL : Hid (∀ V (B : Nat) (u' : Value), TSit V p sp v vm vl s → IntRow B V u' (L.filter f) → Calls Tryz.prog 75 #[.pointer (some ⟨p, 0, none⟩), .int .i64 2, u'] V fun e w' => e = .returned (.int .i64 ((s.long.length - (s.long.filter fun a => !f a.at_).length : Nat) : Int)) ∧ Turned V w' p sp v vm vl ⟨s.raw, s.mid, s.long.filter fun a => !f a.at_, s.mm, s.ml⟩) := Lib.hid fun V B u' hV hu => by
    have hl2 : (L.filter f).length ≤ 1000000 := by have := List.length_filter_le f L; rw [← hL] at hlen; omega
    have := tidropa_long hV hu hl2 (by rw [hL]; exact ags_rise hV.good.long f)
    rwa [hL, drop_ags] at this
  obtain ⟨ST, hST⟩ : ∃ ST : Stk, ST = ⟨s.raw, s.mid, s.long.filter fun a => !f a.at_, s.mm, s.ml⟩ := ⟨_, rfl⟩
  obtain ⟨NN, hNN⟩ : ∃ NN, NN = ((s.long.length - (s.long.filter fun a => !f a.at_).length : Nat) : Int) := ⟨_, rfl⟩
  rw [← hL] at hlen hbd HAS
  rw [← hST, ← hNN] at HDL ⊢
  have HBD := Lib.hid hbd
  have HI := Lib.hid (fun V => tiis_any V 2)
  clear h ha hL hST hNN hbd
  go_enter Tryz.func33, Tryz.ntmps33
  go_upto_region 1 with fail
  refine wp_name fun W1 hW1 => ?_
  obtain ⟨Tb, hTb⟩ : ∃ Tb, Tb = w.heap.size := ⟨_, rfl⟩
  have e2 : (w.alloc (.cells #[.int .i64 2] 3)).heap.size = Tb + 1 := by rw [hTb]; simp
  have hb1 : Below w.heap.size w W1 := by rw [hW1.out]; exact ((Below.refl _ _).alloc (Nat.le_refl _) _).alloc (by simp) _
  have HTB1 : Hid (W1.heap[Tb]? = some (.cells #[.int .i64 2] 3 (0, 0))) := Lib.hid (by rw [hW1.out, hTb]; exact (Below.heap_alloc _ _ _ (by simp)).trans (heap_alloc_new w _))
  have HGB1 : Hid (W1.heap[Tb + 1]? = some (.cells #[.func (.func G) #[] cap] 83 (0, 0))) := Lib.hid (by rw [hW1.out, ← e2]; exact heap_alloc_new _ _)
  have HT1 := Lib.hid (HT.out.keep hb1)
  have HB1 := Lib.hid hb1
  rw [← hTb]
  clear hW1 hb1 e2 hTb
  obtain ⟨d0, -⟩ := cells1 HTB1.out
  go_wp2_with fail
  refine (HI.out W1).mono ?_
  rintro e Wx ⟨rfl, hw⟩; replace hw := hw.symm; subst hw
  dsimp only
  go_wp2_with fail
  refine (HTK.out W1 HT1.out).mono ?_
  rintro e W2 ⟨⟨u, rfl, hr2⟩, hb2⟩
  have HR2 := Lib.hid hr2
  have HT2 := Lib.hid (HT1.out.keep hb2)
  have HB2 := Lib.hid (HB1.out.trans (hb2.mono HB1.out.size))
  have HTB2 := Lib.hid (box_keep HTB1.out hb2)
  have HGB2 := Lib.hid (box_keep HGB1.out hb2)
  have HUN : Hid (∀ k, u.ownBlock = some k → w.heap.size ≤ k ∧ k ≠ Tb ∧ k ≠ Tb + 1) := Lib.hid fun k hk => by
    have h1 := (hr2.lt k hk).1
    have h2 := lt_of_block HTB1.out
    have h3 := lt_of_block HGB1.out
    have h4 := HB1.out.size
    omega
  clear hr2 hb2 d0 HT1 HB1 HTB1 HGB1 HTK
  dsimp only
  have HDE : Hid (Calls Tryz.prog 71 #[u, .func (.func 73) #[] #[.pointer (some ⟨Tb + 1, 0, none⟩), .pointer (some ⟨Tb, 0, none⟩)]] W2 fun e w' => (∃ u', e = .returned u' ∧ IntRow W1.heap.size w' u' (L.filter f) ∧ u'.ownBlock = u.ownBlock) ∧ Only (fun k => u.ownBlock = some k) W2 w') := Lib.hid (by
    have h1 := delI_any (F := fun x => !f x) (C := #[.pointer (some ⟨Tb + 1, 0, none⟩), .pointer (some ⟨Tb, 0, none⟩)]) HR2.out (by omega) (enters_of Tryz.func73 (by kernel_rfl) rfl) (fun W hW x hx => by
      have hbW : Below w.heap.size w W := HB2.out.trans (hW.below HB2.out.size (fun k hk => (HUN.out k hk).1))
      have hg : W.heap[Tb + 1]? = some (.cells #[.func (.func G) #[] cap] 83 (0, 0)) := (hW.block _ (lt_of_block HGB2.out) (fun e => (HUN.out _ e).2.2 rfl)).trans HGB2.out
      have ht : W.heap[Tb]? = some (.cells #[.int .i64 2] 3 (0, 0)) := (hW.block _ (lt_of_block HTB2.out) (fun e => (HUN.out _ e).2.1 rfl)).trans HTB2.out
      have hb := HBD.out x hx
      exact tidrop1_any HAS.out (by omega) (by omega) hg ht hbW hx (by omega) (by omega))
    simpa using h1)
  obtain ⟨d0, -⟩ := cells1 HTB2.out
  go_wp2_with fail
  refine HDE.out.mono ?_
  rintro e W3 ⟨⟨u', rfl, hr3, hv3⟩, ho3⟩
  have HR3 := Lib.hid hr3
  have hTb3 : W3.heap[Tb]? = some (.cells #[.int .i64 2] 3 (0, 0)) := (ho3.block _ (lt_of_block HTB2.out) (fun e => (HUN.out _ e).2.1 rfl)).trans HTB2.out
  have HT3 := Lib.hid (HT2.out.only ho3 (fun k hk e => HR2.out.notT HT2.out k e hk))
  have HB3 : Hid (Below w.heap.size w W3) := Lib.hid (HB2.out.trans (ho3.below HB2.out.size (fun k hk => (HUN.out k hk).1)))
  clear hr3 hv3 ho3 d0 HDE HTB2 HGB2 HT2 HB2
  dsimp only
  obtain ⟨d0, -⟩ := cells1 hTb3
  clear hTb3
  have HLL := Lib.hid (HDL.out W3 _ u' HT3.out HR3.out)
  clear HDL
  go_wp2_with fail
  refine HLL.out.mono ?_
  rintro e W4 ⟨rfl, ht4⟩
  have H4 := Lib.hid (Turned.from HB3.out ht4)
  clear ht4 d0
  dsimp only
  go_wp2
  go_ret
  exact ⟨rfl, H4.out⟩
end Go.Proofs.YthbdchleppbidaaGreat
