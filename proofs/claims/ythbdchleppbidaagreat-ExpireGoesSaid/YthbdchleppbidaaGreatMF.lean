/- BinI, TiDropA, TiDropP: laid into one. -/
import Derived.Test.YthbdchleppbidaaGreatZIntRow
import Derived.Shelf.SlicesG.SearchI
import Derived.Handy
import Derived.Test.YthbdchleppbidaaGreatZTiTicks
import Derived.Test.YthbdchleppbidaaGreatMV
import Derived.Test.YthbdchleppbidaaGreatMD
import Derived.Test.YthbdchleppbidaaGreatMW
import Derived.IntWalk
/- slices.BinarySearch in a row of numbers: the library's own contract, laid at this program. -/
namespace Go.Proofs.YthbdchleppbidaaGreat
open Go.RowKit Go.Shelf

/-- the numbers of BinarySearch's family here -/
def ren49 : Shelf.Ren := {
  f := (fun x => match x with
    | 49 => 110
    | 59 => 126
    | 60 => 127
    | 68 => 138
    | n => n)
  t := (fun x => match x with
    | 0 => 0
    | 3 => 3
    | 4 => 4
    | 22 => 51
    | 23 => 2
    | 51 => 164
    | n => n)
  g := fun x => x }
theorem lays49 : SlLaysN.n49 Tryz.prog ren49 := {
  mixed := rfl
  f49 := ⟨ Tryz.f110.name, by kernel_rfl, Tryz.func110.trans (congrArg some (by kernel_rfl))⟩
  f59 := ⟨ Tryz.f126.name, by kernel_rfl, Tryz.func126.trans (congrArg some (by kernel_rfl))⟩
  f60 := ⟨ Tryz.f127.name, by kernel_rfl, Tryz.func127.trans (congrArg some (by kernel_rfl))⟩
  f68 := ⟨ Tryz.f138.name, by kernel_rfl, Tryz.func138.trans (congrArg some (by kernel_rfl))⟩
  t0 := Tryz.underlying0
  a0 := Tryz.isAgg0
  z0 := Tryz.sizeOf0
  v0 := Tryz.zeroValue0
  t3 := Tryz.underlying3
  a3 := Tryz.isAgg3
  z3 := Tryz.sizeOf3
  v3 := Tryz.zeroValue3
  t4 := Tryz.underlying4
  a4 := Tryz.isAgg4
  z4 := Tryz.sizeOf4
  v4 := Tryz.zeroValue4
  t22 := Tryz.underlying51
  a22 := Tryz.isAgg51
  z22 := Tryz.sizeOf51
  v22 := Tryz.zeroValue51
  t23 := Tryz.underlying2
  a23 := Tryz.isAgg2
  z23 := Tryz.sizeOf2
  v23 := Tryz.zeroValue2
  t51 := Tryz.underlying164
  a51 := Tryz.isAgg164
  z51 := Tryz.sizeOf164
  v51 := Tryz.zeroValue164
}
/-- is a number in a row that rises? -/
theorem binI_any {B : Nat} {w : World} {u : Value} {L : List Int} (h : IntRow B w u L) (hn : L.length ≤ 1000000) (hs : L.Pairwise (· ≤ ·)) (x : Int) :
    Calls Tryz.prog 110 #[u, .int .i64 x] w fun e w' => (∃ n : Int, e = .returned (.tuple #[.int .i64 n, .bool (L.contains x)])) ∧ Below w.heap.size w w' := by
  rcases h.opened with ⟨rfl, rfl⟩ | ⟨g, cap, R, rfl, _, hg, _⟩
  · clear h
    go_enter Tryz.func110, Tryz.ntmps110
    go_wp2_with fail
    go_rounds 1
    go_ret2
    exact ⟨⟨_, rfl⟩, Below.refl _ _⟩
  · refine (AnyG.slices_BinarySearch_int lays49 g 0 L.length cap L x w (Nat.le_refl _) (by omega) (fun j hj => ?_) (by rw [List.take_length]; exact hs)).mono ?_
    · rw [Nat.zero_add]
      refine hg.cell ?_
      rw [List.getElem?_append_left (by simpa using hj), List.getElem?_map, List.getElem?_eq_getElem hj]
      simp [List.getD, List.getElem?_eq_getElem hj]
    · rintro e w' ⟨rfl, q, rfl⟩
      rw [List.take_length]
      exact ⟨⟨_, rfl⟩, rfl, rfl, rfl, by rw [drewN_heap]; exact Nat.le_refl _, fun k _ => by rw [drewN_heap]⟩
end Go.Proofs.YthbdchleppbidaaGreat
/- Package tier: aggregates dropped. Written by py/ti-dropa.py. -/
namespace Go.Proofs.YthbdchleppbidaaGreat
open Go.RowKit

theorem GoodA.filter {w m : Int} {l : List Ag} (h : GoodA w m l) (p : Ag → Bool) : GoodA w m (l.filter p) :=
  ⟨fun t ht => h.right t ((List.mem_filter.1 ht).1), fun t ht => h.fits t ((List.mem_filter.1 ht).1), fun t ht => h.beg t ((List.mem_filter.1 ht).1), h.up.filter p, Nat.le_trans (List.length_filter_le _ _) h.len⟩
set_option maxHeartbeats 4000000 in
theorem tidropa1_any {W : World} {B Kb : Nat} {u : Value} {L : List Int} (hk : W.heap[Kb]? = some (.cells #[u] 51 (0, 0))) (hu : IntRow B W u L) (hn : L.length ≤ 1000000) (hs : L.Pairwise (· ≤ ·)) (x : Ag) :
    Calls Tryz.prog 109 #[.agg #[.int .i64 x.at_, .int .i64 x.n, .int .i64 x.s, .int .i64 x.lo, .int .i64 x.hi], .pointer (some ⟨Kb, 0, none⟩)] W fun e w' => e = .returned (.bool (L.contains x.at_)) ∧ Below W.heap.size W w' := by
  have HBI : Hid (∀ V, Below W.heap.size W V → Calls Tryz.prog 110 #[u, .int .i64 x.at_] V fun e w' => (∃ n : Int, e = .returned (.tuple #[.int .i64 n, .bool (L.contains x.at_)])) ∧ Below V.heap.size V w') := Lib.hid fun V hV => binI_any (hu.keep hV) hn hs x.at_
  have HK := Lib.hid hk
  obtain ⟨R, hR⟩ : ∃ R, R = L.contains x.at_ := ⟨_, rfl⟩
  rw [← hR] at HBI ⊢
  clear hR hu hs hk
  go_enter Tryz.func109, Tryz.ntmps109
  go_upto_region 1 with fail
  refine wp_name fun W1 hW1 => ?_
  obtain ⟨M, hM⟩ : ∃ M, M = W.heap.size := ⟨_, rfl⟩
  have hb1 : Below W.heap.size W W1 := by rw [hW1.out]; exact (Below.refl _ _).alloc (Nat.le_refl _) _
  have HA1 : Hid (AgAt W1 M x) := Lib.hid (by rw [hW1.out, hM]; exact AgAt.new W x)
  have HB1 := Lib.hid hb1
  have hk1 : W1.cell? ⟨Kb, 0, none⟩ = some u := (cells1 ((hb1.block Kb (lt_of_block HK.out)).trans HK.out)).1
  rw [← hM]
  obtain ⟨c0, -, -, -, -, -, -, -, -, -⟩ := HA1.out.cells
  clear hW1 hb1 hM
  go_wp2_with fail
  refine (HBI.out W1 HB1.out).mono ?_
  rintro e W2 ⟨⟨n, rfl⟩, hb⟩
  have HB2 := Lib.hid (HB1.out.trans (hb.mono HB1.out.size))
  clear hb
  dsimp only
  go_wp2
  go_ret
  exact ⟨rfl, HB2.out⟩
theorem TSit.at_mid {w w1 : World} {p sp : Nat} {v vm vl : Value} {s : Stk} (h : TSit w p sp v vm vl s) (ho : Only (fun k => vm.ownBlock = some k) w w1) : w1.cell? ⟨p, 2, none⟩ = some vm ∧ w1.frozen? ⟨p, 2, none⟩ = false := by
  have hat := (ho.block p (lt_of_block h.at_) (fun e => h.nm e)).trans h.at_
  exact ⟨by simp [World.cell?, hat], by simp [World.frozen?, hat]⟩
theorem TSit.put_mid {w w1 w2 : World} {p sp : Nat} {v vm vl u' : Value} {s : Stk} (h : TSit w p sp v vm vl s) (ho : Only (fun k => vm.ownBlock = some k) w w1) (h2 : w2 = w1.setCell ⟨p, 2, none⟩ u') : w2.cell? ⟨p, 2, none⟩ = some u' := by
  have hat := (ho.block p (lt_of_block h.at_) (fun e => h.nm e)).trans h.at_
  have e2 := heap_setCell_same w1 p 2 _ _ u' hat
  rw [h2]; simp [World.cell?, e2]
/-- a stock with its mid row turned in place -/
theorem TSit.dropped_mid {w w1 w2 : World} {p sp : Nat} {v vm vl u' : Value} {s : Stk} {N : List Ag} (h : TSit w p sp v vm vl s) (ho : Only (fun k => vm.ownBlock = some k) w w1) (h1 : AgRow 0 w1 u' N) (hu : u'.ownBlock = vm.ownBlock) (h2 : w2 = w1.setCell ⟨p, 2, none⟩ u') (hgd : GoodT ⟨s.raw, N, s.long, s.mm, s.ml⟩) : Turned w w2 p sp v vm vl ⟨s.raw, N, s.long, s.mm, s.ml⟩ := by
  have ho2 : Only (fun k => k = p) w1 w2 := by rw [h2]; exact Only.setCell (S := fun k => k = p) w1 rfl _
  have hat := (ho.block p (lt_of_block h.at_) (fun e => h.nm e)).trans h.at_
  have e2 := heap_setCell_same w1 p 2 _ _ u' hat
  have hser : SerV w1 sp v s.raw := h.ser.only ho (fun k hk e => h.nsm k e hk)
  refine ⟨v, u', vl, ⟨?_, hser.only ho2 (fun k hk e => h.np (e ▸ hk)), row_only h1 ho2 (fun k hk e => ?_), row_only (row_only h.long ho (fun k hk e => h.two k e hk)) ho2 (fun k hk e => h.nl (e ▸ hk)), ?_, hgd⟩, fun k hk => ?_, ?_⟩
  · rw [h2, e2]; simp
  · exact h.nm (by rw [← hu, hk, e])
  · exact fun k hk hl => h.two k (by rw [← hu]; exact hk) hl
  · rcases hk with e | e | e | e
    · exact .inl (.inl e)
    · exact .inl (.inr (.inl e))
    · exact .inl (.inr (.inr (.inl (by rw [← hu]; exact e))))
    · exact .inl (.inr (.inr (.inr e)))
  · exact (ho.mono fun k _ hk => .inr (.inr (.inl hk))).trans ho2 (fun k _ hk => .inl hk)
set_option maxHeartbeats 8000000 in
set_option maxRecDepth 100000 in
theorem tidropa_mid {w : World} {B p sp : Nat} {v vm vl u : Value} {s : Stk} {L : List Int} (h : TSit w p sp v vm vl s) (hu : IntRow B w u L) (hn : L.length ≤ 1000000) (hs : L.Pairwise (· ≤ ·)) :
    Calls Tryz.prog 75 #[.pointer (some ⟨p, 0, none⟩), .int .i64 1, u] w fun e w' => e = .returned (.int .i64 ((s.mid.length - (s.mid.filter fun a => !L.contains a.at_).length : Nat) : Int)) ∧ Turned w w' p sp v vm vl ⟨s.raw, s.mid.filter fun a => !L.contains a.at_, s.long, s.mm, s.ml⟩ := by
  obtain ⟨au, cu, eu⟩ := own_slice hu
  subst eu
  have hlen := h.good.mid.len
  have hgd : GoodT ⟨s.raw, s.mid.filter fun a => !L.contains a.at_, s.long, s.mm, s.ml⟩ := ⟨h.good.srt, h.good.tick, h.good.pfits, h.good.plen, h.good.mid.filter _, h.good.long, h.good.mm, h.good.ml⟩
  have HT := Lib.hid h
  have HU := Lib.hid hu
  obtain ⟨-, -, ca, -, -, -, -⟩ := h.cells
  obtain ⟨am, cm, e0⟩ := own_slice h.mid
  have hp := lt_of_block h.at_
  obtain ⟨FL, hFL⟩ : ∃ FL, FL = s.mid.filter fun a => !L.contains a.at_ := ⟨_, rfl⟩
  obtain ⟨N, hN⟩ : ∃ N, N = s.mid.length := ⟨_, rfl⟩
  have HFN : Hid (FL.length ≤ N) := Lib.hid (by rw [hFL, hN]; exact List.length_filter_le _ _)
  have HDE : Hid (∀ V (Kb : Nat), TSit V p sp v vm vl s → IntRow B V (.slice au L.length cu) L → V.heap[Kb]? = some (.cells #[.slice au L.length cu] 51 (0, 0)) → Calls Tryz.prog 108 #[vm, .func (.func 109) #[] #[.pointer (some ⟨Kb, 0, none⟩)]] V fun e w' => (∃ u', e = .returned u' ∧ AgRow 0 w' u' FL ∧ u'.ownBlock = vm.ownBlock) ∧ Only (fun k => vm.ownBlock = some k) V w') := Lib.hid fun V Kb hV hr hk => by
    rw [hFL]
    refine delA_any hV.mid (by omega) (enters_of Tryz.func109 (by kernel_rfl) rfl) (fun W hW x _ => ?_)
    have hkW : W.heap[Kb]? = some (.cells #[.slice au L.length cu] 51 (0, 0)) := (hW.block Kb (lt_of_block hk) (fun e => row_ne hk hV.mid (by decide) e)).trans hk
    have hrW : IntRow B W (.slice au L.length cu) L := hr.only hW (fun k hk e => rows_apart (hr.base (Nat.zero_le _)) hV.mid (by decide) k hk e)
    exact tidropa1_any hkW hrW hn hs x
  rw [← hFL] at hgd ⊢
  rw [← hN] at hlen e0 ⊢
  have HE0 := Lib.hid e0
  rw [e0] at ca
  clear h hu hFL hN e0
  go_enter Tryz.func75, Tryz.ntmps75
  go_upto_region 1 with fail
  refine wp_name fun W1 hW1 => ?_
  obtain ⟨Kb, hK⟩ : ∃ Kb, Kb = w.heap.size := ⟨_, rfl⟩
  have hb1 : Below w.heap.size w W1 := by rw [hW1.out]; exact (Below.refl _ _).alloc (Nat.le_refl _) _
  have HK1 : Hid (W1.heap[Kb]? = some (.cells #[.slice au L.length cu] 51 (0, 0))) := Lib.hid (by rw [hW1.out, hK]; exact heap_alloc_new w _)
  have HT1 := Lib.hid (HT.out.keep hb1)
  have HU1 := Lib.hid (HU.out.keep hb1)
  have HB1 := Lib.hid hb1
  replace ca := (hb1.cell (p := ⟨p, 2, none⟩) hp).trans ca
  rw [← hK]
  clear hW1 hb1 hK hp
  go_upto_region 2 with fail
  have HT2 := Lib.hid HT1.out.drew
  have HDX : Hid (Calls Tryz.prog 108 #[.slice am N cm, .func (.func 109) #[] #[.pointer (some ⟨Kb, 0, none⟩)]] W1.drew fun e w' => (∃ u', e = .returned u' ∧ AgRow 0 w' u' FL ∧ u'.ownBlock = vm.ownBlock) ∧ Only (fun k => vm.ownBlock = some k) W1.drew w') := Lib.hid (by rw [← HE0.out]; exact HDE.out _ Kb HT2.out HU1.out HK1.out)
  clear HDE
  go_region_with (go_at_call 108; refine HDX.out.mono ?_; rintro e W3 ⟨⟨u', rfl, hr3, hv3⟩, ho3⟩; obtain ⟨aa3, cc3, e3⟩ := own_slice hr3; subst e3; have HR3 := Lib.hid hr3; have HV3 := Lib.hid hv3; have HO3 := Lib.hid ho3; obtain ⟨cz, fz⟩ := HT2.out.at_mid ho3; clear hr3 hv3 ho3; dsimp only)
  all_goals generalize hW4 : World.setCell _ _ _ = W4
  all_goals have HTR := Lib.hid (Turned.from (below_drew HB1.out) (HT2.out.dropped_mid HO3.out HR3.out HV3.out hW4.symm hgd))
  all_goals have cy := HT2.out.put_mid HO3.out hW4.symm
  all_goals clear hW4 cz fz ca hgd HR3
  all_goals go_wp2
  all_goals go_ret
  all_goals exact ⟨ret_i64 (by have := HFN.out; unfold wrap64; omega), HTR.out⟩
theorem TSit.at_long {w w1 : World} {p sp : Nat} {v vm vl : Value} {s : Stk} (h : TSit w p sp v vm vl s) (ho : Only (fun k => vl.ownBlock = some k) w w1) : w1.cell? ⟨p, 3, none⟩ = some vl ∧ w1.frozen? ⟨p, 3, none⟩ = false := by
  have hat := (ho.block p (lt_of_block h.at_) (fun e => h.nl e)).trans h.at_
  exact ⟨by simp [World.cell?, hat], by simp [World.frozen?, hat]⟩
theorem TSit.put_long {w w1 w2 : World} {p sp : Nat} {v vm vl u' : Value} {s : Stk} (h : TSit w p sp v vm vl s) (ho : Only (fun k => vl.ownBlock = some k) w w1) (h2 : w2 = w1.setCell ⟨p, 3, none⟩ u') : w2.cell? ⟨p, 3, none⟩ = some u' := by
  have hat := (ho.block p (lt_of_block h.at_) (fun e => h.nl e)).trans h.at_
  have e2 := heap_setCell_same w1 p 3 _ _ u' hat
  rw [h2]; simp [World.cell?, e2]
/-- a stock with its long row turned in place -/
theorem TSit.dropped_long {w w1 w2 : World} {p sp : Nat} {v vm vl u' : Value} {s : Stk} {N : List Ag} (h : TSit w p sp v vm vl s) (ho : Only (fun k => vl.ownBlock = some k) w w1) (h1 : AgRow 0 w1 u' N) (hu : u'.ownBlock = vl.ownBlock) (h2 : w2 = w1.setCell ⟨p, 3, none⟩ u') (hgd : GoodT ⟨s.raw, s.mid, N, s.mm, s.ml⟩) : Turned w w2 p sp v vm vl ⟨s.raw, s.mid, N, s.mm, s.ml⟩ := by
  have ho2 : Only (fun k => k = p) w1 w2 := by rw [h2]; exact Only.setCell (S := fun k => k = p) w1 rfl _
  have hat := (ho.block p (lt_of_block h.at_) (fun e => h.nl e)).trans h.at_
  have e2 := heap_setCell_same w1 p 3 _ _ u' hat
  have hser : SerV w1 sp v s.raw := h.ser.only ho (fun k hk e => h.nsl k e hk)
  refine ⟨v, vm, u', ⟨?_, hser.only ho2 (fun k hk e => h.np (e ▸ hk)), row_only (row_only h.mid ho (fun k hk e => h.two k hk e)) ho2 (fun k hk e => h.nm (e ▸ hk)), row_only h1 ho2 (fun k hk e => ?_), ?_, hgd⟩, fun k hk => ?_, ?_⟩
  · rw [h2, e2]; simp
  · exact h.nl (by rw [← hu, hk, e])
  · exact fun k hk hl => h.two k hk (by rw [← hu]; exact hl)
  · rcases hk with e | e | e | e
    · exact .inl (.inl e)
    · exact .inl (.inr (.inl e))
    · exact .inl (.inr (.inr (.inl e)))
    · exact .inl (.inr (.inr (.inr (by rw [← hu]; exact e))))
  · exact (ho.mono fun k _ hk => .inr (.inr (.inr hk))).trans ho2 (fun k _ hk => .inl hk)
set_option maxHeartbeats 8000000 in
set_option maxRecDepth 100000 in
theorem tidropa_long {w : World} {B p sp : Nat} {v vm vl u : Value} {s : Stk} {L : List Int} (h : TSit w p sp v vm vl s) (hu : IntRow B w u L) (hn : L.length ≤ 1000000) (hs : L.Pairwise (· ≤ ·)) :
    Calls Tryz.prog 75 #[.pointer (some ⟨p, 0, none⟩), .int .i64 2, u] w fun e w' => e = .returned (.int .i64 ((s.long.length - (s.long.filter fun a => !L.contains a.at_).length : Nat) : Int)) ∧ Turned w w' p sp v vm vl ⟨s.raw, s.mid, s.long.filter fun a => !L.contains a.at_, s.mm, s.ml⟩ := by
  obtain ⟨au, cu, eu⟩ := own_slice hu
  subst eu
  have hlen := h.good.long.len
  have hgd : GoodT ⟨s.raw, s.mid, s.long.filter fun a => !L.contains a.at_, s.mm, s.ml⟩ := ⟨h.good.srt, h.good.tick, h.good.pfits, h.good.plen, h.good.mid, h.good.long.filter _, h.good.mm, h.good.ml⟩
  have HT := Lib.hid h
  have HU := Lib.hid hu
  obtain ⟨-, -, -, ca, -, -, -⟩ := h.cells
  obtain ⟨am, cm, e0⟩ := own_slice h.long
  have hp := lt_of_block h.at_
  obtain ⟨FL, hFL⟩ : ∃ FL, FL = s.long.filter fun a => !L.contains a.at_ := ⟨_, rfl⟩
  obtain ⟨N, hN⟩ : ∃ N, N = s.long.length := ⟨_, rfl⟩
  have HFN : Hid (FL.length ≤ N) := Lib.hid (by rw [hFL, hN]; exact List.length_filter_le _ _)
  have HDE : Hid (∀ V (Kb : Nat), TSit V p sp v vm vl s → IntRow B V (.slice au L.length cu) L → V.heap[Kb]? = some (.cells #[.slice au L.length cu] 51 (0, 0)) → Calls Tryz.prog 108 #[vl, .func (.func 109) #[] #[.pointer (some ⟨Kb, 0, none⟩)]] V fun e w' => (∃ u', e = .returned u' ∧ AgRow 0 w' u' FL ∧ u'.ownBlock = vl.ownBlock) ∧ Only (fun k => vl.ownBlock = some k) V w') := Lib.hid fun V Kb hV hr hk => by
    rw [hFL]
    refine delA_any hV.long (by omega) (enters_of Tryz.func109 (by kernel_rfl) rfl) (fun W hW x _ => ?_)
    have hkW : W.heap[Kb]? = some (.cells #[.slice au L.length cu] 51 (0, 0)) := (hW.block Kb (lt_of_block hk) (fun e => row_ne hk hV.long (by decide) e)).trans hk
    have hrW : IntRow B W (.slice au L.length cu) L := hr.only hW (fun k hk e => rows_apart (hr.base (Nat.zero_le _)) hV.long (by decide) k hk e)
    exact tidropa1_any hkW hrW hn hs x
  rw [← hFL] at hgd ⊢
  rw [← hN] at hlen e0 ⊢
  have HE0 := Lib.hid e0
  rw [e0] at ca
  clear h hu hFL hN e0
  go_enter Tryz.func75, Tryz.ntmps75
  go_upto_region 1 with fail
  refine wp_name fun W1 hW1 => ?_
  obtain ⟨Kb, hK⟩ : ∃ Kb, Kb = w.heap.size := ⟨_, rfl⟩
  have hb1 : Below w.heap.size w W1 := by rw [hW1.out]; exact (Below.refl _ _).alloc (Nat.le_refl _) _
  have HK1 : Hid (W1.heap[Kb]? = some (.cells #[.slice au L.length cu] 51 (0, 0))) := Lib.hid (by rw [hW1.out, hK]; exact heap_alloc_new w _)
  have HT1 := Lib.hid (HT.out.keep hb1)
  have HU1 := Lib.hid (HU.out.keep hb1)
  have HB1 := Lib.hid hb1
  replace ca := (hb1.cell (p := ⟨p, 3, none⟩) hp).trans ca
  rw [← hK]
  clear hW1 hb1 hK hp
  go_upto_region 2 with fail
  have HT2 := Lib.hid HT1.out.drew
  have HDX : Hid (Calls Tryz.prog 108 #[.slice am N cm, .func (.func 109) #[] #[.pointer (some ⟨Kb, 0, none⟩)]] W1.drew fun e w' => (∃ u', e = .returned u' ∧ AgRow 0 w' u' FL ∧ u'.ownBlock = vl.ownBlock) ∧ Only (fun k => vl.ownBlock = some k) W1.drew w') := Lib.hid (by rw [← HE0.out]; exact HDE.out _ Kb HT2.out HU1.out HK1.out)
  clear HDE
  go_region_with (go_at_call 108; refine HDX.out.mono ?_; rintro e W3 ⟨⟨u', rfl, hr3, hv3⟩, ho3⟩; obtain ⟨aa3, cc3, e3⟩ := own_slice hr3; subst e3; have HR3 := Lib.hid hr3; have HV3 := Lib.hid hv3; have HO3 := Lib.hid ho3; obtain ⟨cz, fz⟩ := HT2.out.at_long ho3; clear hr3 hv3 ho3; dsimp only)
  all_goals generalize hW4 : World.setCell _ _ _ = W4
  all_goals have HTR := Lib.hid (Turned.from (below_drew HB1.out) (HT2.out.dropped_long HO3.out HR3.out HV3.out hW4.symm hgd))
  all_goals have cy := HT2.out.put_long HO3.out hW4.symm
  all_goals clear hW4 cz fz ca hgd HR3
  all_goals go_wp2
  all_goals go_ret
  all_goals exact ⟨ret_i64 (by have := HFN.out; unfold wrap64; omega), HTR.out⟩
end Go.Proofs.YthbdchleppbidaaGreat
/- Package tier: points dropped. -/
namespace Go.Proofs.YthbdchleppbidaaGreat
open Go.RowKit

/-- the points at these ticks are gone -/
def dropR (r : List Pt) (K : List Int) : List Pt := r.filter fun q => !K.contains q.a
theorem dropR_nil (r : List Pt) : dropR r [] = r := List.filter_eq_self.2 fun _ _ => rfl
theorem dropR_snoc (r : List Pt) (K : List Int) (x : Int) : dropR r (K ++ [x]) = cutL (dropR r K) x (x + 1) := by
  unfold dropR cutL
  rw [List.filter_filter]
  refine List.filter_congr fun q _ => ?_
  rw [Bool.eq_iff_iff]
  simp only [Bool.not_eq_true', Bool.and_eq_true, List.contains_eq_mem, decide_eq_false_iff_not, List.mem_append, List.mem_singleton, Bool.and_eq_false_iff]
  constructor
  · intro h
    refine ⟨?_, fun hm => h (.inl hm)⟩
    rcases Int.lt_trichotomy q.a x with h1 | h1 | h1
    · exact .inl (by omega)
    · exact absurd (.inr h1) h
    · exact .inr (by omega)
  · rintro ⟨h1, h2⟩ (h3 | h3)
    · exact h2 h3
    · omega
theorem dropR_len (r : List Pt) (K : List Int) : (dropR r K).length ≤ r.length := List.length_filter_le _ _
theorem GoodT.dropR {s : Stk} (h : GoodT s) (K : List Int) : GoodT ⟨dropR s.raw K, s.mid, s.long, s.mm, s.ml⟩ :=
  ⟨filter_srt h.srt _, fun p hp => h.tick p (List.mem_filter.1 hp).1, fun p hp => h.pfits p (List.mem_filter.1 hp).1, Nat.le_trans (List.length_filter_le _ _) h.plen, h.mid, h.long, h.mm, h.ml⟩
/-- a row of numbers is none of a stock's blocks -/
theorem IntRow.notT {B : Nat} {w : World} {p sp : Nat} {v vm vl u : Value} {s : Stk} {L : List Int} (hu : IntRow B w u L) (h : TSit w p sp v vm vl s) : ∀ k, u.ownBlock = some k → ¬ TBlk p sp v vm vl k := by
  have hu0 := hu.base (Nat.zero_le B)
  rintro k hk (e | (e | e) | e | e)
  · exact row_ne h.at_ hu0 (by decide) (e ▸ hk)
  · exact row_ne h.ser.at_ hu0 (by decide) (e ▸ hk)
  · exact rows_apart hu0 h.ser.row (by decide) k hk e
  · exact rows_apart hu0 h.mid (by decide) k hk e
  · exact rows_apart hu0 h.long (by decide) k hk e
set_option maxHeartbeats 8000000 in
set_option maxRecDepth 100000 in
theorem tidropp_any {w : World} {B p sp : Nat} {v vm vl u : Value} {s : Stk} {L : List Int} (h : TSit w p sp v vm vl s) (hu : IntRow B w u L) (hn : L.length ≤ 1000000) (hx : ∀ x ∈ L, 0 ≤ x ∧ x ≤ 1099511627776) :
    Calls Tryz.prog 74 #[.pointer (some ⟨p, 0, none⟩), u] w fun e w' => e = .returned (.int .i64 ((s.raw.length - (dropR s.raw L).length : Nat) : Int)) ∧ Turned w w' p sp v vm vl ⟨dropR s.raw L, s.mid, s.long, s.mm, s.ml⟩ := by
  obtain ⟨au, cu, eu⟩ := own_slice hu
  subst eu
  have HT := Lib.hid h
  have HU := Lib.hid hu
  have HX := Lib.hid hx
  have hpl := h.good.plen
  have HOF : Hid (∀ V x, x ∈ L → Calls Tryz.prog 43 #[.int .i64 0, .int .i64 x] V fun e w' => e = .returned (.agg #[.int .i64 x, .int .i64 (x + 1)]) ∧ Below V.heap.size V w') := Lib.hid fun V x hm => by
    have h1 := hx x hm
    have h2 := wiof_any V 0 x (by omega) (by omega) (by omega) (by omega)
    have e1 : hasW 0 x = true := by unfold hasW widthW; rw [if_pos rfl, decide_eq_true (show (0 : Int) < 1 by omega), decide_eq_true h1.1]; rfl
    have e2 : startW 0 x = x := by unfold startW widthW; rw [if_pos e1, if_pos rfl]; omega
    have e3 : endW 0 x = x + 1 := by unfold endW; rw [if_pos e1, e2]; unfold widthW; rw [if_pos rfl]; omega
    rwa [e2, e3] at h2
  obtain ⟨N, hN⟩ : ∃ N, N = s.raw.length := ⟨_, rfl⟩
  have HNN := Lib.hid hN
  rw [← hN] at hpl ⊢
  clear h hu hx hN
  go_enter Tryz.func74, Tryz.ntmps74
  go_wp2_with fail
  go_loopw [5, 10] (fun d c wr => ∃ (k : Nat), k ≤ L.length ∧ c = .int .i64 k ∧ d = .int .i64 ((N - (dropR s.raw (L.take k)).length : Nat) : Int) ∧ Turned w wr p sp v vm vl ⟨dropR s.raw (L.take k), s.mid, s.long, s.mm, s.ml⟩) (fun _ c _ => L.length - (intOf c).toNat)
  case atStart =>
    refine ⟨0, Nat.zero_le _, rfl, ?_, ?_⟩
    · rw [List.take_zero, dropR_nil, ← HNN.out, Nat.sub_self]; rfl
    · rw [List.take_zero, dropR_nil]
      exact Turned.same HT.out (Below.refl _ _)
  case round =>
    obtain ⟨k, hk, rfl, rfl, htu⟩ := hrel
    obtain ⟨W2, hW2⟩ : ∃ W2, W2 = wr := ⟨_, rfl⟩
    subst hW2
    have HTU := Lib.hid htu
    clear htu
    by_cases hlt : k < L.length
    · obtain ⟨x, hx⟩ : ∃ x, L[k]? = some x := ⟨L[k], List.getElem?_eq_getElem hlt⟩
      have HXK := Lib.hid hx
      have HXM := Lib.hid (List.mem_of_getElem? hx)
      obtain ⟨v1, vm1, vl1, t1, t2, t3⟩ := HTU.out
      have HT1 := Lib.hid t1
      have HT2 := Lib.hid t2
      have HT3 := Lib.hid t3
      have HU2 : Hid (IntRow B W2 (.slice au L.length cu) L) := Lib.hid (HU.out.only t3 (HU.out.notT HT.out))
      obtain ⟨g, hau, hcc⟩ : ∃ g, au = some ⟨g, 0, none⟩ ∧ W2.cell? ⟨g, k, none⟩ = some (.int .i64 x) := by
        rcases HU2.out.opened with ⟨e, e2⟩ | ⟨g, cap, R, e, _, hg, _⟩
        · rw [e2] at hlt; simp at hlt
        · injection e with e _ _
          exact ⟨g, e, arr_int hg hx⟩
      clear t1 t2 t3 hx
      subst hau
      have hmax : k < 9223372036854775807 := by omega
      obtain ⟨D, hD⟩ : ∃ D, D = dropR s.raw (L.take k) := ⟨_, rfl⟩
      rw [← hD] at HT1
      have HDD := Lib.hid hD
      rw [← hD]
      clear hD HTU
      go_upto_region 5 with fail
      clear hcc
      have HV0 := Lib.hid HT1.out.drew
      have HB0 : Hid (Below W2.heap.size W2 W2.drew) := Lib.hid (below_drew (Below.refl _ _))
      have HOX : Hid (∀ V, Calls Tryz.prog 43 #[.int .i64 0, .int .i64 x] V fun e w' => e = .returned (.agg #[.int .i64 x, .int .i64 (x + 1)]) ∧ Below V.heap.size V w') := Lib.hid fun V => HOF.out V x HXM.out
      obtain ⟨y, hy⟩ : ∃ y, y = x + 1 := ⟨_, rfl⟩
      rw [← hy] at HOX
      have HC0 : Hid (W2.drew.cell? ⟨p, 0, none⟩ = some (.pointer (some ⟨sp, 0, none⟩))) := Lib.hid HV0.out.cells.c0
      have HCU : Hid (∀ V, TSit V p sp v1 vm1 vl1 ⟨D, s.mid, s.long, s.mm, s.ml⟩ → Calls Tryz.prog 62 #[.pointer (some ⟨sp, 0, none⟩), .agg #[.int .i64 x, .int .i64 y]] V fun e w' => e = .returned (.int .i64 ((getL D x y).length : Nat)) ∧ (∃ v', SerV w' sp v' (cutL D x y) ∧ v'.ownBlock = v1.ownBlock) ∧ Only (SBlk sp v1) V w') := Lib.hid fun V hV => secut_any hV.ser x y
      have HY := Lib.hid hy
      clear hy
      go_region_held3 (fun w' => w'.cell? ⟨p, 0, none⟩ = some (.pointer (some ⟨sp, 0, none⟩))) (first | with_reducible exact HC0.out | with_reducible exact HC1.out | with_reducible exact HC2.out) (((first | (go_at_call 43; refine (HOX.out _).mono ?_; clear HOX; rintro e V1 ⟨rfl, hb1⟩; have HB1 := Lib.hid (HB0.out.trans (hb1.mono HB0.out.size)); have HV1 := Lib.hid (HV0.out.keep hb1); have HC1 : Hid (V1.cell? ⟨p, 0, none⟩ = some (.pointer (some ⟨sp, 0, none⟩))) := Lib.hid HV1.out.cells.c0; clear hb1) | (go_at_call 62; refine (HCU.out _ HV1.out).mono ?_; clear HCU; rintro e V2 ⟨rfl, hs2, ho2⟩; have HS2 := Lib.hid hs2; have HO2 := Lib.hid ho2; have HC2 : Hid (V2.cell? ⟨p, 0, none⟩ = some (.pointer (some ⟨sp, 0, none⟩))) := Lib.hid ((World.cell?_of_block (a := ⟨p, 0, none⟩) (ho2.block p (lt_of_block HV1.out.at_) HV1.out.np)).trans HV1.out.cells.c0); clear hs2 ho2)); dsimp only))
      have HE : Hid (dropR s.raw (L.take (k + 1)) = cutL D x y) := Lib.hid (by rw [take_one HXK.out, dropR_snoc, HDD.out, HY.out])
      have HLN : Hid ((cutL D x y).length + (getL D x y).length = D.length ∧ D.length ≤ N) := Lib.hid ⟨cut_len_two D x y, by rw [HDD.out, HNN.out]; exact dropR_len _ _⟩
      have HTV : Hid (Turned w V2 p sp v vm vl ⟨cutL D x y, s.mid, s.long, s.mm, s.ml⟩) := Lib.hid (by
        obtain ⟨v', h1, h2⟩ := HS2.out
        have hg : GoodT ⟨cutL D x y, s.mid, s.long, s.mm, s.ml⟩ := good_cut HV1.out.good x y
        have h3 : Turned V1 V2 p sp v1 vm1 vl1 ⟨cutL D x y, s.mid, s.long, s.mm, s.ml⟩ := HV1.out.series HO2.out h1 (fun k hk => .inl (by rw [← h2]; exact hk)) hg
        exact Turned.then HT1.out HT2.out HT3.out (Turned.from HB1.out h3))
      clear HS2 HO2 HV1 HV0 HB0 HB1 HC0 HC1 HC2 HT1 HT2 HT3
      go_wp2_with fail
      go_roundw
      case rel =>
        refine ⟨k + 1, by omega, by go_num, ?_, by rw [HE.out]; exact HTV.out⟩
        rw [HE.out]
        have h1 := HLN.out
        congr 1
        rw [IntWalk.i64_in _ (by omega)]
        omega
      case measure => simp [intOf]; omega
    · have HE : Hid (L.take k = L) := Lib.hid (List.take_of_length_le (by omega))
      rw [HE.out] at HTU ⊢
      go_wp2_with fail
      go_ret
      exact ⟨rfl, HTU.out⟩
end Go.Proofs.YthbdchleppbidaaGreat
